import Derived.Test.YtjeahllaajpddaaMvMath
import Derived.Test.YtjeahllaajpddaaDrawPl
import Derived.Test.YtjeahllaajpddaaMove
import Derived.Test.YtjeahllaajpddaaLwI
import Derived.BigQuiet
import Derived.Deep.RegionHeld3
import Derived.Deep.CutRange
namespace Go.Proofs.Ytjeahllaajpddaa
open Go.RowKit
def xL (l : List (Int × Int)) (i : Nat) : Int := (l.getD i (0, 0)).1
def yL (l : List (Int × Int)) (i : Nat) : Int := (l.getD i (0, 0)).2
/-- nodes, and nodes of which one has grown or which has one more -/
structure GrewL (l l2 : List (Int × Int)) (k : Nat) : Prop where
  same : ∀ i, i < l.length → i ≠ k → l2.getD i (0, 0) = l.getD i (0, 0)
  at' : k < l2.length
  le : l.length ≤ l2.length
  lt : ∀ i, i < l2.length → i ≠ k → i < l.length
  up : k < l.length → xL l2 k = xL l k ∧ yL l k ≤ yL l2 k
theorem grewL_push (l : List (Int × Int)) (q : Int × Int) : GrewL l (l ++ [q]) l.length where
  same i hi _ := by simp [hi, List.getElem?_append_left]
  at' := by simp
  le := by simp
  lt i hi hne := by simp at hi; omega
  up h := absurd h (by omega)
theorem grewL_set (l : List (Int × Int)) (k : Nat) (V : Int) (hk : k < l.length) (hV : yL l k ≤ V) : GrewL l (l.set k (xL l k, V)) k where
  same i hi hne := by simp [Ne.symm hne]
  at' := by simpa using hk
  le := by simp
  lt i hi _ := by simpa using hi
  up _ := by simp [xL, yL, hk]; simpa [yL, hk] using hV
theorem grewL_none (l : List (Int × Int)) (k : Nat) (hk : k < l.length) : GrewL l l k where
  same _ _ _ := rfl
  at' := hk
  le := Nat.le_refl _
  lt _ hi _ := hi
  up _ := ⟨rfl, Int.le_refl _⟩
theorem GrewL.grew {l l2 : List (Int × Int)} {k : Nat} (h : GrewL l l2 k) (key : ByteArray) (hk : key.size ≤ 1000) (h1 : NdOk l.length (xL l) (yL l)) (h2 : NdOk l2.length (xL l2) (yL l2)) :
    Grew (xL l) (fun (i : Nat) => scoreV key l.length (xL l) (yL l) (i : Int)) l.length (xL l2) (fun (i : Nat) => scoreV key l2.length (xL l2) (yL l2) (i : Int)) l2.length k := by
  have e1 : ∀ i, i < l.length → scoreV key l.length (xL l) (yL l) (i : Int) = best key i (yL l i).toNat := fun i hi => scN_eq key l.length (xL l) (yL l) h1 hk i hi
  have e2 : ∀ i, i < l2.length → scoreV key l2.length (xL l2) (yL l2) (i : Int) = best key i (yL l2 i).toNat := fun i hi => scN_eq key l2.length (xL l2) (yL l2) h2 hk i hi
  refine ⟨fun i hi hne => by unfold xL; rw [h.same i hi hne], fun i hi hne => ?_, h.at', h.le, h.lt, fun hi => ⟨(h.up hi).1, ?_⟩⟩
  · show scoreV _ _ _ _ _ = scoreV _ _ _ _ _
    rw [e1 i hi, e2 i (Nat.lt_of_lt_of_le hi h.le)]
    unfold yL; rw [h.same i hi hne]
  · show scoreV _ _ _ _ _ ≤ scoreV _ _ _ _ _
    rw [e1 k hi, e2 k h.at']
    have hy0 := (h1.2.2 k hi).2.2.1
    have hu := (h.up hi).2
    have := best_mono key k (yL l k).toNat ((yL l2 k).toNat - (yL l k).toNat)
    rwa [show (yL l k).toNat + ((yL l2 k).toNat - (yL l k).toNat) = (yL l2 k).toNat by omega] at this
set_option maxRecDepth 20000 in
set_option maxHeartbeats 1000000 in
theorem lwHas_is (a : Option Addr) (len cap : Nat) (xs : List Int) (x : Int) (w : World) (h : Ints .i64 w a len cap xs) (hl : len ≤ 1048576) :
    Calls Try.prog 20 #[.slice a len cap, .int .i64 x] w fun e w' => e = .returned (.bool (decide (x ∈ xs))) ∧ w' = w := by
  have hx := h.1
  go_enter Try.func20, Try.ntmps20
  go_wp2
  go_loop [5] (fun y => ∃ k : Nat, k ≤ len ∧ y = .int .i64 k ∧ ∀ i, i < k → xs.getD i 0 ≠ x) (fun y => len - (intOf y).toNat)
  case atStart => exact ⟨0, Nat.zero_le _, rfl, fun i hi => absurd hi (Nat.not_lt_zero _)⟩
  case round =>
    obtain ⟨k, hk, rfl, hne⟩ := hrel
    have HN := hid hne
    clear hne
    by_cases hlt : k < len
    · rcases h.2.2 with h00 | ⟨b, off, rfl, hbl, hc⟩
      · omega
      · have c1 : w.cell? ⟨b, off + k, none⟩ = some (.int .i64 (xs.getD k 0)) := hc k hlt
        have hlt' : (k : Int) < (len : Int) := by omega
        have i0 : (0 : Int) ≤ (k : Int) := by omega
        obtain ⟨z, hz⟩ : ∃ z, z = xs.getD k 0 := ⟨_, rfl⟩
        have HZ := hid hz
        rw [← hz] at c1
        clear hz hc h
        by_cases e : z = x
        · have hm : Hid (decide (x ∈ xs) = true) := by
            show _ = _
            rw [decide_eq_true_iff, ← e, HZ.out, List.getD_eq_getElem?_getD, List.getElem?_eq_getElem (by omega)]; simp
          have d0 : (z == x) = true := by simpa using e
          clear e
          go_wp2
          go_ret
          exact ⟨by rw [hm.out]; rfl, rfl⟩
        · have d0 : (z == x) = false := by simpa using e
          have HN' : Hid (∀ i, i < k + 1 → xs.getD i 0 ≠ x) := fun i hi => by
            by_cases e2 : i = k
            · rw [e2, ← HZ.out]; exact e
            · exact HN.out i (by omega)
          clear e
          go_wp2
          go_round
          case rel => exact ⟨k + 1, by omega, by go_num, HN'.out⟩
          case measure => simp [intOf]; omega
    · have hm : Hid (decide (x ∈ xs) = false) := by
        show _ = _
        rw [decide_eq_false_iff_not]
        intro hx2
        obtain ⟨i, hi, e⟩ := List.getElem_of_mem hx2
        refine HN.out i (by omega) ?_
        rw [List.getD_eq_getElem?_getD, List.getElem?_eq_getElem hi]; exact e
      go_wp2
      go_ret
      exact ⟨by rw [hm.out]; rfl, rfl⟩
theorem moves_pl {l l2 : List (Int × Int)} {k : Nat} (hG : GrewL l l2 k) (h1 : NdOk l.length (xL l) (yL l)) (h2 : NdOk l2.length (xL l2) (yL l2)) (key : ByteArray) (m : Int) (h : plC key l.length (xL l) (yL l) m = 0) :
    plC key l2.length (xL l2) (yL l2) m = 0 ∧ (∀ v ∈ plL key l2.length (xL l2) (yL l2) m, v ∉ plL key l.length (xL l) (yL l) m → v = (k : Int)) ∧ ((plL key l.length (xL l) (yL l) m).length : Int) = m ∧ ((plL key l2.length (xL l2) (yL l2) m).length : Int) = m := by
  unfold plC at h
  by_cases hc : NdOk l.length (xL l) (yL l) ∧ 1 ≤ m ∧ m ≤ 64 ∧ key.size ≤ 1000
  case neg => rw [if_neg hc] at h; omega
  rw [if_pos hc] at h
  have hc2 : NdOk l2.length (xL l2) (yL l2) ∧ 1 ≤ m ∧ m ≤ 64 ∧ key.size ≤ 1000 := ⟨h2, hc.2⟩
  cases hg : gr (xL l) (fun (i : Nat) => scoreV key l.length (xL l) (yL l) (i : Int)) l.length m.toNat with
  | none => rw [hg] at h; simp at h
  | some d =>
    obtain ⟨d2, hg2, hB⟩ := both_all (hG.grew key hc.2.2.2 h1 h2) m.toNat d hg
    have hn1 := gr_len _ _ _ _ _ hg
    have hn2 := gr_len _ _ _ _ _ hg2
    unfold plC plL
    rw [if_pos hc, if_pos hc2, if_pos hc2, hg, hg2]
    refine ⟨rfl, fun v hv hno => ?_, ?_, ?_⟩
    · simp only [Option.getD_some, List.mem_map] at hv hno
      obtain ⟨i, hi, rfl⟩ := hv
      rw [hB.new i hi (fun q => hno ⟨i, q, rfl⟩)]
    · simp only [Option.getD_some, List.length_map, hn1]; omega
    · simp only [Option.getD_some, List.length_map, hn2]; omega
theorem fldP (x0 x1 : Value) (w : World) : (Instr.field 34 (.agg #[x0, x1]) 0).run Try.prog w = .ok x0 w := by kernel_rfl
/-- what stands while the moves are held against the promise -/
structure MvW (w W : World) (bA bB : Nat) (C C2 : Int) (va : Option Addr) (n vc : Nat) (ga : Option Addr) (n2 gc : Nat) (l l2 : List (Int × Int)) (a1 : Option Addr) (c1 : Nat) (us : List Int) (a2 : Option Addr) (c2 : Nat) (vs : List Int) : Prop where
  L : Below w.heap.size w W
  A : RowAt W bA 34 #[.int .i64 C, .slice a1 us.length c1]
  B : RowAt W bB 34 #[.int .i64 C2, .slice a2 vs.length c2]
  I : Ints .i64 W a1 us.length c1 us
  J : Ints .i64 W a2 vs.length c2 vs
  N : Prs W va n vc (xL l) (yL l)
  G : Prs W ga n2 gc (xL l2) (yL l2)
section
variable {w W W' : World} {bA bB : Nat} {C C2 : Int} {va : Option Addr} {n vc : Nat} {ga : Option Addr} {n2 gc : Nat} {l l2 : List (Int × Int)} {a1 : Option Addr} {c1 : Nat} {us : List Int} {a2 : Option Addr} {c2 : Nat} {vs : List Int}
theorem MvW.below (h : MvW w W bA bB C C2 va n vc ga n2 gc l l2 a1 c1 us a2 c2 vs) (hb : Below W.heap.size W W') : MvW w W' bA bB C C2 va n vc ga n2 gc l l2 a1 c1 us a2 c2 vs :=
  ⟨h.L.trans (hb.mono h.L.size), h.A.below hb h.A.lt, h.B.below hb h.B.lt, h.I.below hb, h.J.below hb, h.N.below hb, h.G.below hb⟩
theorem MvW.drew (h : MvW w W bA bB C C2 va n vc ga n2 gc l l2 a1 c1 us a2 c2 vs) : MvW w W.drew bA bB C C2 va n vc ga n2 gc l l2 a1 c1 us a2 c2 vs :=
  h.below (Below.refl _ W).drew
end
/-- rows of nodes that a slice owns, as they are read -/
theorem prs_own {w : World} {base : Nat} {e : TypeId} {a : Option Addr} {m cap : Nat} {l : List (Int × Int)} (h : w.ownsRow base e 2 (.slice a m cap) l.length (flP l)) : Prs w a l.length cap (xL l) (yL l) := Prs.of_own h
set_option maxRecDepth 20000 in
set_option maxHeartbeats 4000000 in
theorem fnMoves_small (a : Option Addr) (len cap : Nat) (a9 : Option Addr) (len9 cap9 : Nat) (w : World) (hc : CodeOk w a len) (hlc : len ≤ cap) (hc9 : CodeOk w a9 len9) (hl : len ≤ 1048576) (hl9 : len9 ≤ 1048576) :
    Calls Try.prog 5 #[.slice a len cap, .slice a9 len9 cap9] w fun e w' => e = .returned (.bool true) ∧ Below w.heap.size w w' := by
  have d0 : decide ((1048576 : Int) < (len : Int)) = false := by simp; omega
  have d1 : decide ((1048576 : Int) < (len9 : Int)) = false := by simp; omega
  have HC9 := hid hc9
  clear hc9
  go_enter Try.func5, Try.ntmps5
  go_wp2_with fail
  refine (drawPl_all w a len cap hc hlc).mono ?_
  rintro e w1 ⟨⟨l, va, vc, key, m, rfl, hln, hks, ho⟩, hb1⟩
  have O1 := hid ho
  have L1 := hid hb1
  clear hb1 hc
  have NF := hid (sNodes va l.length vc (xL l) (yL l) (by omega) w1 (prs_own ho))
  clear ho
  by_cases hok : NdOk l.length (xL l) (yL l)
  case neg =>
    have F : Hid (ndF l.length (xL l) (yL l) = 1) := if_neg hok
    rw [F.out] at NF
    go_wp2_with fail
    refine NF.out.mono ?_
    rintro e w2 ⟨rfl, rfl⟩
    go_wp2
    go_ret
    exact ⟨rfl, L1.out⟩
  have F : Hid (ndF l.length (xL l) (yL l) = 0) := if_pos hok
  rw [F.out] at NF
  obtain ⟨g, rfl, hgb⟩ : ∃ g, va = some ⟨g, 0, none⟩ ∧ w.heap.size ≤ g := by
    rcases O1.out.2 with ⟨_, h0⟩ | ⟨g, cap', cur, h', hb, _⟩
    · have := hok.1; omega
    · simp only [Value.slice.injEq] at h'
      exact ⟨g, h'.1, hb⟩
  have hn1 := hok.1
  obtain ⟨n, hn⟩ : ∃ n, n = l.length := ⟨_, rfl⟩
  have HN := hid hn
  rw [← hn] at NF hln hn1 O1 ⊢
  have dn : ((n : Int) == 200) = false := by simp; omega
  clear hn
  go_wp2_with fail
  refine NF.out.mono ?_
  rintro e w2 ⟨rfl, h2⟩
  have h2s := h2.symm
  subst h2s
  clear NF F
  -- the copy
  obtain ⟨i0, hi, hz0, hz1, hz2⟩ := info_parts (P := Try.prog) (e := 38) (z := .agg #[.int .i64 0, .int .i64 0]) (size := 2) (bytes := 16) (by kernel_rfl)
  have OE : (w1.alloc (.cells #[] 38)).ownsRow w1.heap.size 38 2 (.slice (some ⟨w1.heap.size, 0, none⟩) 0 0) 0 [] := World.ownsRow_made w1 #[] 0 (Nat.le_refl _) (by decide) (by rfl)
  have OA := hid (O1.out.alloc (.cells #[] 38))
  obtain ⟨v', w3, hrun, ho3, hg3, _⟩ := run_append_fresh (P := Try.prog) (w1.alloc (.cells #[] 38)) w1.heap.size 29 29 38 i0 _ 2 16 Try.underlying29 hi hz0 hz1 hz2 rfl (by decide) _ 0 [] OE ⟨g, 0, none⟩ n vc (flP l) (by rw [flP_len, HN.out])
    (fun j u hj => OA.out.cells (g := g) rfl j u hj) (fun u hu => by
      unfold flP at hu
      obtain ⟨q, _, h⟩ := List.mem_flatMap.1 hu
      simp at h
      rcases h with rfl | rfl <;> rfl) (by unfold maxLen; omega) (by omega) (by simp)
  rw [Nat.zero_add, List.nil_append] at ho3
  obtain ⟨g3, c3, rfl, hg3b⟩ : ∃ g3 c3, v' = .slice (some ⟨g3, 0, none⟩) n c3 ∧ w1.heap.size ≤ g3 := by
    rcases ho3.2 with ⟨_, h0⟩ | ⟨g3, cap', cur, h', hb, _⟩
    · omega
    · exact ⟨g3, cap', h', hb⟩
  have HRUN := hid hrun
  have G3 : Hid (w1.grownBy w3 (some w1.heap.size)) := grown_trans (World.grownBy_alloc w1 _ _) hg3
  have hgl1 : g < w1.heap.size := (O1.out.lt g rfl).2
  have L3 : Hid (Below w.heap.size w w3) := L1.out.grown G3.out L1.out.size (fun q hq => by cases hq; exact L1.out.size)
  have O3 := hid ho3
  have P3 : Hid (w3.ownsRow w.heap.size 38 2 (.slice (some ⟨g, 0, none⟩) n vc) n (flP l)) := O1.out.kept G3.out (.inr (fun e => by have := Option.some.inj e; simp at this; omega))
  have C3 := hid (HC9.out.below L3.out)
  have A0 := hid (lwAt_all w3 a9 len9 cap9 0 C3.out (by omega))
  have A1 := hid (lwAt_all w3 a9 len9 cap9 1 C3.out (by omega))
  have A2 := hid (lwAt_all w3 a9 len9 cap9 2 C3.out (by omega))
  have A3 := hid (lwAt_all w3 a9 len9 cap9 3 C3.out (by omega))
  clear hrun ho3 hg3 OE OA hi hz0 hz1 hz2
  go_wp2_with (at_builtin; refine list_appZ _ rfl _ _ 29 29 rfl _ _ rfl rfl HRUN.out ?_)
  refine A0.out.mono ?_
  rintro e w4 ⟨⟨r0, rfl, hr0⟩, h4⟩
  have h4s := h4.symm
  subst h4s
  obtain ⟨K, hK⟩ : ∃ K, K = r0 % n := ⟨_, rfl⟩
  have hKn : K < n := by rw [hK]; exact Nat.mod_lt _ (by omega)
  have eK1 : (r0 : Int).tmod (n : Int) = (K : Int) := by rw [Int.tmod_eq_emod_of_nonneg (by omega), hK]; rfl
  have eK2 : (r0 : Int) % (n : Int) = (K : Int) := by rw [hK]; rfl
  have nz : ¬ (n : Int) = 0 := by omega
  clear hK
  go_wp2_with fail
  refine A1.out.mono ?_
  rintro e w4 ⟨⟨r1, rfl, hr1⟩, h4⟩
  have h4s := h4.symm
  subst h4s
  have e31 : (r1 : Int).tmod 3 = ((r1 % 3 : Nat) : Int) := by rw [Int.tmod_eq_emod_of_nonneg (by omega)]; omega
  obtain ⟨q1, hq1⟩ : ∃ q, q = r1 % 3 := ⟨_, rfl⟩
  have e32 : (r1 : Int) % 3 = (q1 : Int) := by omega
  rw [← hq1] at e31
  clear hq1
  by_cases q0 : q1 = 0
  · have dq : ((q1 : Int) == 0) = true := by simp [q0]
    go_wp2_with fail
    refine A2.out.mono ?_
    rintro e w4 ⟨⟨r2, rfl, hr2⟩, h4⟩
    have h4s := h4.symm
    subst h4s
    obtain ⟨D2, hD2⟩ : ∃ D, D = r2 % 8 := ⟨_, rfl⟩
    have e81 : (r2 : Int).tmod 8 = (D2 : Int) := by rw [Int.tmod_eq_emod_of_nonneg (by omega)]; omega
    have e82 : (r2 : Int) % 8 = (D2 : Int) := by omega
    have hD : D2 < 8 := by omega
    clear hD2
    go_wp2_with fail
    refine A3.out.mono ?_
    rintro e w4 ⟨⟨r3, rfl, hr3⟩, h4⟩
    have h4s := h4.symm
    subst h4s
    obtain ⟨W2, hW2⟩ : ∃ D, D = r3 % 9 := ⟨_, rfl⟩
    have e91 : (r3 : Int).tmod 9 = (W2 : Int) := by rw [Int.tmod_eq_emod_of_nonneg (by omega)]; omega
    have e92 : (r3 : Int) % 9 = (W2 : Int) := by omega
    have hW : W2 < 9 := by omega
    clear hW2
    obtain ⟨v5, w5, hr5, ho5, hg5, ga, gc, rfl⟩ := nd_append w3 w1.heap.size n _ _ (D2 : Int) (W2 : Int) (by omega) (by have := G3.out.size; omega) O3.out 29
    have HR5 := hid hr5
    have O5 : Hid (w5.ownsRow w1.heap.size 38 2 (.slice ga (l ++ [((D2 : Int), (W2 : Int))]).length gc) (l ++ [((D2 : Int), (W2 : Int))]).length (flP (l ++ [((D2 : Int), (W2 : Int))]))) := by
      show World.ownsRow _ _ _ _ _ _ _; rw [List.length_append, flP_snoc, ← HN.out]; exact ho5
    have P5 : Hid (w5.ownsRow w.heap.size 38 2 (.slice (some ⟨g, 0, none⟩) n vc) n (flP l)) := P3.out.kept hg5 (.inr (fun e => by have := (O3.out.lt _ e.symm).1; have e2 := Option.some.inj (show some g = some g3 from e); omega))
    have L5 : Hid (Below w.heap.size w w5) := L3.out.grown hg5 L3.out.size (fun q hq => by have := (O3.out.lt _ hq).1; have := L1.out.size; omega)
    have HG := hid (grewL_push l ((D2 : Int), (W2 : Int)))
    have HOK2 : Hid (NdOk (l ++ [((D2 : Int), (W2 : Int))]).length (xL (l ++ [((D2 : Int), (W2 : Int))])) (yL (l ++ [((D2 : Int), (W2 : Int))]))) := by
      refine ⟨by simp, by simp; have := HN.out; omega, fun i hi => ?_⟩
      by_cases e : i < l.length
      · have := hok.2.2 i e
        simpa [xL, yL, e, List.getElem?_append_left] using this
      · have e2 : i = l.length := by simp at hi; omega
        subst e2
        simp [xL, yL]; omega
    obtain ⟨l2, hl2⟩ : ∃ l2, l2 = l ++ [((D2 : Int), (W2 : Int))] := ⟨_, rfl⟩
    have hl2n : Hid (l2.length = n + 1) := by rw [hl2, List.length_append, ← HN.out]; rfl
    rw [← hl2] at O5 HG HOK2
    rw [← HN.out] at HG
    clear hr5 ho5 hg5 hl2
    go_wp2_with (at_builtin; refine list_appZ _ rfl _ _ 29 29 rfl _ _ rfl rfl HR5.out ?_)
    have PN5 : Hid (Prs w5 (some ⟨g, 0, none⟩) n vc (xL l) (yL l)) := by
      have q := P5.out
      show Prs _ _ _ _ _ _
      rw [HN.out] at q ⊢
      exact prs_own q
    have PG5 : Hid (Prs w5 ga (n + 1) gc (xL l2) (yL l2)) := by
      have q := prs_own O5.out
      rw [hl2n.out] at q
      exact q
    have MP := hid (moves_pl HG.out hok HOK2.out key m)
    rw [← HN.out, hl2n.out] at MP
    have IPa := hid (iAnsPl (some ⟨g, 0, none⟩) n vc (xL l) (yL l) (by omega) key (by omega) m w5 PN5.out)
    have IPb := fun W (h : Prs W ga (n + 1) gc (xL l2) (yL l2)) => hid (iAnsPl ga (n + 1) gc (xL l2) (yL l2) (by omega) key (by omega) m W h)
    have SPa := fun W (h : Prs W (some ⟨g, 0, none⟩) n vc (xL l) (yL l)) => hid (sAnsPl (some ⟨g, 0, none⟩) n vc (xL l) (yL l) (by omega) key (by omega) m W h)
    have SPb := fun W (h : Prs W ga (n + 1) gc (xL l2) (yL l2)) => hid (sAnsPl ga (n + 1) gc (xL l2) (yL l2) (by omega) key (by omega) m W h)
    have MVC := fun W (h : Prs W (some ⟨g, 0, none⟩) n vc (xL l) (yL l)) (h' : Prs W ga (n + 1) gc (xL l2) (yL l2)) ka kc (hk : Strs W ka 2 kc (fun _ => key)) => hid (iMove (some ⟨g, 0, none⟩) n vc (xL l) (yL l) (by omega) ga (n + 1) gc (xL l2) (yL l2) (by omega) ka 2 kc (fun _ => key) (by omega) (fun _ _ => by omega) m W h h' hk)
    have MVV : Hid (mvV (fun _ => key) 2 n (xL l) (yL l) (n + 1) (xL l2) (yL l2) m = mvK key n (xL l) (yL l) (n + 1) (xL l2) (yL l2) m + mvK key n (xL l) (yL l) (n + 1) (xL l2) (yL l2) m) := by
      have q1 := hok
      have q2 := HOK2.out
      rw [← HN.out] at q1
      rw [hl2n.out] at q2
      show mvV _ _ _ _ _ _ _ _ _ = _
      unfold mvV
      rw [if_pos ⟨q1, q2, by omega⟩]
      show (0 + _) + _ = _
      rw [Int.zero_add]
    have MVK : Hid (mvK key n (xL l) (yL l) (n + 1) (xL l2) (yL l2) m = if plC key n (xL l) (yL l) m = 0 ∧ plC key (n + 1) (xL l2) (yL l2) m = 0 then (nwc (plL key n (xL l) (yL l) m) (plL key (n + 1) (xL l2) (yL l2) m) : Int) else 0) := rfl
    have u1 := plL_len key n (xL l) (yL l) m
    have u2 := plL_len key (n + 1) (xL l2) (yL l2) m
    rw [MVV.out] at MVC
    obtain ⟨Z, hZ⟩ : ∃ Z, Z = mvK key n (xL l) (yL l) (n + 1) (xL l2) (yL l2) m := ⟨_, rfl⟩
    obtain ⟨C, hC⟩ : ∃ C, C = plC key n (xL l) (yL l) m := ⟨_, rfl⟩
    obtain ⟨C2, hC2⟩ : ∃ C, C = plC key (n + 1) (xL l2) (yL l2) m := ⟨_, rfl⟩
    obtain ⟨us, hU⟩ : ∃ us, us = plL key n (xL l) (yL l) m := ⟨_, rfl⟩
    obtain ⟨vs, hV⟩ : ∃ us, us = plL key (n + 1) (xL l2) (yL l2) m := ⟨_, rfl⟩
    rw [← hZ] at MVC
    rw [← hZ, ← hC, ← hC2, ← hU, ← hV] at MVK
    rw [← hC, ← hC2, ← hU, ← hV] at MP
    rw [← hC, ← hU] at IPa SPa
    rw [← hC2, ← hV] at IPb SPb
    rw [← hU] at u1
    rw [← hV] at u2
    clear hZ hC hC2 hU hV MVV P5 O5 hok HOK2 HG A0 A1 A2 A3 C3
    refine IPa.out.mono ?_
    rintro e w6 ⟨a1, c1, rfl, ho6, hb6⟩
    have L6 : Hid (Below w.heap.size w w6) := L5.out.trans (hb6.mono L5.out.size)
    have N6 := hid (PN5.out.below hb6)
    have G6 := hid (PG5.out.below hb6)
    have I6 := hid ho6.ints
    clear ho6 hb6 IPa PN5 PG5 L5
    obtain ⟨w7, hw7⟩ : ∃ v, v = w6.alloc (.cells #[.int .i64 C, .slice a1 us.length c1] 34) := ⟨_, rfl⟩
    have L7 : Hid (Below w.heap.size w w7) := by rw [hw7]; exact L6.out.alloc L6.out.size _
    have N7 : Hid (Prs w7 (some ⟨g, 0, none⟩) n vc (xL l) (yL l)) := by rw [hw7]; exact N6.out.below ((Below.refl _ w6).alloc (Nat.le_refl _) _)
    have G7 : Hid (Prs w7 ga (n + 1) gc (xL l2) (yL l2)) := by rw [hw7]; exact G6.out.below ((Below.refl _ w6).alloc (Nat.le_refl _) _)
    have I7 : Hid (Ints .i64 w7 a1 us.length c1 us) := by rw [hw7]; exact I6.out.alloc _
    have A7 : Hid (RowAt w7 w6.heap.size 34 #[.int .i64 C, .slice a1 us.length c1]) := by rw [hw7]; exact RowAt.new _ _ _
    have HW7 := hid hw7
    have IB := IPb w7 G7.out
    clear hw7 IPb L6 N6 G6 I6
    go_wp2_with fail
    rw [← HW7.out]
    clear HW7
    refine IB.out.mono ?_
    rintro e w8 ⟨a2, c2, rfl, ho8, hb8⟩
    obtain ⟨w9, hw9⟩ : ∃ v, v = w8.alloc (.cells #[.int .i64 C2, .slice a2 vs.length c2] 34) := ⟨_, rfl⟩
    have M9 : Hid (MvW w w9 w6.heap.size w8.heap.size C C2 (some ⟨g, 0, none⟩) n vc ga (n + 1) gc l l2 a1 c1 us a2 c2 vs) := by
      have b9 : Below w8.heap.size w8 w9 := by rw [hw9]; exact (Below.refl _ w8).alloc (Nat.le_refl _) _
      have b79 : Below w7.heap.size w7 w9 := hb8.trans (b9.mono hb8.size)
      exact ⟨L7.out.trans (b79.mono L7.out.size), A7.out.below b79 A7.out.lt, by rw [hw9]; exact RowAt.new _ _ _, I7.out.below b79, by rw [hw9]; exact ho8.ints.alloc _, N7.out.below b79, G7.out.below b79⟩
    have HW9 := hid hw9
    clear hw9 ho8 hb8 IB L7 N7 G7 I7 A7
    go_upto_region 15 with fail
    rw [← HW9.out]
    clear HW9
    go_cut [111] from 94 to 111 (fun c wx => c = .bool false ∧ MvW w wx w6.heap.size w8.heap.size C C2 (some ⟨g, 0, none⟩) n vc ga (n + 1) gc l l2 a1 c1 us a2 c2 vs)
    case first =>
      have x0 := M9.out.A.cell 0
      have y0 := M9.out.B.cell 0
      have dC : (C != C) = false := by simp
      have dC2 : (C2 != C2) = false := by simp
      have hf := fldP
      have K2 : ∀ W, Below w9.heap.size w9 W → W.cell? ⟨w6.heap.size, 0, none⟩ = some (.int .i64 C) ∧ W.cell? ⟨w8.heap.size, 0, none⟩ = some (.int .i64 C2) := fun W hb => ⟨(M9.out.below hb).A.cell 0, (M9.out.below hb).B.cell 0⟩
      have HK2 := hid K2
      clear K2
      go_region_held3 (fun wx => wx.cell? ⟨w6.heap.size, 0, none⟩ = some (.int .i64 C) ∧ wx.cell? ⟨w8.heap.size, 0, none⟩ = some (.int .i64 C2)) ((first | (go_keep; done) | exact HK2.out _ BB | exact HK2.out _ AA)) ((first
        | (go_at_call 16; (fail_if_success have hh := hbA); refine (SPa _ (M9.out.drew.N)).out.mono ?_; rintro e wA ⟨aA, cA, rfl, _, hbA⟩; have AA : Below w9.heap.size w9 wA := (Below.refl _ w9).drew.trans hbA)
        | (go_at_call 16; refine (SPb _ ((M9.out.below AA).G)).out.mono ?_; rintro e wB ⟨aB, cB, rfl, _, hbB⟩; have BB : Below w9.heap.size w9 wB := AA.trans (hbB.mono AA.size))))
      all_goals go_wp2_with fail
      all_goals go_meet
      all_goals exact ⟨rfl, M9.out.below BB⟩
    case rest =>
      obtain ⟨rfl, hM⟩ := hcut
      have HM := hid hM
      clear hM M9 SPa SPb
      have x0 := HM.out.A.cell 0
      have x1 := HM.out.A.cell 1
      have y0 := HM.out.B.cell 0
      have y1 := HM.out.B.cell 1
      by_cases e0 : C = 0
      case neg =>
        have d2 : (C != 0) = true := by simp [e0]
        go_wp2
        go_ret
        exact ⟨rfl, HM.out.L⟩
      obtain ⟨e2, hnew, hm1, hm2⟩ := MP.out e0
      subst e0
      subst e2
      have dm1 : (((us.length : Nat) : Int) != m) = false := by simp [hm1]
      have dm2 : (((vs.length : Nat) : Int) != m) = false := by simp [hm2]
      have HNEW := hid hnew
      have EZ : Hid (Z = (nwc us vs : Int)) := by show _ = _; rw [MVK.out, if_pos ⟨rfl, rfl⟩]
      clear MP MVK hnew hm1 hm2
      go_wp2_with fail
      clear x0 x1 y0 y1 dm1 dm2
      go_loopw [12, 13] (fun q r wr => ∃ i : Nat, i ≤ vs.length ∧ q = .int .i64 (nwc us (vs.take i) : Int) ∧ r = .int .i64 (i : Int) ∧ MvW w wr w6.heap.size w8.heap.size 0 0 (some ⟨g, 0, none⟩) n vc ga (n + 1) gc l l2 a1 c1 us a2 c2 vs) (fun _ r _ => vs.length - (intOf r).toNat)
      case atStart => exact ⟨0, Nat.zero_le _, by simp [nwc], rfl, HM.out⟩
      case round =>
        obtain ⟨i, hi, rfl, rfl, hMr⟩ := hrel
        have HMr := hid hMr
        clear hMr HM
        have x1 := HMr.out.A.cell 1
        have y1 := HMr.out.B.cell 1
        by_cases hlt : i < vs.length
        · have hlt' : (i : Int) < ((vs.length : Nat) : Int) := by omega
          have i0 : (0 : Int) ≤ (i : Int) := by omega
          rcases HMr.out.J.2.2 with q0 | ⟨bv, ov, rfl, hbv, hcv⟩
          · omega
          have cv := hcv i hlt
          have NT := nwc_take us vs i hlt
          have NB := nwc_le us (vs.take i)
          rw [List.length_take] at NB
          obtain ⟨u, hu⟩ : ∃ u, u = vs.getD i 0 := ⟨_, rfl⟩
          have humem : u ∈ vs := by rw [hu]; simp [hlt]
          rw [← hu] at cv NT
          obtain ⟨Nn, hNn⟩ : ∃ N, N = nwc us (vs.take i) := ⟨_, rfl⟩
          rw [← hNn] at NT NB ⊢
          have HNT := hid NT
          have hNE := hid (HNEW.out u humem)
          clear NT hNn hu hcv humem
          go_wp2_with fail
          go_region_held3 (fun wx => wx.cell? ⟨w6.heap.size, 1, none⟩ = some (.slice a1 us.length c1) ∧ wx.cell? ⟨w8.heap.size, 1, none⟩ = some (.slice (some ⟨bv, ov, none⟩) vs.length c2) ∧ wx.cell? ⟨bv, ov + i, none⟩ = some (.int .i64 u)) ((first | (go_keep; done))) ((go_at_call 20; refine (lwHas_is a1 us.length c1 us u _ HMr.out.drew.I (by omega)).mono ?_; rintro e wH ⟨rfl, rfl⟩))
          have x1' : wr.drew.cell? ⟨w8.heap.size, 1, none⟩ = some (.slice (some ⟨bv, ov, none⟩) vs.length c2) := y1
          have cv' : wr.drew.cell? ⟨bv, ov + i, none⟩ = some (.int .i64 u) := cv
          by_cases q : u ∈ us
          · have dq2 : decide (u ∈ us) = true := by simp [q]
            have EN : Hid (nwc us (vs.take (i + 1)) = Nn) := by show _ = _; rw [HNT.out, if_pos q]; rfl
            rw [dq2]
            go_wp2
            go_roundw
            case rel => exact ⟨i + 1, hlt, by rw [EN.out], by go_num, HMr.out.drew⟩
            case measure => simp [intOf]; omega
          · have dq2 : decide (u ∈ us) = false := by simp [q]
            have EN : Hid (nwc us (vs.take (i + 1)) = Nn + 1) := by show _ = _; rw [HNT.out, if_neg q]
            have hue := hNE.out q
            subst hue
            rw [dq2]
            go_wp2
            go_roundw
            case rel => exact ⟨i + 1, hlt, by rw [EN.out]; go_num, by go_num, HMr.out.drew⟩
            case measure => simp [intOf]; omega
        · have hlt' : ¬ (i : Int) < ((vs.length : Nat) : Int) := by omega
          have EN : Hid (nwc us (vs.take i) = nwc us vs) := by show _ = _; rw [List.take_of_length_le (by omega)]
          have NB := nwc_le us vs
          obtain ⟨Nn, hNn⟩ : ∃ N, N = nwc us vs := ⟨_, rfl⟩
          rw [← hNn] at EN EZ NB
          rw [EN.out]
          have bK : Hid (∀ o, Below wr.heap.size wr (wr.alloc o)) := fun o => (Below.refl _ wr).alloc (Nat.le_refl _) _
          have MC := MVC (wr.alloc (.cells #[.string key, .string key] 9)) ((HMr.out.below (bK.out _)).N) ((HMr.out.below (bK.out _)).G) (some ⟨wr.heap.size, 0, none⟩) 2
            ⟨by omega, .inr ⟨wr.heap.size, 0, rfl, by simp, fun i hi => by
              have R := RowAt.new wr 9 #[.string key, .string key]
              rcases (by omega : i = 0 ∨ i = 1) with rfl | rfl
              · exact R.cell 0
              · exact R.cell 1⟩⟩
          rw [EZ.out] at MC
          have eN : ((Nn : Int) + (Nn : Int) == 2 * (Nn : Int)) = true := by simp; omega
          clear hNn MVC
          go_wp2_with fail
          refine MC.out.mono ?_
          rintro e wE ⟨rfl, hbE⟩
          have LE : Hid (Below w.heap.size w wE) := ((HMr.out.below (bK.out _)).L).trans (hbE.mono ((HMr.out.below (bK.out _)).L).size)
          clear hbE
          go_wp2
          go_ret
          exact ⟨rfl, LE.out⟩
  · have dq : ((q1 : Int) == 0) = false := by simp; omega
    have hKl : K < l.length := by rw [← HN.out]; exact hKn
    have cY : w3.cell? ⟨g3, K * 2 + 1, none⟩ = some (.int .i64 (yL l K)) := (World.ownsRow.cellAt O3.out (K * 2 + 1) (by omega)).trans (flP_get l K hKl).2
    have fY := World.ownsRow.frozenAt O3.out (K * 2 + 1)
    have hyb := (hok.2.2 K hKl).2.2
    have hK' : (K : Int) < (n : Int) := by omega
    have hK0 : (0 : Int) ≤ (K : Int) := by omega
    obtain ⟨Y, hY⟩ : ∃ Y, Y = yL l K := ⟨_, rfl⟩
    rw [← hY] at cY hyb
    have HY := hid hY
    clear hY
    by_cases h64 : Y < 64
    · have d64 : decide (Y < 64) = true := by simp; omega
      have A4 := fun W (h : CodeOk W a9 len9) => hid (lwAt_all W a9 len9 cap9 4 h (by omega))
      have cYd : w3.drew.cell? ⟨g3, K * 2 + 1, none⟩ = some (.int .i64 Y) := cY
      have fYd : w3.drew.frozen? ⟨g3, K * 2 + 1, none⟩ = false := fY
      have C3d : CodeOk w3.drew a9 len9 := C3.out
      have HC3d := hid C3d
      clear C3d
      have eY1 : IntKind.i64.wrap (Y + 1) = Y + 1 := by rw [IntKind.wrap_i64]; omega
      have eY2 : IntKind.i64.wrap (64 - Y) = 64 - Y := by rw [IntKind.wrap_i64]; omega
      have nzY : ¬ (64 - Y = 0) := by omega
      go_upto_region 12 with fail
      go_cut [83] from 66 to 85 (fun _ wx => ∃ V : Int, Y + 1 ≤ V ∧ V ≤ 64 ∧ wx = (w3.setCell ⟨g3, K * 2 + 1, none⟩ (.int .i64 V)).drew)
      case first =>
        go_region_with ((go_at_call 13; refine (A4 _ HC3d.out).out.mono ?_; rintro e w4 ⟨⟨r4, rfl, hr4⟩, h4⟩; have h4s := h4.symm; subst h4s; obtain ⟨V, hV⟩ : ∃ V, V = Y + 1 + (r4 : Int) % (64 - Y) := ⟨_, rfl⟩; have hV1 : (r4 : Int).tmod (64 - Y) = (r4 : Int) % (64 - Y) := Int.tmod_eq_emod_of_nonneg (by omega); have hm0 := Int.emod_nonneg (r4 : Int) nzY; have hm1 := Int.emod_lt_of_pos (r4 : Int) (show 0 < 64 - Y by omega); have eV : IntKind.i64.wrap (Y + 1 + (r4 : Int) % (64 - Y)) = V := (by rw [IntKind.wrap_i64]; omega); have eV2 : Y + 1 + (r4 : Int) % (64 - Y) = V := hV.symm; have eV3 : IntKind.i64.wrap V = V := (by rw [IntKind.wrap_i64]; omega); have hVb : Y + 1 ≤ V ∧ V ≤ 64 := (by omega); clear hV))
        all_goals go_wp2_with fail
        all_goals go_meet
        all_goals exact ⟨V, hVb.1, hVb.2, by first | rfl | rw [eV3]⟩
      case rest =>
        obtain ⟨V, hV1, hV2, hwc⟩ := hcut
        have ST := World.ownsRow.stored O3.out (K * 2 + 1) (.int .i64 V)
        obtain ⟨w5, rfl⟩ : ∃ v, v = wc := ⟨_, rfl⟩
        have O5' : w5.ownsRow w1.heap.size 38 2 (.slice (some ⟨g3, 0, none⟩) n c3) n ((flP l).set (K * 2 + 1) (.int .i64 V)) := by rw [hwc]; exact ST.1
        have g5 : w3.grownBy w5 (some g3) := by rw [hwc]; exact grown_trans ST.2 (drew_grown _ _)
        have P5 : Hid (w5.ownsRow w.heap.size 38 2 (.slice (some ⟨g, 0, none⟩) n vc) n (flP l)) := P3.out.kept g5 (.inr (fun e => by have e2 := Option.some.inj e; simp at e2; omega))
        have L5 : Hid (Below w.heap.size w w5) := L3.out.grown g5 L3.out.size (fun q hq => by cases hq; have := L1.out.size; omega)
        obtain ⟨l2, hl2⟩ : ∃ l2, l2 = l.set K (xL l K, V) := ⟨_, rfl⟩
        have hl2n : Hid (l2.length = n) := by show _ = _; rw [hl2, List.length_set, ← HN.out]
        have O5 : Hid (w5.ownsRow w1.heap.size 38 2 (.slice (some ⟨g3, 0, none⟩) l2.length c3) l2.length (flP l2)) := by
          show World.ownsRow _ _ _ _ _ _ _
          rw [hl2n.out, hl2, show flP (l.set K (xL l K, V)) = (flP l).set (K * 2 + 1) (.int .i64 V) from flP_set2 l K V hKl]; exact O5'
        have HG : Hid (GrewL l l2 K) := by rw [hl2]; exact grewL_set l K V hKl (by rw [← HY.out]; omega)
        have HOK2 : Hid (NdOk l2.length (xL l2) (yL l2)) := by
          refine ⟨by rw [hl2n.out]; omega, by rw [hl2n.out]; omega, fun i hi => ?_⟩
          have hil : i < l.length := by rw [hl2n.out, HN.out] at hi; exact hi
          have hq := hok.2.2 i hil
          by_cases e : i = K
          · subst e
            have ex : xL l2 i = xL l i := (HG.out.up hil).1
            have ey : yL l2 i = V := by rw [hl2]; simp [yL, hil]
            rw [ex, ey]; omega
          · have es := HG.out.same i hil e
            unfold xL yL at hq ⊢
            rw [es]; exact hq
        clear hl2 hwc ST O5' g5 cY fY cYd fYd
        go_wp2_with fail
        have PN5 : Hid (Prs w5 (some ⟨g, 0, none⟩) n vc (xL l) (yL l)) := by
          have q := P5.out
          show Prs _ _ _ _ _ _
          rw [HN.out] at q ⊢
          exact prs_own q
        have PG5 : Hid (Prs w5 (some ⟨g3, 0, none⟩) n c3 (xL l2) (yL l2)) := by
          have q := prs_own O5.out
          rw [hl2n.out] at q
          exact q
        have MP := hid (moves_pl HG.out hok HOK2.out key m)
        rw [← HN.out, hl2n.out] at MP
        have IPa := hid (iAnsPl (some ⟨g, 0, none⟩) n vc (xL l) (yL l) (by omega) key (by omega) m w5 PN5.out)
        have IPb := fun W (h : Prs W (some ⟨g3, 0, none⟩) n c3 (xL l2) (yL l2)) => hid (iAnsPl (some ⟨g3, 0, none⟩) n c3 (xL l2) (yL l2) (by omega) key (by omega) m W h)
        have SPa := fun W (h : Prs W (some ⟨g, 0, none⟩) n vc (xL l) (yL l)) => hid (sAnsPl (some ⟨g, 0, none⟩) n vc (xL l) (yL l) (by omega) key (by omega) m W h)
        have SPb := fun W (h : Prs W (some ⟨g3, 0, none⟩) n c3 (xL l2) (yL l2)) => hid (sAnsPl (some ⟨g3, 0, none⟩) n c3 (xL l2) (yL l2) (by omega) key (by omega) m W h)
        have MVC := fun W (h : Prs W (some ⟨g, 0, none⟩) n vc (xL l) (yL l)) (h' : Prs W (some ⟨g3, 0, none⟩) n c3 (xL l2) (yL l2)) ka kc (hk : Strs W ka 2 kc (fun _ => key)) => hid (iMove (some ⟨g, 0, none⟩) n vc (xL l) (yL l) (by omega) (some ⟨g3, 0, none⟩) n c3 (xL l2) (yL l2) (by omega) ka 2 kc (fun _ => key) (by omega) (fun _ _ => by omega) m W h h' hk)
        have MVV : Hid (mvV (fun _ => key) 2 n (xL l) (yL l) n (xL l2) (yL l2) m = mvK key n (xL l) (yL l) n (xL l2) (yL l2) m + mvK key n (xL l) (yL l) n (xL l2) (yL l2) m) := by
          have q1 := hok
          have q2 := HOK2.out
          rw [← HN.out] at q1
          rw [hl2n.out] at q2
          show mvV _ _ _ _ _ _ _ _ _ = _
          unfold mvV
          rw [if_pos ⟨q1, q2, by omega⟩]
          show (0 + _) + _ = _
          rw [Int.zero_add]
        have MVK : Hid (mvK key n (xL l) (yL l) n (xL l2) (yL l2) m = if plC key n (xL l) (yL l) m = 0 ∧ plC key n (xL l2) (yL l2) m = 0 then (nwc (plL key n (xL l) (yL l) m) (plL key n (xL l2) (yL l2) m) : Int) else 0) := rfl
        have u1 := plL_len key n (xL l) (yL l) m
        have u2 := plL_len key n (xL l2) (yL l2) m
        rw [MVV.out] at MVC
        obtain ⟨Z, hZ⟩ : ∃ Z, Z = mvK key n (xL l) (yL l) n (xL l2) (yL l2) m := ⟨_, rfl⟩
        obtain ⟨C, hC⟩ : ∃ C, C = plC key n (xL l) (yL l) m := ⟨_, rfl⟩
        obtain ⟨C2, hC2⟩ : ∃ C, C = plC key n (xL l2) (yL l2) m := ⟨_, rfl⟩
        obtain ⟨us, hU⟩ : ∃ us, us = plL key n (xL l) (yL l) m := ⟨_, rfl⟩
        obtain ⟨vs, hV⟩ : ∃ us, us = plL key n (xL l2) (yL l2) m := ⟨_, rfl⟩
        rw [← hZ] at MVC
        rw [← hZ, ← hC, ← hC2, ← hU, ← hV] at MVK
        rw [← hC, ← hC2, ← hU, ← hV] at MP
        rw [← hC, ← hU] at IPa SPa
        rw [← hC2, ← hV] at IPb SPb
        rw [← hU] at u1
        rw [← hV] at u2
        clear hZ hC hC2 hU hV MVV P5 O5 hok HOK2 HG A0 A1 A2 A3 C3
        refine IPa.out.mono ?_
        rintro e w6 ⟨a1, c1, rfl, ho6, hb6⟩
        have L6 : Hid (Below w.heap.size w w6) := L5.out.trans (hb6.mono L5.out.size)
        have N6 := hid (PN5.out.below hb6)
        have G6 := hid (PG5.out.below hb6)
        have I6 := hid ho6.ints
        clear ho6 hb6 IPa PN5 PG5 L5
        obtain ⟨w7, hw7⟩ : ∃ v, v = w6.alloc (.cells #[.int .i64 C, .slice a1 us.length c1] 34) := ⟨_, rfl⟩
        have L7 : Hid (Below w.heap.size w w7) := by rw [hw7]; exact L6.out.alloc L6.out.size _
        have N7 : Hid (Prs w7 (some ⟨g, 0, none⟩) n vc (xL l) (yL l)) := by rw [hw7]; exact N6.out.below ((Below.refl _ w6).alloc (Nat.le_refl _) _)
        have G7 : Hid (Prs w7 (some ⟨g3, 0, none⟩) n c3 (xL l2) (yL l2)) := by rw [hw7]; exact G6.out.below ((Below.refl _ w6).alloc (Nat.le_refl _) _)
        have I7 : Hid (Ints .i64 w7 a1 us.length c1 us) := by rw [hw7]; exact I6.out.alloc _
        have A7 : Hid (RowAt w7 w6.heap.size 34 #[.int .i64 C, .slice a1 us.length c1]) := by rw [hw7]; exact RowAt.new _ _ _
        have HW7 := hid hw7
        have IB := IPb w7 G7.out
        clear hw7 IPb L6 N6 G6 I6
        go_wp2_with fail
        rw [← HW7.out]
        clear HW7
        refine IB.out.mono ?_
        rintro e w8 ⟨a2, c2, rfl, ho8, hb8⟩
        obtain ⟨w9, hw9⟩ : ∃ v, v = w8.alloc (.cells #[.int .i64 C2, .slice a2 vs.length c2] 34) := ⟨_, rfl⟩
        have M9 : Hid (MvW w w9 w6.heap.size w8.heap.size C C2 (some ⟨g, 0, none⟩) n vc (some ⟨g3, 0, none⟩) n c3 l l2 a1 c1 us a2 c2 vs) := by
          have b9 : Below w8.heap.size w8 w9 := by rw [hw9]; exact (Below.refl _ w8).alloc (Nat.le_refl _) _
          have b79 : Below w7.heap.size w7 w9 := hb8.trans (b9.mono hb8.size)
          exact ⟨L7.out.trans (b79.mono L7.out.size), A7.out.below b79 A7.out.lt, by rw [hw9]; exact RowAt.new _ _ _, I7.out.below b79, by rw [hw9]; exact ho8.ints.alloc _, N7.out.below b79, G7.out.below b79⟩
        have HW9 := hid hw9
        clear hw9 ho8 hb8 IB L7 N7 G7 I7 A7
        go_upto_region 15 with fail
        rw [← HW9.out]
        clear HW9
        go_cut [111] from 94 to 111 (fun c wx => c = .bool false ∧ MvW w wx w6.heap.size w8.heap.size C C2 (some ⟨g, 0, none⟩) n vc (some ⟨g3, 0, none⟩) n c3 l l2 a1 c1 us a2 c2 vs)
        case first =>
          have x0 := M9.out.A.cell 0
          have y0 := M9.out.B.cell 0
          have dC : (C != C) = false := by simp
          have dC2 : (C2 != C2) = false := by simp
          have hf := fldP
          have K2 : ∀ W, Below w9.heap.size w9 W → W.cell? ⟨w6.heap.size, 0, none⟩ = some (.int .i64 C) ∧ W.cell? ⟨w8.heap.size, 0, none⟩ = some (.int .i64 C2) := fun W hb => ⟨(M9.out.below hb).A.cell 0, (M9.out.below hb).B.cell 0⟩
          have HK2 := hid K2
          clear K2
          go_region_held3 (fun wx => wx.cell? ⟨w6.heap.size, 0, none⟩ = some (.int .i64 C) ∧ wx.cell? ⟨w8.heap.size, 0, none⟩ = some (.int .i64 C2)) ((first | (go_keep; done) | exact HK2.out _ BB | exact HK2.out _ AA)) ((first
            | (go_at_call 16; (fail_if_success have hh := hbA); refine (SPa _ (M9.out.drew.N)).out.mono ?_; rintro e wA ⟨aA, cA, rfl, _, hbA⟩; have AA : Below w9.heap.size w9 wA := (Below.refl _ w9).drew.trans hbA)
            | (go_at_call 16; refine (SPb _ ((M9.out.below AA).G)).out.mono ?_; rintro e wB ⟨aB, cB, rfl, _, hbB⟩; have BB : Below w9.heap.size w9 wB := AA.trans (hbB.mono AA.size))))
          all_goals go_wp2_with fail
          all_goals go_meet
          all_goals exact ⟨rfl, M9.out.below BB⟩
        case rest =>
          obtain ⟨rfl, hM⟩ := hcut
          have HM := hid hM
          clear hM M9 SPa SPb
          have x0 := HM.out.A.cell 0
          have x1 := HM.out.A.cell 1
          have y0 := HM.out.B.cell 0
          have y1 := HM.out.B.cell 1
          by_cases e0 : C = 0
          case neg =>
            have d2 : (C != 0) = true := by simp [e0]
            go_wp2
            go_ret
            exact ⟨rfl, HM.out.L⟩
          obtain ⟨e2, hnew, hm1, hm2⟩ := MP.out e0
          subst e0
          subst e2
          have dm1 : (((us.length : Nat) : Int) != m) = false := by simp [hm1]
          have dm2 : (((vs.length : Nat) : Int) != m) = false := by simp [hm2]
          have HNEW := hid hnew
          have EZ : Hid (Z = (nwc us vs : Int)) := by show _ = _; rw [MVK.out, if_pos ⟨rfl, rfl⟩]
          clear MP MVK hnew hm1 hm2
          go_wp2_with fail
          clear x0 x1 y0 y1 dm1 dm2
          go_loopw [12, 13] (fun q r wr => ∃ i : Nat, i ≤ vs.length ∧ q = .int .i64 (nwc us (vs.take i) : Int) ∧ r = .int .i64 (i : Int) ∧ MvW w wr w6.heap.size w8.heap.size 0 0 (some ⟨g, 0, none⟩) n vc (some ⟨g3, 0, none⟩) n c3 l l2 a1 c1 us a2 c2 vs) (fun _ r _ => vs.length - (intOf r).toNat)
          case atStart => exact ⟨0, Nat.zero_le _, by simp [nwc], rfl, HM.out⟩
          case round =>
            obtain ⟨i, hi, rfl, rfl, hMr⟩ := hrel
            have HMr := hid hMr
            clear hMr HM
            have x1 := HMr.out.A.cell 1
            have y1 := HMr.out.B.cell 1
            by_cases hlt : i < vs.length
            · have hlt' : (i : Int) < ((vs.length : Nat) : Int) := by omega
              have i0 : (0 : Int) ≤ (i : Int) := by omega
              rcases HMr.out.J.2.2 with q0 | ⟨bv, ov, rfl, hbv, hcv⟩
              · omega
              have cv := hcv i hlt
              have NT := nwc_take us vs i hlt
              have NB := nwc_le us (vs.take i)
              rw [List.length_take] at NB
              obtain ⟨u, hu⟩ : ∃ u, u = vs.getD i 0 := ⟨_, rfl⟩
              have humem : u ∈ vs := by rw [hu]; simp [hlt]
              rw [← hu] at cv NT
              obtain ⟨Nn, hNn⟩ : ∃ N, N = nwc us (vs.take i) := ⟨_, rfl⟩
              rw [← hNn] at NT NB ⊢
              have HNT := hid NT
              have hNE := hid (HNEW.out u humem)
              clear NT hNn hu hcv humem
              go_wp2_with fail
              go_region_held3 (fun wx => wx.cell? ⟨w6.heap.size, 1, none⟩ = some (.slice a1 us.length c1) ∧ wx.cell? ⟨w8.heap.size, 1, none⟩ = some (.slice (some ⟨bv, ov, none⟩) vs.length c2) ∧ wx.cell? ⟨bv, ov + i, none⟩ = some (.int .i64 u)) ((first | (go_keep; done))) ((go_at_call 20; refine (lwHas_is a1 us.length c1 us u _ HMr.out.drew.I (by omega)).mono ?_; rintro e wH ⟨rfl, rfl⟩))
              have x1' : wr.drew.cell? ⟨w8.heap.size, 1, none⟩ = some (.slice (some ⟨bv, ov, none⟩) vs.length c2) := y1
              have cv' : wr.drew.cell? ⟨bv, ov + i, none⟩ = some (.int .i64 u) := cv
              by_cases q : u ∈ us
              · have dq2 : decide (u ∈ us) = true := by simp [q]
                have EN : Hid (nwc us (vs.take (i + 1)) = Nn) := by show _ = _; rw [HNT.out, if_pos q]; rfl
                rw [dq2]
                go_wp2
                go_roundw
                case rel => exact ⟨i + 1, hlt, by rw [EN.out], by go_num, HMr.out.drew⟩
                case measure => simp [intOf]; omega
              · have dq2 : decide (u ∈ us) = false := by simp [q]
                have EN : Hid (nwc us (vs.take (i + 1)) = Nn + 1) := by show _ = _; rw [HNT.out, if_neg q]
                have hue := hNE.out q
                subst hue
                rw [dq2]
                go_wp2
                go_roundw
                case rel => exact ⟨i + 1, hlt, by rw [EN.out]; go_num, by go_num, HMr.out.drew⟩
                case measure => simp [intOf]; omega
            · have hlt' : ¬ (i : Int) < ((vs.length : Nat) : Int) := by omega
              have EN : Hid (nwc us (vs.take i) = nwc us vs) := by show _ = _; rw [List.take_of_length_le (by omega)]
              have NB := nwc_le us vs
              obtain ⟨Nn, hNn⟩ : ∃ N, N = nwc us vs := ⟨_, rfl⟩
              rw [← hNn] at EN EZ NB
              rw [EN.out]
              have bK : Hid (∀ o, Below wr.heap.size wr (wr.alloc o)) := fun o => (Below.refl _ wr).alloc (Nat.le_refl _) _
              have MC := MVC (wr.alloc (.cells #[.string key, .string key] 9)) ((HMr.out.below (bK.out _)).N) ((HMr.out.below (bK.out _)).G) (some ⟨wr.heap.size, 0, none⟩) 2
                ⟨by omega, .inr ⟨wr.heap.size, 0, rfl, by simp, fun i hi => by
                  have R := RowAt.new wr 9 #[.string key, .string key]
                  rcases (by omega : i = 0 ∨ i = 1) with rfl | rfl
                  · exact R.cell 0
                  · exact R.cell 1⟩⟩
              rw [EZ.out] at MC
              have eN : ((Nn : Int) + (Nn : Int) == 2 * (Nn : Int)) = true := by simp; omega
              clear hNn MVC
              go_wp2_with fail
              refine MC.out.mono ?_
              rintro e wE ⟨rfl, hbE⟩
              have LE : Hid (Below w.heap.size w wE) := ((HMr.out.below (bK.out _)).L).trans (hbE.mono ((HMr.out.below (bK.out _)).L).size)
              clear hbE
              go_wp2
              go_ret
              exact ⟨rfl, LE.out⟩
    · have d64 : decide (Y < 64) = false := by simp; omega
      obtain ⟨w5, rfl⟩ : ∃ v, v = w3 := ⟨_, rfl⟩
      obtain ⟨l2, hl2⟩ : ∃ l2, l2 = l := ⟨_, rfl⟩
      have O5 : Hid (w5.ownsRow w1.heap.size 38 2 (.slice (some ⟨g3, 0, none⟩) l2.length c3) l2.length (flP l2)) := by
        show World.ownsRow _ _ _ _ _ _ _; rw [hl2, ← HN.out]; exact O3.out
      have P5 := hid P3.out
      have L5 := hid L3.out
      have HG : Hid (GrewL l l2 K) := by rw [hl2]; exact grewL_none l K hKl
      have HOK2 : Hid (NdOk l2.length (xL l2) (yL l2)) := by rw [hl2]; exact hok
      have hl2n : Hid (l2.length = n) := by rw [hl2]; exact HN.out.symm
      clear hl2
      go_wp2_with fail
      clear cY fY
      have PN5 : Hid (Prs w5 (some ⟨g, 0, none⟩) n vc (xL l) (yL l)) := by
        have q := P5.out
        show Prs _ _ _ _ _ _
        rw [HN.out] at q ⊢
        exact prs_own q
      have PG5 : Hid (Prs w5 (some ⟨g3, 0, none⟩) n c3 (xL l2) (yL l2)) := by
        have q := prs_own O5.out
        rw [hl2n.out] at q
        exact q
      have MP := hid (moves_pl HG.out hok HOK2.out key m)
      rw [← HN.out, hl2n.out] at MP
      have IPa := hid (iAnsPl (some ⟨g, 0, none⟩) n vc (xL l) (yL l) (by omega) key (by omega) m w5 PN5.out)
      have IPb := fun W (h : Prs W (some ⟨g3, 0, none⟩) n c3 (xL l2) (yL l2)) => hid (iAnsPl (some ⟨g3, 0, none⟩) n c3 (xL l2) (yL l2) (by omega) key (by omega) m W h)
      have SPa := fun W (h : Prs W (some ⟨g, 0, none⟩) n vc (xL l) (yL l)) => hid (sAnsPl (some ⟨g, 0, none⟩) n vc (xL l) (yL l) (by omega) key (by omega) m W h)
      have SPb := fun W (h : Prs W (some ⟨g3, 0, none⟩) n c3 (xL l2) (yL l2)) => hid (sAnsPl (some ⟨g3, 0, none⟩) n c3 (xL l2) (yL l2) (by omega) key (by omega) m W h)
      have MVC := fun W (h : Prs W (some ⟨g, 0, none⟩) n vc (xL l) (yL l)) (h' : Prs W (some ⟨g3, 0, none⟩) n c3 (xL l2) (yL l2)) ka kc (hk : Strs W ka 2 kc (fun _ => key)) => hid (iMove (some ⟨g, 0, none⟩) n vc (xL l) (yL l) (by omega) (some ⟨g3, 0, none⟩) n c3 (xL l2) (yL l2) (by omega) ka 2 kc (fun _ => key) (by omega) (fun _ _ => by omega) m W h h' hk)
      have MVV : Hid (mvV (fun _ => key) 2 n (xL l) (yL l) n (xL l2) (yL l2) m = mvK key n (xL l) (yL l) n (xL l2) (yL l2) m + mvK key n (xL l) (yL l) n (xL l2) (yL l2) m) := by
        have q1 := hok
        have q2 := HOK2.out
        rw [← HN.out] at q1
        rw [hl2n.out] at q2
        show mvV _ _ _ _ _ _ _ _ _ = _
        unfold mvV
        rw [if_pos ⟨q1, q2, by omega⟩]
        show (0 + _) + _ = _
        rw [Int.zero_add]
      have MVK : Hid (mvK key n (xL l) (yL l) n (xL l2) (yL l2) m = if plC key n (xL l) (yL l) m = 0 ∧ plC key n (xL l2) (yL l2) m = 0 then (nwc (plL key n (xL l) (yL l) m) (plL key n (xL l2) (yL l2) m) : Int) else 0) := rfl
      have u1 := plL_len key n (xL l) (yL l) m
      have u2 := plL_len key n (xL l2) (yL l2) m
      rw [MVV.out] at MVC
      obtain ⟨Z, hZ⟩ : ∃ Z, Z = mvK key n (xL l) (yL l) n (xL l2) (yL l2) m := ⟨_, rfl⟩
      obtain ⟨C, hC⟩ : ∃ C, C = plC key n (xL l) (yL l) m := ⟨_, rfl⟩
      obtain ⟨C2, hC2⟩ : ∃ C, C = plC key n (xL l2) (yL l2) m := ⟨_, rfl⟩
      obtain ⟨us, hU⟩ : ∃ us, us = plL key n (xL l) (yL l) m := ⟨_, rfl⟩
      obtain ⟨vs, hV⟩ : ∃ us, us = plL key n (xL l2) (yL l2) m := ⟨_, rfl⟩
      rw [← hZ] at MVC
      rw [← hZ, ← hC, ← hC2, ← hU, ← hV] at MVK
      rw [← hC, ← hC2, ← hU, ← hV] at MP
      rw [← hC, ← hU] at IPa SPa
      rw [← hC2, ← hV] at IPb SPb
      rw [← hU] at u1
      rw [← hV] at u2
      clear hZ hC hC2 hU hV MVV P5 O5 hok HOK2 HG A0 A1 A2 A3 C3
      refine IPa.out.mono ?_
      rintro e w6 ⟨a1, c1, rfl, ho6, hb6⟩
      have L6 : Hid (Below w.heap.size w w6) := L5.out.trans (hb6.mono L5.out.size)
      have N6 := hid (PN5.out.below hb6)
      have G6 := hid (PG5.out.below hb6)
      have I6 := hid ho6.ints
      clear ho6 hb6 IPa PN5 PG5 L5
      obtain ⟨w7, hw7⟩ : ∃ v, v = w6.alloc (.cells #[.int .i64 C, .slice a1 us.length c1] 34) := ⟨_, rfl⟩
      have L7 : Hid (Below w.heap.size w w7) := by rw [hw7]; exact L6.out.alloc L6.out.size _
      have N7 : Hid (Prs w7 (some ⟨g, 0, none⟩) n vc (xL l) (yL l)) := by rw [hw7]; exact N6.out.below ((Below.refl _ w6).alloc (Nat.le_refl _) _)
      have G7 : Hid (Prs w7 (some ⟨g3, 0, none⟩) n c3 (xL l2) (yL l2)) := by rw [hw7]; exact G6.out.below ((Below.refl _ w6).alloc (Nat.le_refl _) _)
      have I7 : Hid (Ints .i64 w7 a1 us.length c1 us) := by rw [hw7]; exact I6.out.alloc _
      have A7 : Hid (RowAt w7 w6.heap.size 34 #[.int .i64 C, .slice a1 us.length c1]) := by rw [hw7]; exact RowAt.new _ _ _
      have HW7 := hid hw7
      have IB := IPb w7 G7.out
      clear hw7 IPb L6 N6 G6 I6
      go_wp2_with fail
      rw [← HW7.out]
      clear HW7
      refine IB.out.mono ?_
      rintro e w8 ⟨a2, c2, rfl, ho8, hb8⟩
      obtain ⟨w9, hw9⟩ : ∃ v, v = w8.alloc (.cells #[.int .i64 C2, .slice a2 vs.length c2] 34) := ⟨_, rfl⟩
      have M9 : Hid (MvW w w9 w6.heap.size w8.heap.size C C2 (some ⟨g, 0, none⟩) n vc (some ⟨g3, 0, none⟩) n c3 l l2 a1 c1 us a2 c2 vs) := by
        have b9 : Below w8.heap.size w8 w9 := by rw [hw9]; exact (Below.refl _ w8).alloc (Nat.le_refl _) _
        have b79 : Below w7.heap.size w7 w9 := hb8.trans (b9.mono hb8.size)
        exact ⟨L7.out.trans (b79.mono L7.out.size), A7.out.below b79 A7.out.lt, by rw [hw9]; exact RowAt.new _ _ _, I7.out.below b79, by rw [hw9]; exact ho8.ints.alloc _, N7.out.below b79, G7.out.below b79⟩
      have HW9 := hid hw9
      clear hw9 ho8 hb8 IB L7 N7 G7 I7 A7
      go_upto_region 15 with fail
      rw [← HW9.out]
      clear HW9
      go_cut [111] from 94 to 111 (fun c wx => c = .bool false ∧ MvW w wx w6.heap.size w8.heap.size C C2 (some ⟨g, 0, none⟩) n vc (some ⟨g3, 0, none⟩) n c3 l l2 a1 c1 us a2 c2 vs)
      case first =>
        have x0 := M9.out.A.cell 0
        have y0 := M9.out.B.cell 0
        have dC : (C != C) = false := by simp
        have dC2 : (C2 != C2) = false := by simp
        have hf := fldP
        have K2 : ∀ W, Below w9.heap.size w9 W → W.cell? ⟨w6.heap.size, 0, none⟩ = some (.int .i64 C) ∧ W.cell? ⟨w8.heap.size, 0, none⟩ = some (.int .i64 C2) := fun W hb => ⟨(M9.out.below hb).A.cell 0, (M9.out.below hb).B.cell 0⟩
        have HK2 := hid K2
        clear K2
        go_region_held3 (fun wx => wx.cell? ⟨w6.heap.size, 0, none⟩ = some (.int .i64 C) ∧ wx.cell? ⟨w8.heap.size, 0, none⟩ = some (.int .i64 C2)) ((first | (go_keep; done) | exact HK2.out _ BB | exact HK2.out _ AA)) ((first
          | (go_at_call 16; (fail_if_success have hh := hbA); refine (SPa _ (M9.out.drew.N)).out.mono ?_; rintro e wA ⟨aA, cA, rfl, _, hbA⟩; have AA : Below w9.heap.size w9 wA := (Below.refl _ w9).drew.trans hbA)
          | (go_at_call 16; refine (SPb _ ((M9.out.below AA).G)).out.mono ?_; rintro e wB ⟨aB, cB, rfl, _, hbB⟩; have BB : Below w9.heap.size w9 wB := AA.trans (hbB.mono AA.size))))
        all_goals go_wp2_with fail
        all_goals go_meet
        all_goals exact ⟨rfl, M9.out.below BB⟩
      case rest =>
        obtain ⟨rfl, hM⟩ := hcut
        have HM := hid hM
        clear hM M9 SPa SPb
        have x0 := HM.out.A.cell 0
        have x1 := HM.out.A.cell 1
        have y0 := HM.out.B.cell 0
        have y1 := HM.out.B.cell 1
        by_cases e0 : C = 0
        case neg =>
          have d2 : (C != 0) = true := by simp [e0]
          go_wp2
          go_ret
          exact ⟨rfl, HM.out.L⟩
        obtain ⟨e2, hnew, hm1, hm2⟩ := MP.out e0
        subst e0
        subst e2
        have dm1 : (((us.length : Nat) : Int) != m) = false := by simp [hm1]
        have dm2 : (((vs.length : Nat) : Int) != m) = false := by simp [hm2]
        have HNEW := hid hnew
        have EZ : Hid (Z = (nwc us vs : Int)) := by show _ = _; rw [MVK.out, if_pos ⟨rfl, rfl⟩]
        clear MP MVK hnew hm1 hm2
        go_wp2_with fail
        clear x0 x1 y0 y1 dm1 dm2
        go_loopw [12, 13] (fun q r wr => ∃ i : Nat, i ≤ vs.length ∧ q = .int .i64 (nwc us (vs.take i) : Int) ∧ r = .int .i64 (i : Int) ∧ MvW w wr w6.heap.size w8.heap.size 0 0 (some ⟨g, 0, none⟩) n vc (some ⟨g3, 0, none⟩) n c3 l l2 a1 c1 us a2 c2 vs) (fun _ r _ => vs.length - (intOf r).toNat)
        case atStart => exact ⟨0, Nat.zero_le _, by simp [nwc], rfl, HM.out⟩
        case round =>
          obtain ⟨i, hi, rfl, rfl, hMr⟩ := hrel
          have HMr := hid hMr
          clear hMr HM
          have x1 := HMr.out.A.cell 1
          have y1 := HMr.out.B.cell 1
          by_cases hlt : i < vs.length
          · have hlt' : (i : Int) < ((vs.length : Nat) : Int) := by omega
            have i0 : (0 : Int) ≤ (i : Int) := by omega
            rcases HMr.out.J.2.2 with q0 | ⟨bv, ov, rfl, hbv, hcv⟩
            · omega
            have cv := hcv i hlt
            have NT := nwc_take us vs i hlt
            have NB := nwc_le us (vs.take i)
            rw [List.length_take] at NB
            obtain ⟨u, hu⟩ : ∃ u, u = vs.getD i 0 := ⟨_, rfl⟩
            have humem : u ∈ vs := by rw [hu]; simp [hlt]
            rw [← hu] at cv NT
            obtain ⟨Nn, hNn⟩ : ∃ N, N = nwc us (vs.take i) := ⟨_, rfl⟩
            rw [← hNn] at NT NB ⊢
            have HNT := hid NT
            have hNE := hid (HNEW.out u humem)
            clear NT hNn hu hcv humem
            go_wp2_with fail
            go_region_held3 (fun wx => wx.cell? ⟨w6.heap.size, 1, none⟩ = some (.slice a1 us.length c1) ∧ wx.cell? ⟨w8.heap.size, 1, none⟩ = some (.slice (some ⟨bv, ov, none⟩) vs.length c2) ∧ wx.cell? ⟨bv, ov + i, none⟩ = some (.int .i64 u)) ((first | (go_keep; done))) ((go_at_call 20; refine (lwHas_is a1 us.length c1 us u _ HMr.out.drew.I (by omega)).mono ?_; rintro e wH ⟨rfl, rfl⟩))
            have x1' : wr.drew.cell? ⟨w8.heap.size, 1, none⟩ = some (.slice (some ⟨bv, ov, none⟩) vs.length c2) := y1
            have cv' : wr.drew.cell? ⟨bv, ov + i, none⟩ = some (.int .i64 u) := cv
            by_cases q : u ∈ us
            · have dq2 : decide (u ∈ us) = true := by simp [q]
              have EN : Hid (nwc us (vs.take (i + 1)) = Nn) := by show _ = _; rw [HNT.out, if_pos q]; rfl
              rw [dq2]
              go_wp2
              go_roundw
              case rel => exact ⟨i + 1, hlt, by rw [EN.out], by go_num, HMr.out.drew⟩
              case measure => simp [intOf]; omega
            · have dq2 : decide (u ∈ us) = false := by simp [q]
              have EN : Hid (nwc us (vs.take (i + 1)) = Nn + 1) := by show _ = _; rw [HNT.out, if_neg q]
              have hue := hNE.out q
              subst hue
              rw [dq2]
              go_wp2
              go_roundw
              case rel => exact ⟨i + 1, hlt, by rw [EN.out]; go_num, by go_num, HMr.out.drew⟩
              case measure => simp [intOf]; omega
          · have hlt' : ¬ (i : Int) < ((vs.length : Nat) : Int) := by omega
            have EN : Hid (nwc us (vs.take i) = nwc us vs) := by show _ = _; rw [List.take_of_length_le (by omega)]
            have NB := nwc_le us vs
            obtain ⟨Nn, hNn⟩ : ∃ N, N = nwc us vs := ⟨_, rfl⟩
            rw [← hNn] at EN EZ NB
            rw [EN.out]
            have bK : Hid (∀ o, Below wr.heap.size wr (wr.alloc o)) := fun o => (Below.refl _ wr).alloc (Nat.le_refl _) _
            have MC := MVC (wr.alloc (.cells #[.string key, .string key] 9)) ((HMr.out.below (bK.out _)).N) ((HMr.out.below (bK.out _)).G) (some ⟨wr.heap.size, 0, none⟩) 2
              ⟨by omega, .inr ⟨wr.heap.size, 0, rfl, by simp, fun i hi => by
                have R := RowAt.new wr 9 #[.string key, .string key]
                rcases (by omega : i = 0 ∨ i = 1) with rfl | rfl
                · exact R.cell 0
                · exact R.cell 1⟩⟩
            rw [EZ.out] at MC
            have eN : ((Nn : Int) + (Nn : Int) == 2 * (Nn : Int)) = true := by simp; omega
            clear hNn MVC
            go_wp2_with fail
            refine MC.out.mono ?_
            rintro e wE ⟨rfl, hbE⟩
            have LE : Hid (Below w.heap.size w wE) := ((HMr.out.below (bK.out _)).L).trans (hbE.mono ((HMr.out.below (bK.out _)).L).size)
            clear hbE
            go_wp2
            go_ret
            exact ⟨rfl, LE.out⟩
set_option maxRecDepth 20000 in
theorem fnMoves_walk {w : World} (a : Option Addr) (len cap : Nat) (z : List Int) (h : IsRow .u8 w a len cap z) (a' : Option Addr) (len' cap' : Nat) (z' : List Int) (h' : IsRow .u8 w a' len' cap' z') :
    Calls Try.prog 5 #[.slice a len cap, .slice a' len' cap'] w fun e w' => e = .returned (.bool true) ∧ Below w.heap.size w w' := by
  have m0 := h.le
  have m1 := h'.le
  unfold maxLen at m0 m1
  by_cases hl : len ≤ 1048576
  · by_cases hl' : len' ≤ 1048576
    · exact fnMoves_small a len cap a' len' cap' w (codeOk_of w a len cap z h hl) m0.1 (codeOk_of w a' len' cap' z' h' hl') hl hl'
    · have d0 : decide ((1048576 : Int) < (len : Int)) = false := by simp; omega
      have d1 : decide ((1048576 : Int) < (len' : Int)) = true := by simp; omega
      go_enter Try.func5, Try.ntmps5
      go_wp2
      go_ret
      exact ⟨rfl, Below.refl _ _⟩
  · have d0 : decide ((1048576 : Int) < (len : Int)) = true := by simp; omega
    go_enter Try.func5, Try.ntmps5
    go_wp2
    go_ret
    exact ⟨rfl, Below.refl _ _⟩
end Go.Proofs.Ytjeahllaajpddaa
