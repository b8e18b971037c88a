import Derived.Test.YtjacjcbcccbjoaaDoorEncS2
import Derived.Deep.AppendLies
namespace Go.Proofs.YtjacjcbcccbjoaaDoor
open Go.RowKit
/-! The specification's shards, all of them. -/
def OwnStrs (w : World) (base : Nat) (v : Value) (xs : List ByteArray) : Prop := w.ownsRow base 9 1 v xs.length (xs.map Value.string)
theorem OwnStrs.below {w w' : World} {base : Nat} {v : Value} {xs : List ByteArray} (h : OwnStrs w base v xs) (hb : Below w.heap.size w w') : OwnStrs w' base v xs := by
  refine ⟨h.1, ?_⟩
  rcases h.2 with h0 | ⟨g, cap, cur, he, hbg, hr, r⟩
  · exact Or.inl h0
  · exact Or.inr ⟨g, cap, cur, he, hbg, (hb.block g (show RowAt w g 9 cur from hr).lt).trans hr, r⟩
theorem OwnStrs.alloc {w : World} {base : Nat} {v : Value} {xs : List ByteArray} (h : OwnStrs w base v xs) (o : Obj) : OwnStrs (w.alloc o) base v xs := World.ownsRow.alloc h o
theorem OwnStrs.drew {w : World} {base : Nat} {v : Value} {xs : List ByteArray} (h : OwnStrs w base v xs) : OwnStrs w.drew base v xs := World.ownsRow.drew h
theorem OwnStrs.slice {w : World} {base : Nat} {v : Value} {xs : List ByteArray} (h : OwnStrs w base v xs) : ∃ a c, v = .slice a xs.length c := by
  rcases h.2 with ⟨h0, h1⟩ | ⟨g, cap, cur, he, _⟩
  · exact ⟨_, _, by rw [h0, h1]⟩
  · exact ⟨_, _, he⟩
theorem OwnStrs.ne {w : World} {base : Nat} {v : Value} {xs : List ByteArray} {c : Nat} (h : OwnStrs w base v xs) (hc : c < base) : some c ≠ v.ownBlock := by
  rcases h.2 with ⟨rfl, _⟩ | ⟨g, cap, cur, rfl, hb, _⟩
  · intro e; cases e
  · intro e
    have e2 : c = g := by simpa [Value.ownBlock] using e
    omega
theorem OwnStrs.strs {w : World} {base : Nat} {a : Option Addr} {n c : Nat} {xs : List ByteArray} {ts : Nat → ByteArray} (h : OwnStrs w base (.slice a n c) xs) (h0 : 0 < xs.length) (ht : ∀ i, i < xs.length → xs[i]? = some (ts i)) :
    ∃ g, a = some ⟨g, 0, none⟩ ∧ base ≤ g ∧ n = xs.length ∧ Strs w (some ⟨g, 0, none⟩) n c ts := by
  rcases h.2 with ⟨_, h1⟩ | ⟨g, cap, cur, he, hb, hr, hnc, hm, hsz, htk⟩
  · omega
  · cases he
    have R : RowAt w g 9 cur := hr
    refine ⟨g, rfl, hb, rfl, hnc, Or.inr ⟨g, 0, rfl, R.lt, fun i hi => ?_⟩⟩
    have := congrArg (·[i]?) htk
    simp only [List.getElem?_take] at this
    rw [if_pos (by omega), List.getElem?_map, ht i hi] at this
    rw [R.cell (0 + i), Nat.zero_add]
    simpa using this
theorem Strs.setRow {w : World} {b len cap : Nat} {ts : Nat → ByteArray} (h : Strs w (some ⟨b, 0, none⟩) len cap ts) (g : Nat) (c : Array Value) (hn : b ≠ g) : Strs (w.setRow g c) (some ⟨b, 0, none⟩) len cap ts := by
  refine ⟨h.1, ?_⟩
  rcases h.2 with h0 | ⟨b', off, he, h1, h2⟩
  · exact Or.inl h0
  · cases he
    refine Or.inr ⟨b, 0, rfl, by rw [setRow_size]; exact h1, fun i hi => ?_⟩
    rw [← h2 i hi]
    simp only [World.cell?, setRow_other w g b c hn]
theorem append_str2 {P : Program} (base : Nat) (wr : World) {ops : Array Oper} {rest : List Oper} {o : Oper} {a : Act} {Q : Exit → Act → World → Prop} (hgd : o.guard = none) (s x : Operand) (t : TypeId)
    (ho : o.op = .call { callee := .builtin .append, args := #[s, x], argTypes := #[t, t] })
    (ht : P.underlying t = some (.slice 9)) (hinfo : (P.info? 9).map (fun i => (i.zero, i.size, i.bytes)) = some (some (.string ⟨#[]⟩), 1, 16))
    (v : Value) (xs : List ByteArray) (y : ByteArray) (hs : a.eval s = v) (hown : OwnStrs wr base v xs) (hsz : base ≤ wr.heap.size)
    (hx : a.eval x = .slice (some ⟨wr.heap.size, 0, none⟩) 1 1) (hlen : xs.length ≤ 1048576)
    (h : ∀ v' w', OwnStrs w' base v' (xs ++ [y]) → wr.grownBy w' v.ownBlock → wpList P ops Q rest (a.put o.dst v') w') :
    wpList P ops Q (o :: rest) a (wr.alloc (.cells #[.string y] 9)) := by
  obtain ⟨i0, hi, hz0, hz1, hz2⟩ := info_parts hinfo
  refine wpList_append_own _ hgd s x t ho base 9 i0 (.string ⟨#[]⟩) 1 16 ht hi hz0 hz1 hz2 rfl (by decide) v _ _ hs (World.ownsRow.alloc hown _) ⟨wr.heap.size, 0, none⟩ 1 1 [.string y] hx rfl ?_ ?_ ?_ ?_ ?_ ?_
  · intro j u hj
    match j, hj with
    | 0, hj => simp at hj; subst hj; simp [Addr.add]
  · intro u hu; simp at hu; subst hu; rfl
  · unfold maxLen; omega
  · omega
  · simp; omega
  · intro v' w' h1 h2 h3
    exact h v' w' (by simpa [OwnStrs] using h1) (grown_trans (World.grownBy_alloc wr _ _) h2)
/-- Some numbers are appended to a row of numbers that the call owns; they lie in a block of their own, just made. -/
theorem mixN_eq {fac fac' ld ld' : Nat → Nat → Nat} {i i' p : Nat} : ∀ k, (∀ t, t < k → fac i t = fac' i' t ∧ ld t p = ld' t p) → mixN fac ld i p k = mixN fac' ld' i' p k
  | 0, _ => rfl
  | k + 1, h => by
    show mixN fac ld i p k ^^^ gm 8 29 (fac i k) (ld k p) = mixN fac' ld' i' p k ^^^ gm 8 29 (fac' i' k) (ld' k p)
    rw [mixN_eq k (fun t ht => h t (by omega)), (h k (by omega)).1, (h k (by omega)).2]
/-- what the specification mixes is what the program makes -/
theorem encT_is (K M G : Nat) (h2 : K ≤ 32) (ts : Nat → ByteArray) (i L : Nat) (hL : L = (ts 0).size) :
    strOfNums (nl ((List.range L).map fun p => mixN (fun _ j => (rowL K M G i).getD j 0) (fun k p => sb (ts k) p) 0 p K)) = encT K M G ts i := by
  subst hL
  unfold encT
  congr 2
  apply List.map_congr_left
  intro p _
  have e := mixN_tail (fac := rowN K M G) (ld := fun k p => if k < K then sb (ts k) p else 0) (i := i) (p := p) (K := K) (fun k hk => if_neg (by omega)) (32 - K)
  rw [show K + (32 - K) = 32 by omega] at e
  rw [e]
  exact mixN_eq K fun t ht => ⟨rowL_at ht, (if_pos ht).symm⟩
set_option maxRecDepth 20000 in
set_option maxHeartbeats 4000000 in
theorem sall (K M G sg so cp : Nat) (h1 : 1 ≤ K) (h2 : K ≤ 32) (h3 : M ≤ 16) (h4 : G ≤ K) (h5 : K + M + G ≤ 64) (ts : Nat → ByteArray) (hF : Fits ts K) (w : World) (hS : ∀ i, i < K → w.cell? ⟨sg, so + i, none⟩ = some (.string (ts i))) :
    Calls Tryd.prog 20 #[cdv K M G, .slice (some ⟨sg, so, none⟩) K cp, .int .i64 ((ts 0).size : Nat)] w fun e w' => ∃ g c, e = .returned (.slice (some ⟨g, 0, none⟩) (K + M + G) c) ∧ w.heap.size ≤ g ∧ Strs w' (some ⟨g, 0, none⟩) (K + M + G) c (encT K M G ts) ∧ Below w.heap.size w w' := by
  have hf : Hid (cfault K M G = 0) := cfault_of h1 h2 h3 h4 h5
  have HC : Hid (csize K M G = ((K + M + G : Nat) : Int)) := by show _ = _; unfold csize; rw [hf.out]; simp
  have HF := hid hF
  have HS := hid hS
  have sgl : sg < w.heap.size := World.block_lt_of_cell? w _ (hS 0 (by omega))
  obtain ⟨L, hL⟩ : ∃ L, L = (ts 0).size := ⟨_, rfl⟩
  have HL := hid hL
  have hL4 : L ≤ 4096 := by rw [hL]; exact (hF 0 (by omega)).2.1
  rw [← hL]
  obtain ⟨S, hSS⟩ : ∃ S, S = K + M + G := ⟨_, rfl⟩
  have HSS := hid hSS
  rw [← hSS] at HC
  have hS64 : S ≤ 64 := by omega
  have hS1 : 1 ≤ S := by omega
  rw [← hSS]
  clear hF hS hL hSS
  go_enter Tryd.func20, Tryd.ntmps20
  go_wp2_with fail
  obtain ⟨W0, hW0⟩ : ∃ W0, W0 = (w.alloc (.cells (cda K M G) 28)).alloc (.cells #[] 9) := ⟨_, rfl⟩
  have C0 : Hid (RowAt W0 w.heap.size 28 (cda K M G)) := by rw [hW0]; exact (RowAt.new w _ _).alloc _
  have B0 : Hid (Below w.heap.size w W0) := by rw [hW0]; exact bal (bal (Below.refl _ _) _ (Nat.le_refl _)) _ (Nat.le_refl _)
  have O0 : Hid (OwnStrs W0 (w.heap.size + 1) (.slice (some ⟨w.heap.size + 1, 0, none⟩) 0 0) []) := by
    rw [hW0]
    have := World.ownsRow_made (w.alloc (.cells (cda K M G) 28)) (e := 9) (size := 1) #[] 0 (base := w.heap.size + 1) (by rw [size_al]; exact Nat.le_refl _) (by decide) rfl
    rw [size_al] at this
    exact this
  rw [← hW0]
  clear hW0
  go_loopw [8, 7] (fun x y wr => ∃ (i : Nat), i ≤ S ∧ x = .int .i64 i ∧ OwnStrs wr (w.heap.size + 1) y ((List.range i).map (encT K M G ts)) ∧ RowAt wr w.heap.size 28 (cda K M G) ∧ Below w.heap.size w wr) (fun x _ _ => S - (intOf x).toNat)
  case atStart => exact ⟨0, Nat.zero_le _, rfl, O0.out, C0.out, B0.out⟩
  case round =>
    obtain ⟨i, hi, rfl, hO, hC, hB⟩ := hrel
    have HO := hid hO
    have HC2 := hid hC
    have HB := hid hB
    clear hO hC hB O0 C0 B0
    have c0 : wr.cell? ⟨w.heap.size, 0, none⟩ = some (.int .i64 K) := HC2.out.cell 0
    have c1 : wr.cell? ⟨w.heap.size, 1, none⟩ = some (.int .i64 M) := HC2.out.cell 1
    have c2 : wr.cell? ⟨w.heap.size, 2, none⟩ = some (.int .i64 G) := HC2.out.cell 2
    go_wp2_with fail
    refine (sCsize _ _ _ _).mono ?_
    rintro e W1 ⟨rfl, hW1⟩
    rw [HC.out]
    have BB : Below wr.heap.size wr W1 := by rw [hW1]; exact bal (bal (Below.refl _ _) _ (Nat.le_refl _)) _ (Nat.le_refl _)
    have O1 := hid (HO.out.below BB)
    have C1 := hid (HC2.out.below BB HC2.out.lt)
    have B1 : Hid (Below w.heap.size w W1) := HB.out.trans (BB.mono HB.out.size)
    have c0 : W1.cell? ⟨w.heap.size, 0, none⟩ = some (.int .i64 K) := C1.out.cell 0
    have c1 : W1.cell? ⟨w.heap.size, 1, none⟩ = some (.int .i64 M) := C1.out.cell 1
    have c2 : W1.cell? ⟨w.heap.size, 2, none⟩ = some (.int .i64 G) := C1.out.cell 2
    have l1 : w.heap.size < W1.heap.size := C1.out.lt
    clear hW1 BB HO HC2 HB
    by_cases hlt : i < S
    · have hlt' : (i : Int) < (S : Int) := by omega
      go_wp2_with fail
      refine (scrow_ok K M G i h1 h2 h3 h4 h5 (by rw [← HSS.out]; exact hlt) _).mono ?_
      rintro e W2 ⟨ra, rn, rc, rfl, hR, hB2⟩
      have hR' := hR.1
      rw [nl_len, rowL_len] at hR'
      subst hR'
      have HR := hid hR
      have O2 := hid (O1.out.below hB2)
      have C2 := hid (C1.out.below hB2 C1.out.lt)
      have B2 : Hid (Below w.heap.size w W2) := B1.out.trans (hB2.mono B1.out.size)
      clear hR hB2 O1 C1 B1
      have S2 : Hid (∀ i, i < K → W2.cell? ⟨sg, so + i, none⟩ = some (.string (ts i))) := fun i hi => (B2.out.cell (p := ⟨sg, so + i, none⟩) sgl).trans (HS.out i hi)
      go_wp2_with fail
      refine (smix K L K _ cp sg so (rowL K M G i) ra ts (rowL_len _ _ _ _) ?_ h2 (Nat.le_refl _) hL4 _ HR.out.ints ?_ S2.out).mono ?_
      · intro j
        by_cases hj : j < K
        · rw [rowL_at hj]; exact rowN_lt h5 (by rw [← HSS.out]; exact hlt) hj
        · rw [List.getD_eq_getElem?_getD, List.getElem?_eq_none (by rw [rowL_len]; omega)]; decide
      · intro j hj; rw [HL.out]; exact (HF.out j hj).2.2
      rintro e W3 ⟨rfl, hB3⟩
      rw [encT_is K M G h2 ts i L HL.out]
      have O3 := hid (O2.out.below hB3)
      have C3 := hid (C2.out.below hB3 C2.out.lt)
      have B3 : Hid (Below w.heap.size w W3) := B2.out.trans (hB3.mono B2.out.size)
      clear hB3 O2 C2 B2 S2 HR
      obtain ⟨T, hT⟩ : ∃ T, T = encT K M G ts i := ⟨_, rfl⟩
      have HT := hid hT
      rw [← hT]
      clear hT
      have Z4 : Hid (w.heap.size + 1 ≤ W3.heap.size) := by show _ ≤ _; have := C3.out.lt; omega
      have Y4 : Hid (((List.range i).map (encT K M G ts)).length ≤ 1048576) := by show _ ≤ _; simp; omega
      have NC := hid (O3.out.ne (c := w.heap.size) (by omega))
      go_wp2_with (refine append_str2 (w.heap.size + 1) W3 (by rfl) (.tmp 16) (.tmp 23) 34 (by rfl) Tryd.underlying34 Tryd.infoS' _ _ T (by rfl) O3.out Z4.out (by rfl) Y4.out ?_; intro v5 w5 hO5 hg5; have C5 := rowFar C3.out hg5 NC.out)
      have L5 : Hid ((List.range (i + 1)).map (encT K M G ts) = (List.range i).map (encT K M G ts) ++ [T]) := by show _ = _; rw [List.range_succ, List.map_append, HT.out]; rfl
      have B5 : Hid (Below w.heap.size w w5) := B3.out.grown hg5 B3.out.size (fun b hb => by have := (World.ownsRow.lt O3.out b hb).1; omega)
      have O5 := hid hO5
      have C5 := hid C5
      clear hO5 hg5 O3 C3 B3 NC
      go_wp2
      go_roundw
      case rel => exact ⟨i + 1, by omega, by go_num, by rw [L5.out]; exact O5.out, C5.out, B5.out⟩
      case measure => simp [intOf]; omega
    · have hie : i = S := by omega
      have hlt' : ¬ (i : Int) < (S : Int) := by omega
      go_wp2
      go_ret
      subst hie
      obtain ⟨a, c, rfl⟩ := O1.out.slice
      obtain ⟨g, rfl, hbg, hn, hst⟩ := O1.out.strs (ts := encT K M G ts) (by simp; omega) (fun j hj => by
        have hj' : j < i := by simpa using hj
        rw [List.getElem?_map, List.getElem?_range hj']; rfl)
      rw [List.length_map, List.length_range] at hst ⊢
      exact ⟨g, c, rfl, by omega, hst, B1.out⟩
end Go.Proofs.YtjacjcbcccbjoaaDoor
