import Derived.Test.YtjeahllaajpddaaIRing
import Derived.Test.YtjeahllaajpddaaSPlace
namespace Go.Proofs.Ytjeahllaajpddaa
open Go.RowKit
/-- which domains are taken -/
def tkF (x : Nat → Int) (D : List Nat) (p : Nat) : Value := .bool (decide ((p : Int) ∈ D.map x))
theorem zc201 : Try.zeroCells76 = Array.replicate 201 (.bool false) := by kernel_rfl
set_option maxRecDepth 20000 in
set_option maxHeartbeats 4000000 in
theorem iFirstD (base n K : Nat) (x sc : Nat → Int) (L : List Nat) (v : Value) (hn : n ≤ 200) (hx : ∀ i, i < n → 0 ≤ x i ∧ x i ≤ 200) (hK : 1 ≤ K ∧ K ≤ 64) (hR : Ring sc n L) (hL : L.length ≤ n) (w : World)
    (h : w.ownsRow base 78 3 v L.length (flB x sc L)) :
    Calls Try.prog 37 #[.agg #[.func (.func 53) #[] #[], v], .int .i64 (K : Int)] w fun e w' =>
      ∃ (D : List Nat) (v' : Value), e = .returned v' ∧ OwnNums w' w.heap.size 2 .i64 v' (D.map fun i => ((i : Nat) : Int)) ∧ gr x sc n D.length = some D ∧ D.length ≤ K ∧ (D.length < K → gr x sc n (D.length + 1) = none) ∧ Below w.heap.size w w' := by
  obtain ⟨a, cap, rfl, hB⟩ := BidsAt.of_own h
  have HB := hid hB
  have HX := hid hx
  have HR := hid hR
  clear hB h hx hR
  go_enter Try.func37, Try.ntmps37
  go_wp2_with fail
  have F0 : Hid (FRow ((w.alloc (.cells #[.func (.func 53) #[] #[], .slice a L.length cap] 64)).alloc (.cells Try.zeroCells76 76)) (w.heap.size + 1) 76 201 (tkF x [])) := by
    have r := RowAt.new (w.alloc (.cells #[.func (.func 53) #[] #[], .slice a L.length cap] 64)) 76 Try.zeroCells76
    rw [World.size_alloc] at r
    refine FRow.of r (by rw [zc201]; simp) (fun p hp => ?_)
    rw [zc201]
    simp [tkF, hp]
  have B0 : Hid (Below w.heap.size w ((w.alloc (.cells #[.func (.func 53) #[] #[], .slice a L.length cap] 64)).alloc (.cells Try.zeroCells76 76))) := ((Below.refl _ w).alloc (Nat.le_refl _) _).alloc (by simp) _
  obtain ⟨W0, hW0⟩ : ∃ W, W = (w.alloc (.cells #[.func (.func 53) #[] #[], .slice a L.length cap] 64)).alloc (.cells Try.zeroCells76 76) := ⟨_, rfl⟩
  have Z0 : w.heap.size + 2 ≤ W0.heap.size := by rw [hW0]; simp
  rw [← hW0] at F0 B0
  rw [← hW0]
  clear hW0
  go_loopw [6, 12] (fun r q wr => ∃ (D pre post : List Nat) (r1 : Option Addr) (r2 : Nat), L = pre ++ post ∧ q = .int .i64 (pre.length : Int) ∧ r = .slice r1 D.length r2 ∧ OwnNums wr (w.heap.size + 2) 2 .i64 (.slice r1 D.length r2) (D.map fun i => ((i : Nat) : Int)) ∧ FRow wr (w.heap.size + 1) 76 201 (tkF x D) ∧ gr x sc n D.length = some D ∧ D.length ≤ K ∧ (∀ i ∈ pre, x i ∈ D.map x) ∧ w.heap.size + 2 ≤ wr.heap.size ∧ Below w.heap.size w wr) (fun _ q _ => L.length - (intOf q).toNat)
  case atStart => exact ⟨[], [], L, none, 0, rfl, rfl, rfl, World.ownsRow_nil _ _ _ _, F0.out, rfl, Nat.zero_le _, by simp, Z0, B0.out⟩
  case round =>
    obtain ⟨D, pre, post, r1, r2, hL2, rfl, rfl, hO, hF, hg, hDK, hpre, hsz, hBw⟩ := hrel
    have HO := hid hO
    have HF := hid hF
    have HG := hid hg
    have HP := hid hpre
    have HBW := hid hBw
    have HL2 := hid hL2
    have LL : Hid (L.length = pre.length + post.length) := by show _ = _; rw [hL2, List.length_append]
    clear hO hF hg hpre hBw hL2
    cases post with
    | nil =>
      have hlt' : ¬ ((pre.length : Nat) : Int) < ((L.length : Nat) : Int) := by have llen := LL.out; simp at llen; omega
      have FE : Hid (D.length < K → gr x sc n (D.length + 1) = none) := fun _ => sel_end x sc n L D HR.out HG.out (by rw [HL2.out, List.append_nil]; exact HP.out)
      go_wp2
      go_ret
      exact ⟨D, _, rfl, own_mono HO.out (by omega), HG.out, hDK, FE.out, HBW.out⟩
    | cons b post =>
      have hpl : pre.length < L.length := by have llen := LL.out; simp at llen; omega
      have hlt' : ((pre.length : Nat) : Int) < ((L.length : Nat) : Int) := by omega
      have k0 : (0 : Int) ≤ ((pre.length : Nat) : Int) := by omega
      have hLb : L.getD pre.length 0 = b := by rw [HL2.out]; simp
      have hbn := (HR.out.all b).1 (by rw [HL2.out]; simp)
      obtain ⟨X, hX⟩ := Int.eq_ofNat_of_zero_le (HX.out b hbn.1).1
      have hX2 : X ≤ 200 := by have := (HX.out b hbn.1).2; omega
      rcases (HB.out.below HBW.out) with h0 | ⟨g, rfl, hgl, hc⟩
      · omega
      obtain ⟨c0, c1, c2⟩ := hc pre.length hpl
      simp only [hLb] at c0 c1 c2
      rw [hX] at c1
      obtain ⟨S, hS⟩ : ∃ S, S = sc b := ⟨_, rfl⟩
      rw [← hS] at c2
      clear hS hc hLb
      by_cases hDe : D.length = K
      · have de : ((D.length : Nat) : Int) = (K : Int) := by omega
        have FE : Hid (D.length < K → gr x sc n (D.length + 1) = none) := fun q => absurd q (by omega)
        have BW2 : Hid (∀ o, Below w.heap.size w (wr.alloc o)) := fun o => HBW.out.alloc HBW.out.size _
        have OW2 : Hid (∀ o, OwnNums (wr.alloc o) (w.heap.size + 2) 2 .i64 (.slice r1 D.length r2) (D.map fun i => ((i : Nat) : Int))) := fun o => World.ownsRow.alloc HO.out o
        go_wp2
        go_ret
        exact ⟨D, _, rfl, own_mono (OW2.out _) (by omega), HG.out, hDK, FE.out, BW2.out _⟩
      · have de : ¬ ((D.length : Nat) : Int) = (K : Int) := by omega
        have BW2 : Hid (∀ o, Below w.heap.size w (wr.alloc o)) := fun o => HBW.out.alloc HBW.out.size _
        have F2 : Hid (∀ o, FRow (wr.alloc o) (w.heap.size + 1) 76 201 (tkF x D)) := fun o => HF.out.alloc o
        have tc := fun o => (F2.out o).cell (p := X) (by omega)
        have x0 : (0 : Int) ≤ (X : Int) := by omega
        have x1 : (X : Int) < 201 := by omega
        by_cases ht : x b ∈ D.map x
        · have tv : tkF x D X = .bool true := by unfold tkF; rw [← hX]; simp only [ht, decide_true]
          rw [tv] at tc
          have OW2 : Hid (∀ o, OwnNums (wr.alloc o) (w.heap.size + 2) 2 .i64 (.slice r1 D.length r2) (D.map fun i => ((i : Nat) : Int))) := fun o => World.ownsRow.alloc HO.out o
          have HP2 : Hid (∀ i ∈ pre ++ [b], x i ∈ D.map x) := fun i hi => by
            rcases List.mem_append.1 hi with q | q
            · exact HP.out i q
            · rw [List.mem_singleton.1 q]; exact ht
          have HL3 : Hid (L = (pre ++ [b]) ++ post) := by show L = _; rw [HL2.out]; simp
          go_wp2
          go_roundw
          case rel => exact ⟨D, pre ++ [b], post, r1, r2, HL3.out, by rw [List.length_append]; go_num, rfl, OW2.out _, F2.out _, HG.out, hDK, HP2.out, by rw [World.size_alloc]; omega, BW2.out _⟩
          case measure => simp [intOf]; omega
        · have tv : tkF x D X = .bool false := by unfold tkF; rw [← hX]; simp only [ht, decide_false]
          rw [tv] at tc
          have tf := fun o => (F2.out o).free X
          have HL3 : Hid (L = (pre ++ [b]) ++ post) := by show L = _; rw [HL2.out]; simp
          have G3 : Hid (gr x sc n (D.length + 1) = some (D ++ [b])) := sel_take x sc n pre post D b (by rw [← HL2.out]; exact HR.out) HG.out HP.out ht
          have HP2 : Hid (∀ i ∈ pre ++ [b], x i ∈ (D ++ [b]).map x) := fun i hi => by
            rw [List.map_append]
            rcases List.mem_append.1 hi with q | q
            · exact List.mem_append.2 (.inl (HP.out i q))
            · rw [List.mem_singleton.1 q]; simp
          have FV : Hid (FRow ((wr.alloc (.cells #[.int .i64 (b : Int), .int .i64 (X : Int), .int .i64 S] 78)).setCell ⟨w.heap.size + 1, X, none⟩ (.bool true)) (w.heap.size + 1) 76 201 (tkF x (D ++ [b]))) := ((F2.out _).set X (.bool true)).congr fun p hp => by
            unfold putF tkF
            rw [List.map_append]
            by_cases e : p = X
            · rw [if_pos e, e, ← hX]; simp
            · rw [if_neg e]
              have : ((p : Int) ∈ D.map x ++ [b].map x) ↔ (p : Int) ∈ D.map x := by
                rw [List.mem_append]
                constructor
                · rintro (q | q)
                  · exact q
                  · simp at q; rw [hX] at q; omega
                · exact .inl
              simp only [this]
          have OV : Hid (OwnNums ((wr.alloc (.cells #[.int .i64 (b : Int), .int .i64 (X : Int), .int .i64 S] 78)).setCell ⟨w.heap.size + 1, X, none⟩ (.bool true)) (w.heap.size + 2) 2 .i64 (.slice r1 D.length r2) (D.map fun i => ((i : Nat) : Int))) :=
            World.ownsRow.kept (World.ownsRow.alloc HO.out _) grown_set (.inr fun e => by have := (World.ownsRow.lt HO.out _ e).1; omega)
          have SV : ((wr.alloc (.cells #[.int .i64 (b : Int), .int .i64 (X : Int), .int .i64 S] 78)).setCell ⟨w.heap.size + 1, X, none⟩ (.bool true)).heap.size = wr.heap.size + 1 := by simp
          have BV : Hid (Below w.heap.size w ((wr.alloc (.cells #[.int .i64 (b : Int), .int .i64 (X : Int), .int .i64 S] 78)).setCell ⟨w.heap.size + 1, X, none⟩ (.bool true))) := (BW2.out _).grown grown_set (BW2.out _).size (fun q hq => by cases hq; omega)
          have SVH := hid SV
          clear SV
          go_wp2_with (at_builtin; refine append_fr (w.heap.size + 2) ((wr.alloc (.cells #[.int .i64 (b : Int), .int .i64 (X : Int), .int .i64 S] 78)).setCell ⟨w.heap.size + 1, X, none⟩ (.bool true)) rfl (.tmp 28) (.tmp 31) 32 rfl 2 .i64 8 Try.underlying32 Try.infoI64 (by omega) (.slice r1 D.length r2) (D.map fun i => ((i : Nat) : Int)) (b : Int) rfl OV.out (by rw [SVH.out]; omega) (by rw [SVH.out]; rfl) (by rw [List.length_map]; omega) ?_; intro v' w' ho' hg' hf'; obtain ⟨ra, rc, rfl⟩ := own_slice ho')
          have OF : Hid (OwnNums w' (w.heap.size + 2) 2 .i64 (.slice ra (D ++ [b]).length rc) ((D ++ [b]).map fun i => ((i : Nat) : Int))) := by
            have q := ho'
            rw [show (D.map fun i => ((i : Nat) : Int)) ++ [(b : Int)] = (D ++ [b]).map fun i => ((i : Nat) : Int) by simp, List.length_map] at q
            exact q
          have FF : Hid (FRow w' (w.heap.size + 1) 76 201 (tkF x (D ++ [b]))) := FV.out.far hg' (fun e => by have := (World.ownsRow.lt HO.out _ e.symm).1; omega)
          have BF : Hid (Below w.heap.size w w') := BV.out.grown hg' BV.out.size (fun q hq => by have := (World.ownsRow.lt HO.out _ hq).1; omega)
          have SF : w.heap.size + 2 ≤ w'.heap.size := by have := hg'.size; have := SVH.out; omega


          have GF : Hid (gr x sc n (D ++ [b]).length = some (D ++ [b])) := by show _ = _; rw [List.length_append]; exact G3.out
          clear ho' hg' hf'
          go_wp2
          go_roundw
          case rel => exact ⟨D ++ [b], pre ++ [b], post, ra, rc, HL3.out, by rw [List.length_append]; go_num, by simp, OF.out, FF.out, GF.out, by simp; omega, HP2.out, SF, BF.out⟩
          case measure => simp [intOf]; omega
end Go.Proofs.Ytjeahllaajpddaa
