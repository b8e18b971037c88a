import Derived.Test.YtlobnmcjnaibaajCodeF
namespace Go.Proofs.Ytlobnmcjnaibaaj
open Go.RowKit
set_option maxRecDepth 20000 in
set_option maxHeartbeats 2000000 in
theorem fnExactCodeSize_walk {w : World} (k : Int) (_wk : (Lit.int .i64 k).wf = true) (m : Int) (_wm : (Lit.int .i64 m).wf = true) (g : Int) (_wg : (Lit.int .i64 g).wf = true) :
    Calls Try.prog 5 #[.agg #[.int .i64 k, .int .i64 m, .int .i64 g]] w fun e w' => e = .returned (.bool true) ∧ Below w.heap.size w w' := by
  clear _wk _wm _wg
  go_enter Try.func5, Try.ntmps5
  go_wp2_with fail
  refine (toCd k m g _).mono ?_
  rintro e w1 ⟨rfl, hb1⟩
  have B1 : Hid (RowAt w1 w.heap.size 32 #[.int .i64 k, .int .i64 m, .int .i64 g]) := (RowAt.new w _ _).below hb1 (by rw [size_al]; omega)
  have L1 : Hid (Below w.heap.size w w1) := ((Below.refl _ _).alloc (Nat.le_refl _) _).trans (hb1.mono (by rw [size_al]; omega))
  clear hb1
  go_wp2_with fail
  refine (sCsize k m g _).mono ?_
  rintro e w2 ⟨rfl, hv2⟩
  have B2 : Hid (RowAt w2 w.heap.size 32 #[.int .i64 k, .int .i64 m, .int .i64 g]) := by rw [hv2]; exact (B1.out.alloc (.cells (cda k m g) 34)).alloc (.cells (cda k m g) 34)
  have L2 : Hid (Below w.heap.size w w2) := by rw [hv2]; exact bal (bal L1.out (.cells (cda k m g) 34) (Nat.le_refl _)) (.cells (cda k m g) 34) (Nat.le_refl _)
  clear hv2 B1 L1
  have c0 := B2.out.cell 0
  have c1 := B2.out.cell 1
  have c2 := B2.out.cell 2
  go_wp2_with fail
  refine (toCd k m g _).mono ?_
  rintro e w3 ⟨rfl, hb3⟩
  have L3 : Hid (Below w.heap.size w w3) := L2.out.trans (hb3.mono L2.out.size)
  clear hb3 c0 c1 c2
  go_wp2_with fail
  refine (iCsize k m g _).mono ?_
  rintro e w4 ⟨rfl, hv4⟩
  have L4 : Hid (Below w.heap.size w w4) := by rw [hv4]; exact bal (bal L3.out (.cells (cda k m g) 34) (Nat.le_refl _)) (.cells (cda k m g) 34) (Nat.le_refl _)
  clear hv4 L3 L2 B2
  go_wp2
  go_ret
  exact ⟨rfl, L4.out⟩
end Go.Proofs.Ytlobnmcjnaibaaj
