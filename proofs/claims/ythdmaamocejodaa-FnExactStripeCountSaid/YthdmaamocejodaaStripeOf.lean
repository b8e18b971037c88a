import Derived.Test.YthdmaamocejodaaSStripe
namespace Go.Proofs.Ythdmaamocejodaa
open Go.RowKit
/-! FnExactStripeCount out of the program's own contract. -/
set_option maxRecDepth 20000 in
set_option maxHeartbeats 2000000 in
theorem fnExactStripeCount_of (k m g u s : Int) (HI : ∀ w : World, Calls Try.prog 7 #[cdv k m g, .int .i64 u, .int .i64 s] w fun e w' => e = .returned (.int .i64 (stripeN k m g u s)) ∧ Below w.heap.size w w') (w : World) :
    Calls Try.prog 3 #[.agg #[.int .i64 k, .int .i64 m, .int .i64 g], .int .i64 u, .int .i64 s] w fun e w' => e = .returned (.bool true) ∧ Below w.heap.size w w' := by
  have HI' := hid HI
  clear HI
  obtain ⟨N, hN⟩ : ∃ N, N = stripeN k m g u s := ⟨_, rfl⟩
  have dN : (N != N) = false := by simp
  have HN := hid hN
  clear hN
  go_enter Try.func3, Try.ntmps3
  go_wp2_with fail
  refine (toCd k m g _).mono ?_
  rintro e w1 ⟨rfl, hb1⟩
  have B1 : Hid (RowAt w1 w.heap.size 23 #[.int .i64 k, .int .i64 m, .int .i64 g]) := (RowAt.new w _ _).below hb1 (by rw [size_al]; omega)
  have L1 : Hid (Below w.heap.size w w1) := ((Below.refl _ _).alloc (Nat.le_refl _) _).trans (hb1.mono (by rw [size_al]; omega))
  clear hb1
  go_wp2_with fail
  refine (sStripe k m g u s _).mono ?_
  rintro e w2 ⟨rfl, hv2⟩
  have B2 : Hid (RowAt w2 w.heap.size 23 #[.int .i64 k, .int .i64 m, .int .i64 g]) := by rw [hv2]; exact (B1.out.alloc (.cells (cda k m g) 25)).alloc (.cells (cda k m g) 25)
  have L2 : Hid (Below w.heap.size w w2) := by rw [hv2]; exact bal (bal L1.out (.cells (cda k m g) 25) (Nat.le_refl _)) (.cells (cda k m g) 25) (Nat.le_refl _)
  rw [← HN.out]
  clear hv2 B1 L1
  have c0 := B2.out.cell 0
  have c1 := B2.out.cell 1
  have c2 := B2.out.cell 2
  go_wp2_with fail
  refine (toCd k m g _).mono ?_
  rintro e w3 ⟨rfl, hb3⟩
  have L3 : Hid (Below w.heap.size w w3) := L2.out.trans (hb3.mono L2.out.size)
  clear hb3 c0 c1 c2
  go_wp2_with fail
  refine (HI'.out _).mono ?_
  rintro e w4 ⟨rfl, hv4⟩
  have L4 : Hid (Below w.heap.size w w4) := L3.out.trans (hv4.mono L3.out.size)
  rw [← HN.out]
  clear hv4 L3 L2 B2
  go_wp2
  go_ret
  exact ⟨rfl, L4.out⟩
end Go.Proofs.Ythdmaamocejodaa
