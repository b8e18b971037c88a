import Derived.Test.YtgmgpkpicfpdhaaIPow16
import Derived.Test.YtgmgpkpicfpdhaaIMul16
namespace Go.Proofs.Ytgmgpkpicfpdhaa
open Go.RowKit
set_option maxRecDepth 20000 in
set_option maxHeartbeats 400000 in
theorem inverse16 (a G : Nat) (ha : a < 65536) (HG : Hid (gp 16 4107 a 65534 = G)) (w : World) : Calls Try.prog 53 #[.agg #[.int .u16 4107], .int .u16 a] w fun e w' => e = .returned (.int .u16 (G : Nat)) ∧ Below w.heap.size w w' := by
  have m1 : bits .xor .u16 (IntKind.u16.max) 0 = 65535 := by kernel_rfl
  go_enter Try.func53, Try.ntmps53
  go_wp2_with fail
  refine (power16 a 65534 G ha (by decide) HG _).mono ?_
  rintro e w1 ⟨rfl, hb⟩
  go_wp2
  go_ret
  exact ⟨rfl, ((Below.refl _ _).alloc (Nat.le_refl _) _).trans (hb.mono (by rw [size_al]; omega))⟩
set_option maxRecDepth 20000 in
set_option maxHeartbeats 400000 in
theorem inv_no16 (a : Int) (hA : inT 65536 a = false) (w : World) : Calls Try.prog 41 #[.agg #[.int .u16 4107], .int .i64 a] w fun e w' => e = .returned (.int .i64 (-1)) ∧ Below w.heap.size w w' := by
  have HA := hid hA
  clear hA
  go_enter Try.func41, Try.ntmps41
  go_wp2_with fail
  refine (has16 a _).mono ?_
  rintro e w1 ⟨rfl, rfl⟩
  rw [HA.out]
  go_wp2
  go_ret
  exact ⟨rfl, ((Below.refl _ _).alloc (Nat.le_refl _) _).alloc (by rw [size_al]; omega) _⟩
set_option maxRecDepth 20000 in
set_option maxHeartbeats 400000 in
theorem inv_yes16 (A G : Nat) (hA : A < 65536) (hG : G < 65536) (HG : Hid (gp 16 4107 A 65534 = G)) (w : World) : Calls Try.prog 41 #[.agg #[.int .u16 4107], .int .i64 A] w fun e w' => e = .returned (.int .i64 (G : Nat)) ∧ Below w.heap.size w w' := by
  have HA : Hid (inT 65536 (A : Int) = true) := inT_of (T := 65536) hA
  go_enter Try.func41, Try.ntmps41
  go_wp2_with fail
  refine (has16 A _).mono ?_
  rintro e w1 ⟨rfl, rfl⟩
  rw [HA.out]
  go_wp2_with fail
  refine (inverse16 A G hA HG _).mono ?_
  rintro e w1 ⟨rfl, hb⟩
  go_wp2
  go_ret
  refine ⟨rfl, ?_⟩
  exact (((Below.refl _ _).alloc (Nat.le_refl _) _).alloc (by rw [size_al]; omega) _).trans (hb.mono (by rw [size_al, size_al]; omega))
theorem invm16 (a : Int) (w : World) : Calls Try.prog 41 #[.agg #[.int .u16 4107], .int .i64 a] w fun e w' => e = .returned (.int .i64 (invI 16 4107 a)) ∧ Below w.heap.size w w' := by
  unfold invI
  rw [show ((2 ^ 16 : Nat) : Int) = 65536 from rfl]
  cases hA : inT 65536 a with
  | false => rw [if_neg (by decide)]; exact inv_no16 a hA w
  | true =>
    obtain ⟨A, rfl, hA2⟩ := inT_nat (T := 65536) hA
    rw [if_pos rfl]
    exact inv_yes16 A _ hA2 (gp_lt fld16.toFld hA2 _) rfl w
set_option maxHeartbeats 400000 in
theorem iinv16 (a : Int) (w : World) : Calls Try.prog 25 #[.int .i64 a] w fun e w' => e = .returned (.int .i64 (invI 16 4107 a)) ∧ Below w.heap.size w w' := by
  go_enter Try.func25, Try.ntmps25
  go_wp2_with fail
  refine (field16 _).mono ?_
  rintro e w1 ⟨rfl, rfl⟩
  go_wp2_with fail
  refine (invm16 a _).mono ?_
  rintro e w1 ⟨rfl, hb⟩
  go_wp2
  go_ret
  exact ⟨rfl, ((Below.refl _ _).alloc (Nat.le_refl _) _).trans (hb.mono (by rw [size_al]; omega))⟩
end Go.Proofs.Ytgmgpkpicfpdhaa
