import Derived.Test.YtgmgpkpicfpdhaaIPow8
import Derived.Test.YtgmgpkpicfpdhaaIMul8
namespace Go.Proofs.Ytgmgpkpicfpdhaa
open Go.RowKit
set_option maxRecDepth 20000 in
set_option maxHeartbeats 400000 in
theorem inverse8 (a G : Nat) (ha : a < 256) (HG : Hid (gp 8 29 a 254 = G)) (w : World) : Calls Try.prog 49 #[.agg #[.int .u8 29], .int .u8 a] w fun e w' => e = .returned (.int .u8 (G : Nat)) ∧ Below w.heap.size w w' := by
  have m1 : bits .xor .u8 (IntKind.u8.max) 0 = 255 := by kernel_rfl
  go_enter Try.func49, Try.ntmps49
  go_wp2_with fail
  refine (power8 a 254 G ha (by decide) HG _).mono ?_
  rintro e w1 ⟨rfl, hb⟩
  go_wp2
  go_ret
  exact ⟨rfl, ((Below.refl _ _).alloc (Nat.le_refl _) _).trans (hb.mono (by rw [size_al]; omega))⟩
set_option maxRecDepth 20000 in
set_option maxHeartbeats 400000 in
theorem inv_no8 (a : Int) (hA : inT 256 a = false) (w : World) : Calls Try.prog 37 #[.agg #[.int .u8 29], .int .i64 a] w fun e w' => e = .returned (.int .i64 (-1)) ∧ Below w.heap.size w w' := by
  have HA := hid hA
  clear hA
  go_enter Try.func37, Try.ntmps37
  go_wp2_with fail
  refine (has8 a _).mono ?_
  rintro e w1 ⟨rfl, rfl⟩
  rw [HA.out]
  go_wp2
  go_ret
  exact ⟨rfl, ((Below.refl _ _).alloc (Nat.le_refl _) _).alloc (by rw [size_al]; omega) _⟩
set_option maxRecDepth 20000 in
set_option maxHeartbeats 400000 in
theorem inv_yes8 (A G : Nat) (hA : A < 256) (hG : G < 256) (HG : Hid (gp 8 29 A 254 = G)) (w : World) : Calls Try.prog 37 #[.agg #[.int .u8 29], .int .i64 A] w fun e w' => e = .returned (.int .i64 (G : Nat)) ∧ Below w.heap.size w w' := by
  have HA : Hid (inT 256 (A : Int) = true) := inT_of (T := 256) hA
  go_enter Try.func37, Try.ntmps37
  go_wp2_with fail
  refine (has8 A _).mono ?_
  rintro e w1 ⟨rfl, rfl⟩
  rw [HA.out]
  go_wp2_with fail
  refine (inverse8 A G hA HG _).mono ?_
  rintro e w1 ⟨rfl, hb⟩
  go_wp2
  go_ret
  refine ⟨rfl, ?_⟩
  exact (((Below.refl _ _).alloc (Nat.le_refl _) _).alloc (by rw [size_al]; omega) _).trans (hb.mono (by rw [size_al, size_al]; omega))
theorem invm8 (a : Int) (w : World) : Calls Try.prog 37 #[.agg #[.int .u8 29], .int .i64 a] w fun e w' => e = .returned (.int .i64 (invI 8 29 a)) ∧ Below w.heap.size w w' := by
  unfold invI
  rw [show ((2 ^ 8 : Nat) : Int) = 256 from rfl]
  cases hA : inT 256 a with
  | false => rw [if_neg (by decide)]; exact inv_no8 a hA w
  | true =>
    obtain ⟨A, rfl, hA2⟩ := inT_nat (T := 256) hA
    rw [if_pos rfl]
    exact inv_yes8 A _ hA2 (gp_lt fld8.toFld hA2 _) rfl w
set_option maxHeartbeats 400000 in
theorem iinv8 (a : Int) (w : World) : Calls Try.prog 21 #[.int .i64 a] w fun e w' => e = .returned (.int .i64 (invI 8 29 a)) ∧ Below w.heap.size w w' := by
  go_enter Try.func21, Try.ntmps21
  go_wp2_with fail
  refine (field8 _).mono ?_
  rintro e w1 ⟨rfl, rfl⟩
  go_wp2_with fail
  refine (invm8 a _).mono ?_
  rintro e w1 ⟨rfl, hb⟩
  go_wp2
  go_ret
  exact ⟨rfl, ((Below.refl _ _).alloc (Nat.le_refl _) _).trans (hb.mono (by rw [size_al]; omega))⟩
end Go.Proofs.Ytgmgpkpicfpdhaa
