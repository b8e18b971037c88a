import Derived.Test.YtgmgpkpicfpdhaaIPow8
import Derived.Test.YtgmgpkpicfpdhaaIMul8
namespace Go.Proofs.Ytgmgpkpicfpdhaa
open Go.RowKit
set_option maxRecDepth 20000 in
set_option maxHeartbeats 400000 in
theorem pow_out8 (a n : Int) (hA : inT 256 a = false) (w : World) : Calls Try.prog 38 #[.agg #[.int .u8 29], .int .i64 a, .int .i64 n] w fun e w' => e = .returned (.int .i64 (-1)) ∧ Below w.heap.size w w' := by
  have HA := hid hA
  clear hA
  go_enter Try.func38, Try.ntmps38
  go_wp2_with fail
  refine (has8 a _).mono ?_
  rintro e w1 ⟨rfl, rfl⟩
  rw [HA.out]
  go_wp2
  go_ret
  exact ⟨rfl, ((Below.refl _ _).alloc (Nat.le_refl _) _).alloc (by rw [size_al]; omega) _⟩
set_option maxRecDepth 20000 in
set_option maxHeartbeats 400000 in
theorem pow_neg8 (a n : Int) (hA : inT 256 a = true) (hn : n < 0) (w : World) : Calls Try.prog 38 #[.agg #[.int .u8 29], .int .i64 a, .int .i64 n] w fun e w' => e = .returned (.int .i64 (-1)) ∧ Below w.heap.size w w' := by
  have HA := hid hA
  have d0 : decide (n < 0) = true := by simp; omega
  clear hA
  go_enter Try.func38, Try.ntmps38
  go_wp2_with fail
  refine (has8 a _).mono ?_
  rintro e w1 ⟨rfl, rfl⟩
  rw [HA.out]
  go_wp2
  go_ret
  exact ⟨rfl, ((Below.refl _ _).alloc (Nat.le_refl _) _).alloc (by rw [size_al]; omega) _⟩
set_option maxRecDepth 20000 in
set_option maxHeartbeats 400000 in
theorem pow_yes8 (A n G : Nat) (hA : A < 256) (hn : n < 9223372036854775808) (hG : G < 256) (HG : Hid (gp 8 29 A n = G)) (w : World) : Calls Try.prog 38 #[.agg #[.int .u8 29], .int .i64 A, .int .i64 n] w fun e w' => e = .returned (.int .i64 (G : Nat)) ∧ Below w.heap.size w w' := by
  have HA : Hid (inT 256 (A : Int) = true) := inT_of (T := 256) hA
  have d0 : decide ((n : Int) < 0) = false := by simp
  go_enter Try.func38, Try.ntmps38
  go_wp2_with fail
  refine (has8 A _).mono ?_
  rintro e w1 ⟨rfl, rfl⟩
  rw [HA.out]
  go_wp2_with fail
  refine (power8 A n G hA (by omega) HG _).mono ?_
  rintro e w1 ⟨rfl, hb⟩
  go_wp2
  go_ret
  refine ⟨rfl, ?_⟩
  exact (((Below.refl _ _).alloc (Nat.le_refl _) _).alloc (by rw [size_al]; omega) _).trans (hb.mono (by rw [size_al, size_al]; omega))
theorem pow8 (a n : Int) (hn : n ≤ 9223372036854775807) (w : World) : Calls Try.prog 38 #[.agg #[.int .u8 29], .int .i64 a, .int .i64 n] w fun e w' => e = .returned (.int .i64 (powI 8 29 a n)) ∧ Below w.heap.size w w' := by
  unfold powI
  rw [show ((2 ^ 8 : Nat) : Int) = 256 from rfl]
  cases hA : inT 256 a with
  | false => rw [Bool.false_and, if_neg (by decide)]; exact pow_out8 a n hA w
  | true =>
    by_cases h : 0 ≤ n
    · obtain ⟨A, rfl, hA2⟩ := inT_nat (T := 256) hA
      obtain ⟨N, rfl⟩ := Int.eq_ofNat_of_zero_le h
      rw [decide_eq_true h, Bool.and_true, if_pos rfl]
      exact pow_yes8 A N _ hA2 (by omega) (gp_lt fld8.toFld hA2 _) rfl w
    · rw [decide_eq_false h, Bool.and_false, if_neg (by decide)]
      exact pow_neg8 a n hA (by omega) w
set_option maxHeartbeats 400000 in
theorem ipow8 (a n : Int) (hn : n ≤ 9223372036854775807) (w : World) : Calls Try.prog 22 #[.int .i64 a, .int .i64 n] w fun e w' => e = .returned (.int .i64 (powI 8 29 a n)) ∧ Below w.heap.size w w' := by
  go_enter Try.func22, Try.ntmps22
  go_wp2_with fail
  refine (field8 _).mono ?_
  rintro e w1 ⟨rfl, rfl⟩
  go_wp2_with fail
  refine (pow8 a n hn _).mono ?_
  rintro e w1 ⟨rfl, hb⟩
  go_wp2
  go_ret
  exact ⟨rfl, ((Below.refl _ _).alloc (Nat.le_refl _) _).trans (hb.mono (by rw [size_al]; omega))⟩
end Go.Proofs.Ytgmgpkpicfpdhaa
