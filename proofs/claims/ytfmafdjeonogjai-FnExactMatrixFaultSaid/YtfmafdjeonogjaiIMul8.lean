import Derived.Test.YtfmafdjeonogjaiIProd8
namespace Go.Proofs.Ytfmafdjeonogjai
open Go.RowKit
set_option maxRecDepth 20000 in
set_option maxHeartbeats 400000 in
theorem has8 (a : Int) (w : World) : Calls Try.prog 36 #[.agg #[.int .u8 29], .int .i64 a] w fun e w' => e = .returned (.bool (inT 256 a)) ∧ w' = w.alloc (.cells #[.int .u8 29] 37) := by
  have m1 : wrap64 (bits .xor .u8 (IntKind.u8.max) 0) = 255 := by kernel_rfl
  by_cases h0 : 0 ≤ a
  · by_cases h1 : a < 256
    · have d0 : decide (0 ≤ a) = true := by simp; omega
      have d1 : decide (a ≤ 255) = true := by simp; omega
      have d2 : inT 256 a = true := by unfold inT; simp; omega
      rw [d2]
      clear d2
      go_enter Try.func36, Try.ntmps36
      go_wp2
      go_ret
      exact ⟨rfl, rfl⟩
    · have d0 : decide (0 ≤ a) = true := by simp; omega
      have d1 : decide (a ≤ 255) = false := by simp; omega
      have d2 : inT 256 a = false := by unfold inT; simp; omega
      rw [d2]
      clear d2
      go_enter Try.func36, Try.ntmps36
      go_wp2
      go_ret
      exact ⟨rfl, rfl⟩
  · have d0 : decide (0 ≤ a) = false := by simp; omega
    have d2 : inT 256 a = false := by unfold inT; simp; omega
    rw [d2]
    clear d2
    go_enter Try.func36, Try.ntmps36
    go_wp2
    go_ret
    exact ⟨rfl, rfl⟩
set_option maxRecDepth 20000 in
set_option maxHeartbeats 1000000 in
theorem mul8 (a b : Int) (w : World) : Calls Try.prog 27 #[.agg #[.int .u8 29], .int .i64 a, .int .i64 b] w fun e w' => e = .returned (.int .i64 (mulI 8 29 a b)) ∧ Below w.heap.size w w' := by
  unfold mulI
  have e8 : ((2 ^ 8 : Nat) : Int) = 256 := rfl
  rw [e8]
  cases hA : inT 256 a with
  | false =>
    rw [Bool.false_and, if_neg (by decide)]
    go_enter Try.func27, Try.ntmps27
    go_wp2_with fail
    refine (has8 a _).mono ?_
    rintro e w1 ⟨rfl, rfl⟩
    rw [hA]
    clear hA
    go_wp2
    go_ret
    exact ⟨rfl, ((Below.refl _ _).alloc (Nat.le_refl _) _).alloc (by rw [size_al]; omega) _⟩
  | true =>
    cases hB : inT 256 b with
    | false =>
      rw [Bool.and_false, if_neg (by decide)]
      have HB := hid hB
      have HA := hid hA
      clear hA hB
      go_enter Try.func27, Try.ntmps27
      go_wp2_with fail
      refine (has8 a _).mono ?_
      rintro e w1 ⟨rfl, rfl⟩
      rw [HA.out]
      go_wp2_with fail
      refine (has8 b _).mono ?_
      rintro e w1 ⟨rfl, rfl⟩
      rw [HB.out]
      go_wp2
      go_ret
      exact ⟨rfl, (((Below.refl _ _).alloc (Nat.le_refl _) _).alloc (by rw [size_al]; omega) _).alloc (by rw [size_al, size_al]; omega) _⟩
    | true =>
      obtain ⟨A, rfl, hA2⟩ := inT_nat (T := 256) hA
      obtain ⟨B, rfl, hB2⟩ := inT_nat (T := 256) hB
      rw [Bool.and_true, if_pos rfl]
      have HB := hid hB
      have HA := hid hA
      clear hA hB
      have hg : gm 8 29 A B < 256 := gm_lt fld8.toFld B hA2
      go_enter Try.func27, Try.ntmps27
      go_wp2_with fail
      refine (has8 A _).mono ?_
      rintro e w1 ⟨rfl, rfl⟩
      rw [show inT 256 (A : Int) = true from HA.out]
      go_wp2_with fail
      refine (has8 B _).mono ?_
      rintro e w1 ⟨rfl, rfl⟩
      rw [show inT 256 (B : Int) = true from HB.out]
      go_wp2_with fail
      refine (product8 A B hA2 hB2 _).mono ?_
      rintro e w1 ⟨rfl, hb⟩
      go_wp2
      go_ret
      refine ⟨rfl, ?_⟩
      exact ((((Below.refl _ _).alloc (Nat.le_refl _) _).alloc (by rw [size_al]; omega) _).alloc (by rw [size_al, size_al]; omega) _).trans (hb.mono (by rw [size_al, size_al, size_al]; omega))
set_option maxHeartbeats 400000 in
theorem imul8 (a b : Int) (w : World) : Calls Try.prog 10 #[.int .i64 a, .int .i64 b] w fun e w' => e = .returned (.int .i64 (mulI 8 29 a b)) ∧ Below w.heap.size w w' := by
  go_enter Try.func10, Try.ntmps10
  go_wp2_with fail
  refine (field8 _).mono ?_
  rintro e w1 ⟨rfl, rfl⟩
  go_wp2_with fail
  refine (mul8 a b _).mono ?_
  rintro e w1 ⟨rfl, hb⟩
  go_wp2
  go_ret
  exact ⟨rfl, ((Below.refl _ _).alloc (Nat.le_refl _) _).trans (hb.mono (by rw [size_al]; omega))⟩
end Go.Proofs.Ytfmafdjeonogjai
