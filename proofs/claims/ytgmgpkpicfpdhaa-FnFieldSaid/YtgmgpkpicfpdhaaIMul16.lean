import Derived.Test.YtgmgpkpicfpdhaaIProd16
namespace Go.Proofs.Ytgmgpkpicfpdhaa
open Go.RowKit
set_option maxRecDepth 20000 in
set_option maxHeartbeats 400000 in
theorem has16 (a : Int) (w : World) : Calls Try.prog 51 #[.agg #[.int .u16 4107], .int .i64 a] w fun e w' => e = .returned (.bool (inT 65536 a)) ∧ w' = w.alloc (.cells #[.int .u16 4107] 65) := by
  have m1 : wrap64 (bits .xor .u16 (IntKind.u16.max) 0) = 65535 := by kernel_rfl
  by_cases h0 : 0 ≤ a
  · by_cases h1 : a < 65536
    · have d0 : decide (0 ≤ a) = true := by simp; omega
      have d1 : decide (a ≤ 65535) = true := by simp; omega
      have d2 : inT 65536 a = true := by unfold inT; simp; omega
      rw [d2]
      clear d2
      go_enter Try.func51, Try.ntmps51
      go_wp2
      go_ret
      exact ⟨rfl, rfl⟩
    · have d0 : decide (0 ≤ a) = true := by simp; omega
      have d1 : decide (a ≤ 65535) = false := by simp; omega
      have d2 : inT 65536 a = false := by unfold inT; simp; omega
      rw [d2]
      clear d2
      go_enter Try.func51, Try.ntmps51
      go_wp2
      go_ret
      exact ⟨rfl, rfl⟩
  · have d0 : decide (0 ≤ a) = false := by simp; omega
    have d2 : inT 65536 a = false := by unfold inT; simp; omega
    rw [d2]
    clear d2
    go_enter Try.func51, Try.ntmps51
    go_wp2
    go_ret
    exact ⟨rfl, rfl⟩
set_option maxRecDepth 20000 in
set_option maxHeartbeats 1000000 in
theorem mul16 (a b : Int) (w : World) : Calls Try.prog 40 #[.agg #[.int .u16 4107], .int .i64 a, .int .i64 b] w fun e w' => e = .returned (.int .i64 (mulI 16 4107 a b)) ∧ Below w.heap.size w w' := by
  unfold mulI
  have e8 : ((2 ^ 16 : Nat) : Int) = 65536 := rfl
  rw [e8]
  cases hA : inT 65536 a with
  | false =>
    rw [Bool.false_and, if_neg (by decide)]
    go_enter Try.func40, Try.ntmps40
    go_wp2_with fail
    refine (has16 a _).mono ?_
    rintro e w1 ⟨rfl, rfl⟩
    rw [hA]
    clear hA
    go_wp2
    go_ret
    exact ⟨rfl, ((Below.refl _ _).alloc (Nat.le_refl _) _).alloc (by rw [size_al]; omega) _⟩
  | true =>
    cases hB : inT 65536 b with
    | false =>
      rw [Bool.and_false, if_neg (by decide)]
      have HB := hid hB
      have HA := hid hA
      clear hA hB
      go_enter Try.func40, Try.ntmps40
      go_wp2_with fail
      refine (has16 a _).mono ?_
      rintro e w1 ⟨rfl, rfl⟩
      rw [HA.out]
      go_wp2_with fail
      refine (has16 b _).mono ?_
      rintro e w1 ⟨rfl, rfl⟩
      rw [HB.out]
      go_wp2
      go_ret
      exact ⟨rfl, (((Below.refl _ _).alloc (Nat.le_refl _) _).alloc (by rw [size_al]; omega) _).alloc (by rw [size_al, size_al]; omega) _⟩
    | true =>
      obtain ⟨A, rfl, hA2⟩ := inT_nat (T := 65536) hA
      obtain ⟨B, rfl, hB2⟩ := inT_nat (T := 65536) hB
      rw [Bool.and_true, if_pos rfl]
      have HB := hid hB
      have HA := hid hA
      clear hA hB
      have hg : gm 16 4107 A B < 65536 := gm_lt fld16.toFld B hA2
      go_enter Try.func40, Try.ntmps40
      go_wp2_with fail
      refine (has16 A _).mono ?_
      rintro e w1 ⟨rfl, rfl⟩
      rw [show inT 65536 (A : Int) = true from HA.out]
      go_wp2_with fail
      refine (has16 B _).mono ?_
      rintro e w1 ⟨rfl, rfl⟩
      rw [show inT 65536 (B : Int) = true from HB.out]
      go_wp2_with fail
      refine (product16 A B hA2 hB2 _).mono ?_
      rintro e w1 ⟨rfl, hb⟩
      go_wp2
      go_ret
      refine ⟨rfl, ?_⟩
      exact ((((Below.refl _ _).alloc (Nat.le_refl _) _).alloc (by rw [size_al]; omega) _).alloc (by rw [size_al, size_al]; omega) _).trans (hb.mono (by rw [size_al, size_al, size_al]; omega))
set_option maxHeartbeats 400000 in
theorem imul16 (a b : Int) (w : World) : Calls Try.prog 23 #[.int .i64 a, .int .i64 b] w fun e w' => e = .returned (.int .i64 (mulI 16 4107 a b)) ∧ Below w.heap.size w w' := by
  go_enter Try.func23, Try.ntmps23
  go_wp2_with fail
  refine (field16 _).mono ?_
  rintro e w1 ⟨rfl, rfl⟩
  go_wp2_with fail
  refine (mul16 a b _).mono ?_
  rintro e w1 ⟨rfl, hb⟩
  go_wp2
  go_ret
  exact ⟨rfl, ((Below.refl _ _).alloc (Nat.le_refl _) _).trans (hb.mono (by rw [size_al]; omega))⟩
end Go.Proofs.Ytgmgpkpicfpdhaa
