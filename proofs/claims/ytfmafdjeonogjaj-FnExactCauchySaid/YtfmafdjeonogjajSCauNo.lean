import Derived.Test.YtfmafdjeonogjajSCau
namespace Go.Proofs.Ytfmafdjeonogjaj
open Go.RowKit
set_option maxRecDepth 20000 in
set_option maxHeartbeats 1000000 in
theorem scauchy_no (r c : Int) (w : World) (hno : ¬ (1 ≤ r ∧ r ≤ 64 ∧ 1 ≤ c ∧ c ≤ 64)) :
    Calls Try.prog 4 #[.int .i64 r, .int .i64 c] w fun e w' => e = .returned (mrNone 1) ∧ Below w.heap.size w w' := by
  by_cases h1 : r < 1
  · have d0 : decide (r < 1) = true := by simp; omega
    go_enter Try.func4, Try.ntmps4
    go_wp2
    exact bodyPost_ret (v := mrNone 1) (by simp [results, Try.results4, go_sem]) rfl ⟨rfl, (Below.refl _ _).alloc (Nat.le_refl _) _⟩
  have d0 : decide (r < 1) = false := by simp; omega
  by_cases h2 : 64 < r
  · have d1 : decide (64 < r) = true := by simp; omega
    go_enter Try.func4, Try.ntmps4
    go_wp2
    exact bodyPost_ret (v := mrNone 1) (by simp [results, Try.results4, go_sem]) rfl ⟨rfl, (Below.refl _ _).alloc (Nat.le_refl _) _⟩
  have d1 : decide (64 < r) = false := by simp; omega
  by_cases h3 : c < 1
  · have d2 : decide (c < 1) = true := by simp; omega
    go_enter Try.func4, Try.ntmps4
    go_wp2
    exact bodyPost_ret (v := mrNone 1) (by simp [results, Try.results4, go_sem]) rfl ⟨rfl, (Below.refl _ _).alloc (Nat.le_refl _) _⟩
  have d2 : decide (c < 1) = false := by simp; omega
  have d3 : decide (64 < c) = true := by simp; omega
  go_enter Try.func4, Try.ntmps4
  go_wp2
  exact bodyPost_ret (v := mrNone 1) (by simp [results, Try.results4, go_sem]) rfl ⟨rfl, (Below.refl _ _).alloc (Nat.le_refl _) _⟩
end Go.Proofs.Ytfmafdjeonogjaj
