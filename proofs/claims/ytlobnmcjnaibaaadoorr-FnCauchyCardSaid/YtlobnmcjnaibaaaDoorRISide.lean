import Derived.Test.YtlobnmcjnaibaaaDoorRIMul8
import Derived.Test.YtlobnmcjnaibaaaDoorRSMx
namespace Go.Proofs.YtlobnmcjnaibaaaDoorR
open Go.RowKit
theorem isSide_eq (n : Int) (w : World) : Calls Tryd.prog 35 #[.int .i64 n] w fun e w' => e = .returned (.bool (decide (1 ≤ n) && decide (n ≤ 64))) ∧ w' = w := by
  by_cases h1 : 1 ≤ n
  · have d1 : decide (1 ≤ n) = true := by simpa using h1
    go_enter Tryd.func35, Tryd.ntmps35
    go_wp2
    go_ret
    exact ⟨by first | rfl | simp [h1], rfl⟩
  · have d1 : decide (1 ≤ n) = false := by simpa using h1
    go_enter Tryd.func35, Tryd.ntmps35
    go_wp2
    go_ret
    exact ⟨by first | rfl | simp [h1], rfl⟩
theorem isSide_yes (n : Int) (w : World) (h : 1 ≤ n ∧ n ≤ 64) : Calls Tryd.prog 35 #[.int .i64 n] w fun e w' => e = .returned (.bool true) ∧ w' = w := by
  have := isSide_eq n w
  rw [decide_eq_true h.1, decide_eq_true h.2] at this; exact this
theorem isSide_no (n : Int) (w : World) (h : ¬ (1 ≤ n ∧ n ≤ 64)) : Calls Tryd.prog 35 #[.int .i64 n] w fun e w' => e = .returned (.bool false) ∧ w' = w := by
  have := isSide_eq n w
  have e : (decide (1 ≤ n) && decide (n ≤ 64)) = false := by
    by_cases h1 : 1 ≤ n
    · rw [decide_eq_false (fun h2 => h ⟨h1, h2⟩), Bool.and_false]
    · rw [decide_eq_false h1, Bool.false_and]
  rw [e] at this; exact this
end Go.Proofs.YtlobnmcjnaibaaaDoorR
