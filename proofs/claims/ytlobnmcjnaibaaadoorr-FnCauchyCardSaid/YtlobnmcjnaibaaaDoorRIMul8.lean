import Derived.Test.YtlobnmcjnaibaaaDoorRIProd8
namespace Go.Proofs.YtlobnmcjnaibaaaDoorR
open Go.RowKit
set_option maxRecDepth 20000 in
set_option maxHeartbeats 400000 in
theorem has8 (a : Int) (w : World) : Calls Tryd.prog 40 #[.agg #[.int .u8 29], .int .i64 a] w fun e w' => e = .returned (.bool (inT 256 a)) ∧ w' = w.alloc (.cells #[.int .u8 29] 61) := by
  have m1 : wrap64 (bits .xor .u8 (IntKind.u8.max) 0) = 255 := by kernel_rfl
  by_cases h0 : 0 ≤ a
  · by_cases h1 : a < 256
    · have d0 : decide (0 ≤ a) = true := by simp; omega
      have d1 : decide (a ≤ 255) = true := by simp; omega
      have d2 : inT 256 a = true := by unfold inT; simp; omega
      rw [d2]
      clear d2
      go_enter Tryd.func40, Tryd.ntmps40
      go_wp2
      go_ret
      exact ⟨rfl, rfl⟩
    · have d0 : decide (0 ≤ a) = true := by simp; omega
      have d1 : decide (a ≤ 255) = false := by simp; omega
      have d2 : inT 256 a = false := by unfold inT; simp; omega
      rw [d2]
      clear d2
      go_enter Tryd.func40, Tryd.ntmps40
      go_wp2
      go_ret
      exact ⟨rfl, rfl⟩
  · have d0 : decide (0 ≤ a) = false := by simp; omega
    have d2 : inT 256 a = false := by unfold inT; simp; omega
    rw [d2]
    clear d2
    go_enter Tryd.func40, Tryd.ntmps40
    go_wp2
    go_ret
    exact ⟨rfl, rfl⟩
end Go.Proofs.YtlobnmcjnaibaaaDoorR
