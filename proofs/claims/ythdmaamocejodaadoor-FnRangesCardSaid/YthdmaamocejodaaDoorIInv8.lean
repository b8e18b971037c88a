import Derived.Test.YthdmaamocejodaaDoorIPow8
import Derived.Test.YthdmaamocejodaaDoorIMul8
namespace Go.Proofs.YthdmaamocejodaaDoor
open Go.RowKit
set_option maxRecDepth 20000 in
set_option maxHeartbeats 400000 in
theorem inverse8 (a G : Nat) (ha : a < 256) (HG : Hid (gp 8 29 a 254 = G)) (w : World) : Calls Tryd.prog 56 #[.agg #[.int .u8 29], .int .u8 a] w fun e w' => e = .returned (.int .u8 (G : Nat)) ∧ Below w.heap.size w w' := by
  have m1 : bits .xor .u8 (IntKind.u8.max) 0 = 255 := by kernel_rfl
  go_enter Tryd.func56, Tryd.ntmps56
  go_wp2_with fail
  refine (power8 a 254 G ha (by decide) HG _).mono ?_
  rintro e w1 ⟨rfl, hb⟩
  go_wp2
  go_ret
  exact ⟨rfl, ((Below.refl _ _).alloc (Nat.le_refl _) _).trans (hb.mono (by rw [size_al]; omega))⟩
end Go.Proofs.YthdmaamocejodaaDoor
