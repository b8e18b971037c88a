import Derived.Test.YtngkiokibldfjaaGreatDoorFeW
namespace Go.Proofs.YtngkiokibldfjaaGreatDoor
open Go.RowKit
set_option linter.unusedVariables false
/-! FnExtents, as its row hands it its arguments. -/
set_option maxRecDepth 20000 in
set_option maxHeartbeats 1000000 in
theorem fnExtents_walk {w : World} (hL : TB w ∧ ∃ ea eb, Errs w ea eb) (a0 : Option Addr) (len0 cap0 : Nat) (z0 : List Int) (h0 : IsRow .u8 w a0 len0 cap0 z0) :
    Calls Tryz.prog 4 #[.slice a0 len0 cap0] w fun e w' => e = .returned (.bool true) ∧ Below w.heap.size w w' := by
  have m0 := h0.le
  unfold maxLen at m0
  by_cases hl0 : len0 ≤ 1048576
  · obtain ⟨hT, ea, eb, hE⟩ := hL
    exact fnExtents_core ea eb w a0 len0 cap0 (codeOk_of w a0 len0 cap0 z0 h0 hl0) m0.1 hE hT
  · have d0 : decide ((1048576 : Int) < (len0 : Int)) = true := by simp; omega
    clear hL
    go_enter Tryz.func4, Tryz.ntmps4
    go_wp2
    go_ret
    exact ⟨rfl, Below.refl _ _⟩
end Go.Proofs.YtngkiokibldfjaaGreatDoor
