import Derived.Test.YtcbmgpdpjagaoaaGreatFlW
namespace Go.Proofs.YtcbmgpdpjagaoaaGreat
open Go.RowKit
set_option linter.unusedVariables false
set_option maxRecDepth 20000 in
theorem fnFloor_walk {w : World} (a0 : Option Addr) (len0 cap0 : Nat) (z0 : List Int) (h0 : IsRow .u8 w a0 len0 cap0 z0) (a1 : Option Addr) (len1 cap1 : Nat) (z1 : List Int) (h1 : IsRow .u8 w a1 len1 cap1 z1) :
 Calls Tryz.prog 3 #[.slice a0 len0 cap0, .slice a1 len1 cap1] w fun e w' => e = .returned (.bool true) ∧ Below w.heap.size w w' := by
 have m0 := h0.le; have m1 := h1.le; unfold maxLen at m0 m1
 by_cases hl0 : len0 ≤ 1048576
 · by_cases hl1 : len1 ≤ 1048576
   · exact floorWalk a0 len0 cap0 hl0 a1 len1 cap1 w (codeOk_of w a1 len1 cap1 z1 h1 hl1) (hid (drawRT_all w a0 len0 cap0 (codeOk_of w a0 len0 cap0 z0 h0 hl0) m0.1))
   · have d0 : decide ((1048576 : Int) < (len0 : Int)) = false := by simp; omega
     have d1 : decide ((1048576 : Int) < (len1 : Int)) = true := by simp; omega
     go_enter Tryz.func3, Tryz.ntmps3
     go_wp2
     go_ret
     exact ⟨rfl, Below.refl _ _⟩
 · have d0 : decide ((1048576 : Int) < (len0 : Int)) = true := by simp; omega
   go_enter Tryz.func3, Tryz.ntmps3
   go_wp2
   go_ret
   exact ⟨rfl, Below.refl _ _⟩
end Go.Proofs.YtcbmgpdpjagaoaaGreat
