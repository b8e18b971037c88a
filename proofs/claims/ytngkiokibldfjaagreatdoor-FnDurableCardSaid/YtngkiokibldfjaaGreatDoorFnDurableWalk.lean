import Derived.Test.YtngkiokibldfjaaGreatDoorFdW
import Derived.Test.YtngkiokibldfjaaGreatDoorQA
namespace Go.Proofs.YtngkiokibldfjaaGreatDoor
open Go.RowKit
set_option linter.unusedVariables false
/-! FnDurable, as its row hands it its arguments. -/
theorem dur_run (ea eb : Addr) (L : List Op) (W : World) (b : Option Addr) (c : Nat) (hl : L.length ≤ 2000) (hz : ∀ k, k < L.length → (L.getD k opZ).ky.size ≤ 1048576 ∧ (L.getD k opZ).dt.size ≤ 1048576) (hE : Errs W ea eb) (hT : TB W) (h : Exs W b L.length c (fun k => L.getD k opZ)) :
    Calls Tryz.prog 8 #[.agg #[.string ⟨#[]⟩, .int .i64 0], .slice b L.length c] W fun e w' => AnD (xF ⟨#[]⟩ 0 L).1.1 ((xF ⟨#[]⟩ 0 L).1.2 : Nat) (xF ⟨#[]⟩ 0 L).2 W e w' := by
  have K := iRunX ea eb ⟨#[]⟩ 0 ⟨Nat.zero_le _, Nat.le_refl _⟩ b L.length c (fun k => L.getD k opZ) hl hz W hE hT h
  refine K.mono ?_
  rintro e w' ⟨⟨v, O, rfl, h1, h2, h3, _⟩, hb⟩
  rw [xF_run]
  exact ⟨⟨v, O, rfl, h1, h2, fun p hp => by obtain ⟨a, c, e⟩ := orSlice (h3 p hp); exact ⟨a, _, c, e⟩⟩, hb⟩
set_option maxRecDepth 20000 in
set_option maxHeartbeats 1000000 in
theorem fnDurable_walk {w : World} (hL : TB w ∧ ∃ ea eb, Errs w ea eb) (a0 : Option Addr) (len0 cap0 : Nat) (z0 : List Int) (h0 : IsRow .u8 w a0 len0 cap0 z0) (a1 : Option Addr) (len1 cap1 : Nat) (z1 : List Int) (h1 : IsRow .u8 w a1 len1 cap1 z1) :
    Calls Tryz.prog 3 #[.slice a0 len0 cap0, .slice a1 len1 cap1] w fun e w' => e = .returned (.bool true) ∧ Below w.heap.size w w' := by
  have m0 := h0.le
  have m1 := h1.le
  unfold maxLen at m0 m1
  by_cases hl0 : len0 ≤ 1048576
  · by_cases hl1 : len1 ≤ 1048576
    · obtain ⟨hT, ea, eb, hE⟩ := hL
      exact fnDurable_core w a0 len0 cap0 (codeOk_of w a0 len0 cap0 z0 h0 hl0) m0.1 a1 len1 cap1 (codeOk_of w a1 len1 cap1 z1 h1 hl1) m1.1
        (fun L W b c hl hz hb hx => dur_run ea eb L W b c (Nat.le_trans hl (by decide)) hz (hE.below hb) (hT.below hb) hx)
    · have d0 : decide ((1048576 : Int) < (len0 : Int)) = false := by simp; omega
      have d1 : decide ((1048576 : Int) < (len1 : Int)) = true := by simp; omega
      clear hL
      go_enter Tryz.func3, Tryz.ntmps3
      go_wp2
      go_ret
      exact ⟨rfl, Below.refl _ _⟩
  · have d0 : decide ((1048576 : Int) < (len0 : Int)) = true := by simp; omega
    clear hL
    go_enter Tryz.func3, Tryz.ntmps3
    go_wp2
    go_ret
    exact ⟨rfl, Below.refl _ _⟩
end Go.Proofs.YtngkiokibldfjaaGreatDoor
