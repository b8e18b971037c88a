import Derived.Test.YtgjkhjpkdkcnfaaSUnEsc
import Derived.Test.YtgjkhjpkdkcnfaaOfL
namespace Go.Proofs.Ytgjkhjpkdkcnfaa
open Go.RowKit
/-! The laws on Escape and UnEscape, out of contracts of the program's functions. -/
theorem sEscU (s : ByteArray) (hs : s.size ≤ 1048576) (w : World) :
    Calls Try.prog 5 #[.string s] w fun e w' => e = .returned (.string (ofL (escV s))) ∧ Below w.heap.size w w' := sEsc s hs w
set_option maxRecDepth 20000 in
set_option maxHeartbeats 1000000 in
theorem fnExactEscape_of (P : World → Prop) (hP : ∀ w w', P w → Below w.heap.size w w' → P w')
    (HI : ∀ s : ByteArray, s.size ≤ 1048576 → ∀ w, P w → Calls Try.prog 6 #[.string s] w fun e w' => e = .returned (.string (ofL (escV s))) ∧ Below w.heap.size w w')
    (s : ByteArray) (hs0 : s.size ≤ maxLen) {w : World} (hw : P w) :
    Calls Try.prog 3 #[.string s] w fun e w' => e = .returned (.bool true) ∧ Below w.heap.size w w' := by
  unfold maxLen at hs0
  have HI' := hid HI
  have HP := hid hP
  have HW := hid hw
  clear HI hP hw
  by_cases hs : s.size ≤ 1048576
  · have K1 := fun wx => hid (sEscU s hs wx)
    have K2 := fun wx hx => hid (HI'.out s hs wx hx)
    obtain ⟨V, hV⟩ : ∃ V, V = ofL (escV s) := ⟨_, rfl⟩
    rw [← hV] at K1 K2
    clear hV HI'
    have dF : (V.toList == V.toList) = true := by simp
    go_enter Try.func3, Try.ntmps3
    go_wp2_with fail
    refine (K1 _).out.mono ?_
    rintro e w1 ⟨rfl, hb1⟩
    have B1 := hid hb1
    clear hb1
    go_wp2_with fail
    refine (K2 _ (HP.out _ _ HW.out B1.out)).out.mono ?_
    rintro e w2 ⟨rfl, hb2⟩
    have B2 := hid (B1.out.trans (hb2.mono B1.out.size))
    clear hb2
    go_wp2
    go_ret
    exact ⟨rfl, B2.out⟩
  · go_enter Try.func3, Try.ntmps3
    go_wp2_with fail
    go_ret
    exact ⟨rfl, Below.refl _ _⟩
set_option maxRecDepth 20000 in
set_option maxHeartbeats 1000000 in
theorem eqTx (b : Bool) (t : ByteArray) (n : Int) (w : World) :
    Calls Try.prog 9 #[.agg #[.bool b, .string t, .int .i64 n], .agg #[.bool b, .string t, .int .i64 n]] w fun e w' => e = .returned (.bool true) ∧ Below w.heap.size w w' := by
  cases b
  all_goals
    go_enter Try.func9, Try.ntmps9
    go_wp2
    go_ret
    exact ⟨rfl, ((Below.refl _ _).alloc (Nat.le_refl _) _).alloc (by simp) _⟩
theorem unO_shape (s : ByteArray) : ∃ b t n, unO s = .agg #[.bool b, .string t, .int .i64 n] := by
  cases h : unV s with
  | none => exact ⟨_, _, _, unO_none h⟩
  | some b => exact ⟨_, _, _, unO_some h⟩
set_option maxRecDepth 20000 in
set_option maxHeartbeats 1000000 in
theorem fnExactUnEscape_of (P : World → Prop) (hP : ∀ w w', P w → Below w.heap.size w w' → P w')
    (HI : ∀ s : ByteArray, s.size ≤ 1048576 → ∀ w, P w → Calls Try.prog 8 #[.string s] w fun e w' => e = .returned (unO s) ∧ Below w.heap.size w w')
    (s : ByteArray) (hs0 : s.size ≤ maxLen) {w : World} (hw : P w) :
    Calls Try.prog 4 #[.string s] w fun e w' => e = .returned (.bool true) ∧ Below w.heap.size w w' := by
  unfold maxLen at hs0
  have HI' := hid HI
  have HP := hid hP
  have HW := hid hw
  clear HI hP hw
  by_cases hs : s.size ≤ 1048576
  · have K1 := fun wx => hid (sUn s hs wx)
    have K2 := fun wx hx => hid (HI'.out s hs wx hx)
    obtain ⟨b, t, n, hV⟩ := unO_shape s
    rw [hV] at K1 K2
    clear hV HI'
    go_enter Try.func4, Try.ntmps4
    go_wp2_with fail
    refine (K1 _).out.mono ?_
    rintro e w1 ⟨rfl, hb1⟩
    have B1 := hid hb1
    clear hb1
    go_upto_region 4 with fail
    obtain ⟨W2, hW2⟩ : ∃ W, W = w1.alloc (.cells #[.bool b, .string t, .int .i64 n] 25) := ⟨_, rfl⟩
    have R2 : Hid (RowAt W2 w1.heap.size 25 #[.bool b, .string t, .int .i64 n]) := by rw [hW2]; exact RowAt.new _ _ _
    have B2 : Hid (Below w.heap.size w W2) := by rw [hW2]; exact B1.out.alloc B1.out.size _
    obtain ⟨X, hX⟩ : ∃ X, X = w1.heap.size := ⟨_, rfl⟩
    rw [← hW2]
    rw [← hX] at R2 ⊢
    clear hW2 hX B1
    go_wp2_with fail
    refine (K2 _ (HP.out _ _ HW.out B2.out)).out.mono ?_
    rintro e w3 ⟨rfl, hb3⟩
    have R3 := hid (R2.out.below hb3 R2.out.lt)
    have B3 := hid (B2.out.trans (hb3.mono B2.out.size))
    clear hb3 R2 B2
    go_upto_region 5 with fail
    obtain ⟨W4, hW4⟩ : ∃ W, W = w3.alloc (.cells #[.bool b, .string t, .int .i64 n] 25) := ⟨_, rfl⟩
    have R4 : Hid (RowAt W4 X 25 #[.bool b, .string t, .int .i64 n]) := by rw [hW4]; exact R3.out.alloc _
    have S4 : Hid (RowAt W4 w3.heap.size 25 #[.bool b, .string t, .int .i64 n]) := by rw [hW4]; exact RowAt.new _ _ _
    have B4 : Hid (Below w.heap.size w W4) := by rw [hW4]; exact B3.out.alloc B3.out.size _
    obtain ⟨Y, hY⟩ : ∃ Y, Y = w3.heap.size := ⟨_, rfl⟩
    rw [← hW4]
    rw [← hY] at S4 ⊢
    clear hW4 hY B3 R3
    have r0 := R4.out.cell 0
    have r1 := R4.out.cell 1
    have r2 := R4.out.cell 2
    have s0 := S4.out.cell 0
    have s1 := S4.out.cell 1
    have s2 := S4.out.cell 2
    go_wp2_with fail
    refine (eqTx b t n _).mono ?_
    rintro e w5 ⟨rfl, hb5⟩
    have B5 := hid (B4.out.trans (hb5.mono B4.out.size))
    clear hb5
    go_wp2
    go_ret
    exact ⟨rfl, B5.out⟩
  · go_enter Try.func4, Try.ntmps4
    go_wp2_with fail
    go_ret
    exact ⟨rfl, Below.refl _ _⟩
end Go.Proofs.Ytgjkhjpkdkcnfaa
