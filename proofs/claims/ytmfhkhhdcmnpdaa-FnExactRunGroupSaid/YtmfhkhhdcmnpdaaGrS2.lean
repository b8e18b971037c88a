import Derived.Test.YtmfhkhhdcmnpdaaGrS
namespace Go.Proofs.Ytmfhkhhdcmnpdaa
open Go.RowKit
set_option linter.unusedVariables false
/-! The specification's NewerLog and counting. -/
theorem gLast_nil {L : List Ge} (h : L.length = 0) : gLast L = 0 := by
  rw [List.eq_nil_of_length_eq_zero h]; rfl
theorem gLast_at {L : List Ge} (h : 0 < L.length) : (geAt L (L.length - 1)).tm = gLast L := by
  unfold gLast geAt
  rw [List.getLastD_eq_getLast?, List.getLast?_eq_getElem?, List.getD_eq_getElem?_getD]
set_option maxRecDepth 20000 in
set_option maxHeartbeats 1000000 in
theorem sLast (a : Option Addr) (cap : Nat) (L : List Ge) (hl : L.length ≤ 1048576) (w : World) (h : Ges w a L.length cap (geAt L)) :
    Calls Try.prog 34 #[.slice a L.length cap] w fun e w' => e = .returned (.int .i64 (gLast L)) ∧ w' = w := by
  by_cases h0 : L.length = 0
  · rw [gLast_nil h0]
    have d0 : ((L.length : Int) == 0) = true := by rw [beq_iff_eq]; omega
    generalize L.length = n at *
    clear h0
    go_enter Try.func34, Try.ntmps34
    go_wp2
    go_ret
    exact ⟨rfl, rfl⟩
  · have d0 : ((L.length : Int) == 0) = false := by rw [beq_eq_false_iff_ne]; omega
    rcases h.2 with h00 | ⟨b, off, rfl, hbl, hc⟩
    · omega
    have c0 := (hc (L.length - 1) (by omega)).1
    rw [gLast_at (by omega)] at c0
    generalize gLast L = x at c0 ⊢
    obtain ⟨q, hq⟩ : ∃ q, q = L.length - 1 := ⟨_, rfl⟩
    rw [← hq] at c0
    have e1 : (L.length : Int) - 1 = (q : Int) := by omega
    have e2 : (q : Int) < (L.length : Int) := by omega
    have e3 : (0 : Int) ≤ (q : Int) := by omega
    generalize L.length = n at *
    clear h0 hc hq h
    go_enter Try.func34, Try.ntmps34
    go_wp2
    go_ret
    exact ⟨rfl, rfl⟩
set_option maxRecDepth 20000 in
set_option maxHeartbeats 2000000 in
theorem sNewer (a : Option Addr) (cap : Nat) (L : List Ge) (a' : Option Addr) (cap' : Nat) (L' : List Ge) (hl : L.length ≤ 1048576) (hl' : L'.length ≤ 1048576) (w : World) (h : Ges w a L.length cap (geAt L)) (h' : Ges w a' L'.length cap' (geAt L')) :
    Calls Try.prog 12 #[.slice a L.length cap, .slice a' L'.length cap'] w fun e w' => e = .returned (.bool (gNewer L L')) ∧ w' = w := by
  have K1 := hid (sLast a cap L hl w h)
  have K2 := hid (sLast a' cap' L' hl' w h')
  clear h h'
  unfold gNewer
  generalize gLast L = x at K1 ⊢
  generalize gLast L' = y at K2 ⊢
  by_cases hx : y < x
  · have d1 : decide (y < x) = true := decide_eq_true hx
    rw [d1, Bool.true_or]
    go_enter Try.func12, Try.ntmps12
    go_wp2_with fail
    refine K1.out.mono ?_
    rintro e w2 ⟨rfl, hw⟩
    obtain rfl := hw.symm
    clear hw
    go_wp2_with fail
    refine K2.out.mono ?_
    rintro e w2 ⟨rfl, hw⟩
    obtain rfl := hw.symm
    clear hw
    go_wp2
    go_ret
    exact ⟨rfl, rfl⟩
  · have d1 : decide (y < x) = false := decide_eq_false hx
    rw [d1, Bool.false_or]
    by_cases hy : x = y
    · have d2 : (x == y) = true := by rw [beq_iff_eq]; exact hy
      have d3 : decide (x = y) = true := decide_eq_true hy
      rw [d3, Bool.true_and]
      clear hx hy d3
      go_enter Try.func12, Try.ntmps12
      go_wp2_with fail
      refine K1.out.mono ?_
      rintro e w2 ⟨rfl, hw⟩
      obtain rfl := hw.symm
      clear hw
      go_wp2_with fail
      refine K2.out.mono ?_
      rintro e w2 ⟨rfl, hw⟩
      obtain rfl := hw.symm
      clear hw
      go_wp2_with fail
      refine K1.out.mono ?_
      rintro e w2 ⟨rfl, hw⟩
      obtain rfl := hw.symm
      clear hw
      go_wp2_with fail
      refine K2.out.mono ?_
      rintro e w2 ⟨rfl, hw⟩
      obtain rfl := hw.symm
      clear hw
      go_wp2
      go_ret
      exact ⟨by simp, rfl⟩
    · have d2 : (x == y) = false := by rw [beq_eq_false_iff_ne]; exact hy
      have d3 : decide (x = y) = false := decide_eq_false hy
      rw [d3, Bool.false_and]
      clear hx hy d3
      go_enter Try.func12, Try.ntmps12
      go_wp2_with fail
      refine K1.out.mono ?_
      rintro e w2 ⟨rfl, hw⟩
      obtain rfl := hw.symm
      clear hw
      go_wp2_with fail
      refine K2.out.mono ?_
      rintro e w2 ⟨rfl, hw⟩
      obtain rfl := hw.symm
      clear hw
      go_wp2_with fail
      refine K1.out.mono ?_
      rintro e w2 ⟨rfl, hw⟩
      obtain rfl := hw.symm
      clear hw
      go_wp2_with fail
      refine K2.out.mono ?_
      rintro e w2 ⟨rfl, hw⟩
      obtain rfl := hw.symm
      clear hw
      go_wp2
      go_ret
      exact ⟨rfl, rfl⟩
end Go.Proofs.Ytmfhkhhdcmnpdaa
