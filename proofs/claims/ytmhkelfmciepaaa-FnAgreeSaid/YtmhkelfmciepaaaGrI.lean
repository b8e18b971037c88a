import Derived.Test.YtmhkelfmciepaaaGrS11
import Derived.Test.YtmhkelfmciepaaaICmp
namespace Go.Proofs.Ytmhkelfmciepaaa
open Go.RowKit
set_option linter.unusedVariables false
/-! The program's small functions of chapter 16 (by gengri.py). -/
set_option maxRecDepth 20000 in
theorem iCompareN (x y : Int) (w : World) :
    Calls Try.prog 51 #[.int .i64 x, .int .i64 y] w fun e w' => e = .returned (.int .i64 (cmpI x y)) ∧ w' = w := by
  have N : ∀ (x : Int) (w : World), Calls Try.prog 53 #[.int .i64 x] w fun e w' => e = .returned (.bool false) ∧ w' = w := fun x w => by
    have dm : (x != x) = false := by simp
    go_enter Try.func53, Try.ntmps53
    go_wp2
    go_ret
    exact ⟨rfl, rfl⟩
  have NH := fun x w => hid (N x w)
  clear N
  by_cases h1 : x < y
  · have E : Hid (cmpI x y = -1) := if_pos h1
    have d1 : decide (x < y) = true := by simp; omega
    go_enter Try.func51, Try.ntmps51
    go_wp2_with fail
    refine (NH _ _).out.mono ?_
    rintro e w1 ⟨rfl, rfl⟩
    go_wp2_with fail
    refine (NH _ _).out.mono ?_
    rintro e w2 ⟨rfl, rfl⟩
    go_wp2
    go_ret
    exact ⟨by rw [E.out]; rfl, rfl⟩
  have d1 : decide (x < y) = false := by simp; omega
  by_cases h2 : y < x
  · have E : Hid (cmpI x y = 1) := by show _ = _; unfold cmpI; rw [if_neg h1, if_pos h2]
    have d2 : decide (y < x) = true := by simp; omega
    go_enter Try.func51, Try.ntmps51
    go_wp2_with fail
    refine (NH _ _).out.mono ?_
    rintro e w1 ⟨rfl, rfl⟩
    go_wp2_with fail
    refine (NH _ _).out.mono ?_
    rintro e w2 ⟨rfl, rfl⟩
    go_wp2
    go_ret
    exact ⟨by rw [E.out]; rfl, rfl⟩
  · have d2 : decide (y < x) = false := by simp; omega
    have E : Hid (cmpI x y = 0) := by show _ = _; unfold cmpI; rw [if_neg h1, if_neg h2]
    go_enter Try.func51, Try.ntmps51
    go_wp2_with fail
    refine (NH _ _).out.mono ?_
    rintro e w1 ⟨rfl, rfl⟩
    go_wp2_with fail
    refine (NH _ _).out.mono ?_
    rintro e w2 ⟨rfl, rfl⟩
    go_wp2
    go_ret
    exact ⟨by rw [E.out]; rfl, rfl⟩
set_option maxRecDepth 20000 in
set_option maxHeartbeats 1000000 in
theorem iLast (a : Option Addr) (cap : Nat) (L : List Ge) (hl : L.length ≤ 1048576) (w : World) (h : Ges w a L.length cap (geAt L)) :
    Calls Try.prog 50 #[.slice a L.length cap] w fun e w' => e = .returned (.int .i64 (gLast L)) ∧ w' = w := by
  by_cases h0 : L.length = 0
  · rw [gLast_nil h0]
    have d0 : ((L.length : Int) == 0) = true := by rw [beq_iff_eq]; omega
    generalize L.length = n at *
    clear h0
    go_enter Try.func50, Try.ntmps50
    go_wp2
    go_ret
    exact ⟨rfl, rfl⟩
  · have d0 : ((L.length : Int) == 0) = false := by rw [beq_eq_false_iff_ne]; omega
    rcases h.2 with h00 | ⟨b, off, rfl, hbl, hc⟩
    · omega
    have c0 := (hc (L.length - 1) (by omega)).1
    rw [gLast_at (by omega)] at c0
    generalize gLast L = x at c0 ⊢
    obtain ⟨q, hq⟩ : ∃ q, q = L.length - 1 := ⟨_, rfl⟩
    rw [← hq] at c0
    have e1 : (L.length : Int) - 1 = (q : Int) := by omega
    have e2 : (q : Int) < (L.length : Int) := by omega
    have e3 : (0 : Int) ≤ (q : Int) := by omega
    generalize L.length = n at *
    clear h0 hc hq h
    go_enter Try.func50, Try.ntmps50
    go_wp2
    go_ret
    exact ⟨rfl, rfl⟩
theorem newer_cmp (x y : Int) (n m : Nat) : decide (0 < orI (cmpI x y) (cmpI n m)) = (decide (y < x) || (decide (x = y) && decide (m < n))) := by
  unfold orI cmpI
  by_cases h1 : x < y
  · have h2 : ¬ y < x := by omega
    have h3 : ¬ x = y := by omega
    simp [h1, h2, h3]
  · by_cases h2 : y < x
    · simp [h1, h2]
    · have h3 : x = y := by omega
      by_cases h4 : n < m
      · simp [h3, h4]; omega
      · by_cases h5 : m < n
        · simp [h3, h4, h5]
        · simp [h3, h4, h5]
set_option maxRecDepth 20000 in
set_option maxHeartbeats 2000000 in
theorem iNewer (a : Option Addr) (cap : Nat) (L : List Ge) (a' : Option Addr) (cap' : Nat) (L' : List Ge) (hl : L.length ≤ 1048576) (hl' : L'.length ≤ 1048576) (w : World) (h : Ges w a L.length cap (geAt L)) (h' : Ges w a' L'.length cap' (geAt L')) :
    Calls Try.prog 47 #[.slice a L.length cap, .slice a' L'.length cap'] w fun e w' => e = .returned (.bool (gNewer L L')) ∧ Below w.heap.size w w' := by
  have K1 := hid (iLast a cap L hl w h)
  have K2 := hid (iLast a' cap' L' hl' w h')
  clear h h'
  unfold gNewer
  rw [← newer_cmp]
  generalize gLast L = x at K1 ⊢
  generalize gLast L' = y at K2 ⊢
  generalize L.length = n at *
  generalize L'.length = m at *
  have K3 := hid (iCompare x y w)
  have K4 := hid (iCompareN (n : Int) (m : Int) w)
  generalize cmpI x y = c1 at K3 ⊢
  generalize cmpI (n : Int) (m : Int) = c2 at K4 ⊢
  have R := RowAt.new w 3 #[.int .i64 c1, .int .i64 c2]
  have K5 := hid (iOr w.heap.size c1 c2 (w.alloc (.cells #[.int .i64 c1, .int .i64 c2] 3)) (R.cell 0) (R.cell 1))
  generalize orI c1 c2 = c3 at K5 ⊢
  have B : Hid (Below w.heap.size w (w.alloc (.cells #[.int .i64 c1, .int .i64 c2] 3))) := (Below.refl _ _).alloc (Nat.le_refl _) _
  clear R
  go_enter Try.func47, Try.ntmps47
  go_wp2_with fail
  refine K1.out.mono ?_
  rintro e w2 ⟨rfl, hw⟩
  obtain rfl := hw.symm
  clear hw
  go_wp2_with fail
  refine K2.out.mono ?_
  rintro e w2 ⟨rfl, hw⟩
  obtain rfl := hw.symm
  clear hw
  go_wp2_with fail
  refine K3.out.mono ?_
  rintro e w2 ⟨rfl, hw⟩
  obtain rfl := hw.symm
  clear hw
  go_wp2_with fail
  refine K4.out.mono ?_
  rintro e w2 ⟨rfl, hw⟩
  obtain rfl := hw.symm
  clear hw
  go_wp2_with fail
  refine K5.out.mono ?_
  rintro e w2 ⟨rfl, rfl⟩
  go_wp2
  go_ret
  exact ⟨rfl, B.out⟩
set_option maxRecDepth 20000 in
theorem iLacks (a : Option Addr) (N cap : Nat) (x : Int) (w : World) :
    Calls Try.prog 23 #[.slice a N cap, .int .i64 x] w fun e w' => e = .returned (.bool (!gIn N x)) ∧ w' = w := by
  by_cases h1 : x < 0
  · have E : Hid (gIn N x = false) := hid (by unfold gIn; simp; omega)
    have d1 : decide (x < 0) = true := decide_eq_true h1
    go_enter Try.func23, Try.ntmps23
    go_wp2
    go_ret
    exact ⟨by rw [E.out]; rfl, rfl⟩
  · have d1 : decide (x < 0) = false := decide_eq_false h1
    by_cases h2 : (N : Int) ≤ x
    · have E : Hid (gIn N x = false) := hid (by unfold gIn; simp; omega)
      have d2 : decide ((N : Int) ≤ x) = true := decide_eq_true h2
      go_enter Try.func23, Try.ntmps23
      go_wp2
      go_ret
      exact ⟨by rw [E.out]; rfl, rfl⟩
    · have E : Hid (gIn N x = true) := hid (by unfold gIn; simp; omega)
      have d2 : decide ((N : Int) ≤ x) = false := decide_eq_false h2
      go_enter Try.func23, Try.ntmps23
      go_wp2
      go_ret
      exact ⟨by rw [E.out]; rfl, rfl⟩
set_option maxRecDepth 20000 in
theorem iMajor (a : Option Addr) (N cap : Nat) (v : Nat) (hv : v ≤ 1048577) (w : World) :
    Calls Try.prog 37 #[.slice a N cap, .int .i64 (v : Int)] w fun e w' => e = .returned (.bool (decide (N < 2 * v))) ∧ w' = w := by
  by_cases h1 : N < 2 * v
  · have d1 : (N : Int) < 2 * (v : Int) := by omega
    rw [decide_eq_true h1]
    go_enter Try.func37, Try.ntmps37
    go_wp2
    go_ret
    exact ⟨by simp, rfl⟩
  · have d1 : ¬ (N : Int) < 2 * (v : Int) := by omega
    rw [decide_eq_false h1]
    go_enter Try.func37, Try.ntmps37
    go_wp2
    go_ret
    exact ⟨by simp, rfl⟩
end Go.Proofs.Ytmhkelfmciepaaa
