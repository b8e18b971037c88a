import Derived.Test.YtmhkelfmciepaaaProg
import Derived.Test.YtmhkelfmciepaaaBase
import Derived.Test.YtmhkelfmciepaaaK1
import Derived.Deep.RegionHeld3
namespace Go.Proofs.Ytmhkelfmciepaaa
open Go.RowKit
/-! cmp.Compare, cmp.Or and the order of bids. -/
def cmpI (x y : Int) : Int := if x < y then -1 else if y < x then 1 else 0
def orI (x y : Int) : Int := if x ≠ 0 then x else y
set_option maxRecDepth 20000 in
theorem iCompare (x y : Int) (w : World) :
    Calls Try.prog 49 #[.int .i64 x, .int .i64 y] w fun e w' => e = .returned (.int .i64 (cmpI x y)) ∧ w' = w := by
  have N : ∀ (x : Int) (w : World), Calls Try.prog 52 #[.int .i64 x] w fun e w' => e = .returned (.bool false) ∧ w' = w := fun x w => by
    have dm : (x != x) = false := by simp
    go_enter Try.func52, Try.ntmps52
    go_wp2
    go_ret
    exact ⟨rfl, rfl⟩
  have NH := fun x w => hid (N x w)
  clear N
  by_cases h1 : x < y
  · have E : Hid (cmpI x y = -1) := if_pos h1
    have d1 : decide (x < y) = true := by simp; omega
    go_enter Try.func49, Try.ntmps49
    go_wp2_with fail
    refine (NH _ _).out.mono ?_
    rintro e w1 ⟨rfl, rfl⟩
    go_wp2_with fail
    refine (NH _ _).out.mono ?_
    rintro e w2 ⟨rfl, rfl⟩
    go_wp2
    go_ret
    exact ⟨by rw [E.out]; rfl, rfl⟩
  have d1 : decide (x < y) = false := by simp; omega
  by_cases h2 : y < x
  · have E : Hid (cmpI x y = 1) := by show _ = _; unfold cmpI; rw [if_neg h1, if_pos h2]
    have d2 : decide (y < x) = true := by simp; omega
    go_enter Try.func49, Try.ntmps49
    go_wp2_with fail
    refine (NH _ _).out.mono ?_
    rintro e w1 ⟨rfl, rfl⟩
    go_wp2_with fail
    refine (NH _ _).out.mono ?_
    rintro e w2 ⟨rfl, rfl⟩
    go_wp2
    go_ret
    exact ⟨by rw [E.out]; rfl, rfl⟩
  · have d2 : decide (y < x) = false := by simp; omega
    have E : Hid (cmpI x y = 0) := by show _ = _; unfold cmpI; rw [if_neg h1, if_neg h2]
    go_enter Try.func49, Try.ntmps49
    go_wp2_with fail
    refine (NH _ _).out.mono ?_
    rintro e w1 ⟨rfl, rfl⟩
    go_wp2_with fail
    refine (NH _ _).out.mono ?_
    rintro e w2 ⟨rfl, rfl⟩
    go_wp2
    go_ret
    exact ⟨by rw [E.out]; rfl, rfl⟩
set_option maxRecDepth 20000 in
theorem iOr (b : Nat) (x y : Int) (w : World) (c0 : w.cell? ⟨b, 0, none⟩ = some (.int .i64 x)) (c1 : w.cell? ⟨b, 1, none⟩ = some (.int .i64 y)) :
    Calls Try.prog 48 #[.slice (some ⟨b, 0, none⟩) 2 2] w fun e w' => e = .returned (.int .i64 (orI x y)) ∧ w' = w := by
  have C0 := hid c0
  have C1 := hid c1
  clear c0 c1
  go_enter Try.func48, Try.ntmps48
  go_wp2_with fail
  go_loopw [8] (fun q wr => ∃ k : Nat, k ≤ 2 ∧ q = .int .i64 k ∧ (0 < k → x = 0) ∧ (1 < k → y = 0) ∧ wr = w) (fun q _ => 2 - (intOf q).toNat)
  case atStart => exact ⟨0, by omega, rfl, by omega, by omega, rfl⟩
  case round =>
    obtain ⟨k, hk, rfl, h1, h2, rfl⟩ := hrel
    have HH := hid h1
    have H2 := hid h2
    clear h1 h2
    rcases (show k = 0 ∨ k = 1 ∨ k = 2 by omega) with rfl | rfl | rfl
    · have c0 := C0.out
      by_cases e : x = 0
      · have d : (x != 0) = false := by simp [e]
        go_wp2
        go_roundw
        case rel => exact ⟨1, by omega, rfl, fun _ => e, fun h => absurd h (by omega), trivial⟩
        case measure => simp [intOf]
      · have d : (x != 0) = true := by simp [e]
        have E : Hid (orI x y = x) := if_pos e
        go_wp2
        go_ret
        exact ⟨by rw [E.out]; rfl, rfl⟩
    · have c1 := C1.out
      by_cases e : y = 0
      · have d : (y != 0) = false := by simp [e]
        go_wp2
        go_roundw
        case rel => exact ⟨2, by omega, rfl, fun _ => HH.out (by omega), fun _ => e, trivial⟩
        case measure => simp [intOf]
      · have d : (y != 0) = true := by simp [e]
        have E : Hid (orI x y = y) := if_neg (by have := HH.out (by omega); omega)
        go_wp2
        go_ret
        exact ⟨by rw [E.out]; rfl, rfl⟩
    · have E : Hid (orI x y = 0) := by
        show _ = _; unfold orI; rw [if_neg (by have := HH.out (by omega); omega)]; exact H2.out (by omega)
      go_wp2
      go_ret
      exact ⟨by rw [E.out]; rfl, rfl⟩
/-- a bid's cells -/
def bidL (d m s : Int) : List Value := [.int .i64 d, .int .i64 m, .int .i64 s]
end Go.Proofs.Ytmhkelfmciepaaa
