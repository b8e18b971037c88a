import Derived.Test.YtmhkelfmciepaaaGrI6
namespace Go.Proofs.Ytmhkelfmciepaaa
open Go.RowKit
set_option linter.unusedVariables false
/-! The program's look at peers: slices.ContainsFunc with the method value group.lacks. -/
set_option maxRecDepth 20000 in
set_option maxHeartbeats 1000000 in
theorem iIdxL (a : Option Addr) (n cap : Nat) (pe : List Int) (hn : n ≤ 1048576) (gb N : Nat) (w : World) (h : Ints .i64 w a n cap pe) :
    Calls Try.prog 42 #[.slice a n cap, .func (.func 23) #[.slice (some ⟨gb, 0, none⟩) N N] #[]] w fun e w' => (∃ z : Int, e = .returned (.int .i64 z) ∧ (0 ≤ z ↔ pe.all (gIn N) = false)) ∧ w' = w := by
  have HL := hid h.1
  have HH := hid h.2.2
  clear h
  obtain ⟨PA, hPA⟩ : ∃ b, b = pe.all (gIn N) := ⟨_, rfl⟩
  rw [← hPA]
  have HPA := hid hPA
  clear hPA
  go_enter Try.func42, Try.ntmps42
  go_wp2_with fail
  go_loopw [5, 8] (fun y5 q wr => ∃ k : Nat, k ≤ n ∧ q = .int .i64 (k : Int) ∧ (∀ i, i < k → 0 ≤ pe.getD i 0 ∧ pe.getD i 0 < N) ∧ wr = w) (fun _ q _ => n - (intOf q).toNat)
  case atStart => exact ⟨0, Nat.zero_le _, rfl, fun i hi => absurd hi (by omega), rfl⟩
  case round =>
    obtain ⟨k, hk, rfl, hno, hw⟩ := hrel
    obtain rfl := hw.symm
    have NO := hid hno
    clear hno hw
    by_cases hlt : k < n
    · have d1 : (k : Int) < (n : Int) := by omega
      have k0 : (0 : Int) ≤ (k : Int) := by omega
      rcases HH.out with q0 | ⟨b9, off, hA, hbl, hc⟩
      · omega
      subst hA
      have y0 := hc k hlt
      obtain ⟨x, hx⟩ : ∃ x, x = pe.getD k 0 := ⟨_, rfl⟩
      rw [← hx] at y0
      have HX := hid hx
      have KK := hid (iLacks (some ⟨gb, 0, none⟩) N N x w)
      obtain ⟨T, hT⟩ : ∃ T, T = gIn N x := ⟨_, rfl⟩
      rw [← hT] at KK
      have HT := hid hT
      clear hc hx hT
      go_wp2_with fail
      refine KK.out.mono ?_
      rintro e w2 ⟨rfl, hw⟩
      obtain rfl := hw.symm
      clear hw KK y0
      cases T with
      | false =>
        have Y : Hid (PA = false) := hid (by
          rw [HPA.out]
          refine gIn_not (i := k) (by rw [HL.out]; exact hlt) ?_
          rw [← HX.out]
          intro q
          have := HT.out
          unfold gIn at this
          simp at this
          omega)
        go_wp2
        go_ret
        exact ⟨⟨_, rfl, by rw [Y.out]; exact ⟨fun _ => rfl, fun _ => by omega⟩⟩, rfl⟩
      | true =>
        have Y : Hid (∀ i, i < k + 1 → 0 ≤ pe.getD i 0 ∧ pe.getD i 0 < N) := fun i hi => by
          rcases Nat.lt_or_ge i k with h1 | h1
          · exact NO.out i h1
          · rw [show i = k by omega, ← HX.out]
            have := HT.out
            unfold gIn at this
            simp at this
            omega
        go_wp2
        go_roundw
        case rel => exact ⟨k + 1, by omega, by go_num, Y.out, trivial⟩
        case measure => simp [intOf]; omega
    · have d1 : ¬ (k : Int) < (n : Int) := by omega
      have Y : Hid (PA = true) := hid (by rw [HPA.out]; exact gIn_all fun i hi => NO.out i (by rw [HL.out] at hi; omega))
      go_wp2
      go_ret
      exact ⟨⟨_, rfl, by rw [Y.out]; exact ⟨fun h => absurd h (by decide), fun h => Bool.noConfusion h⟩⟩, rfl⟩
set_option maxRecDepth 20000 in
theorem iContL (a : Option Addr) (n cap : Nat) (pe : List Int) (hn : n ≤ 1048576) (gb N : Nat) (w : World) (h : Ints .i64 w a n cap pe) :
    Calls Try.prog 34 #[.slice a n cap, .func (.func 23) #[.slice (some ⟨gb, 0, none⟩) N N] #[]] w fun e w' => e = .returned (.bool (!pe.all (gIn N))) ∧ w' = w := by
  have K := hid (iIdxL a n cap pe hn gb N w h)
  clear h
  generalize pe.all (gIn N) = PA at K ⊢
  go_enter Try.func34, Try.ntmps34
  go_wp2_with fail
  refine K.out.mono ?_
  rintro e w2 ⟨⟨z, rfl, hz⟩, hw⟩
  obtain rfl := hw.symm
  have HZ := hid hz
  clear hz hw K
  cases PA with
  | false =>
    have z0 : 0 ≤ z := HZ.out.2 rfl
    go_wp2
    go_ret
    exact ⟨by simp, rfl⟩
  | true =>
    have z0 : ¬ 0 ≤ z := fun q => Bool.noConfusion (HZ.out.1 q)
    have ZN := hid z0
    go_wp2
    go_ret
    exact ⟨by simp; exact ZN.out, rfl⟩
end Go.Proofs.Ytmhkelfmciepaaa
