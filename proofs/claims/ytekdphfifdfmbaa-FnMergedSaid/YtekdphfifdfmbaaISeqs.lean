import Derived.Test.YtekdphfifdfmbaaISorted
import Derived.Test.YtekdphfifdfmbaaISort
namespace Go.Proofs.Ytekdphfifdfmbaa
open Go.RowKit Go.Shelf
/-! The Seqs of runs, the lowest first; whether numbers rise. -/
open Classical in
noncomputable def riseB (l : List Int) : Bool := decide (rise l)
theorem riseB_t {l : List Int} (h : rise l) : riseB l = true := by unfold riseB; simp only [decide_eq_true_eq]; exact h
theorem riseB_f {l : List Int} (h : ¬ rise l) : riseB l = false := by unfold riseB; simp only [decide_eq_false_iff_not]; exact h
theorem riseB_iff (l : List Int) : riseB l = true ↔ rise l := by unfold riseB; simp only [decide_eq_true_eq]
theorem below_dN {n : Nat} {w X : World} (h : Below n w X) (k : Nat) : Below n w (X.drewN k) := ⟨h.os, h.tape, h.output, h.size, h.block⟩
set_option maxRecDepth 20000 in
set_option maxHeartbeats 1000000 in
theorem iRises (a : Option Addr) (n cap : Nat) (xs : List Int) (hn : n ≤ 1048576) (w : World) (h : Ints .i64 w a n cap xs) :
    Calls Try.prog 36 #[.slice a n cap] w fun e w' => e = .returned (.bool (riseB xs)) ∧ Below w.heap.size w w' := by
  have hx := h.1
  have HH := hid h
  clear h
  go_enter Try.func36, Try.ntmps36
  go_wp2_with fail
  go_loopw [3] (fun q wr => ∃ k : Nat, 1 ≤ k ∧ (k ≤ n ∨ k = 1) ∧ q = .int .i64 k ∧ (∀ i, 0 < i → i < k → i < n → xs.getD (i - 1) 0 < xs.getD i 0) ∧ Below w.heap.size w wr) (fun q _ => n - (intOf q).toNat)
  case atStart => exact ⟨1, Nat.le_refl _, .inr rfl, rfl, fun i h1 h2 => absurd h2 (by omega), Below.refl _ _⟩
  case round =>
    obtain ⟨k, hk1, hkn, rfl, hall, hB⟩ := hrel
    have HB := hid hB
    have HA := hid hall
    clear hB hall
    by_cases hlt : k < n
    · have hlt' : (k : Int) < (n : Int) := by omega
      have k0 : (0 : Int) ≤ (k : Int) := by omega
      rcases (HH.out.below HB.out).2.2 with q0 | ⟨b, off, rfl, hbl, hc⟩
      · omega
      obtain ⟨m, hm⟩ : ∃ m : Nat, m = k - 1 := ⟨_, rfl⟩
      have c0 := hc k hlt
      have c1 := hc m (by omega)
      have m2 : (k : Int) - 1 = (m : Int) := by omega
      have m3 : (0 : Int) ≤ (m : Int) := by omega
      have m4 : (m : Int) < (n : Int) := by omega
      have m5 : IntKind.i64.wrap ((k : Int) - 1) = (m : Int) := by rw [m2]; simp [IntKind.wrap, IntKind.bits, IntKind.signed]; omega
      have HM := hid hm
      obtain ⟨X, hX⟩ : ∃ X, X = xs.getD k 0 := ⟨_, rfl⟩
      obtain ⟨Y, hY⟩ : ∃ X, X = xs.getD m 0 := ⟨_, rfl⟩
      rw [← hX] at c0
      rw [← hY] at c1
      have HX := hid hX
      have HY := hid hY
      clear hc hX hY hm m2
      by_cases hv : X ≤ Y
      · have E : Hid (riseB xs = false) := riseB_f fun h => by
          have := h k (by omega) (by omega)
          rw [← HX.out, show k - 1 = m from HM.out.symm, ← HY.out] at this
          omega
        go_wp2
        go_quiet (fail)
        go_wp2
        go_ret
        exact ⟨by rw [E.out]; rfl, below_dN HB.out _⟩
      · have E : Hid (∀ i, 0 < i → i < k + 1 → i < n → xs.getD (i - 1) 0 < xs.getD i 0) := fun i h0 h1 h2 => by
          by_cases e : i = k
          · subst e; rw [← HX.out, show i - 1 = m from HM.out.symm, ← HY.out]; omega
          · exact HA.out i h0 (by omega) h2
        go_wp2
        go_quiet (fail)
        go_wp2
        go_roundw
        case rel => exact ⟨k + 1, by omega, by omega, by go_num, E.out, below_dN HB.out _⟩
        case measure => simp [intOf]; omega
    · have hlt' : ¬ (k : Int) < (n : Int) := by omega
      have E : Hid (riseB xs = true) := riseB_t fun i h0 hi => HA.out i h0 (by omega) (by omega)
      go_wp2
      go_ret
      exact ⟨by rw [E.out]; rfl, HB.out⟩
end Go.Proofs.Ytekdphfifdfmbaa
