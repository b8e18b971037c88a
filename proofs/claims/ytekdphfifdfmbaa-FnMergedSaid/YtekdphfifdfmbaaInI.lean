import Derived.Test.YtekdphfifdfmbaaG1
namespace Go.Proofs.Ytekdphfifdfmbaa
open Go.RowKit
/-! spec.l01InInts (cut out of MvK). -/
set_option maxRecDepth 20000 in
theorem sInI8 (a : Option Addr) (n cap : Nat) (xs : List Int) (v : Int) (hl : n ≤ 1048576) (w : World) (h : Ints .i64 w a n cap xs) :
    Calls Try.prog 54 #[.slice a n cap, .int .i64 v] w fun e w' => e = .returned (.bool (decide (v ∈ xs))) ∧ w' = w := by
  have hx := h.1
  have HH := hid h.2.2
  clear h
  go_enter Try.func54, Try.ntmps54
  go_wp2_with fail
  go_loopw [5] (fun r wr => ∃ k : Nat, k ≤ n ∧ r = .int .i64 (k : Int) ∧ (∀ i, i < k → xs.getD i 0 ≠ v) ∧ wr = w) (fun r _ => n - (intOf r).toNat)
  case atStart => exact ⟨0, Nat.zero_le _, rfl, fun i hi => absurd hi (by omega), rfl⟩
  case round =>
    obtain ⟨k, hk, rfl, hno, rfl⟩ := hrel
    have HN := hid hno
    clear hno
    by_cases hlt : k < n
    · have hlt' : (k : Int) < (n : Int) := by omega
      have k0 : (0 : Int) ≤ (k : Int) := by omega
      rcases HH.out with q0 | ⟨b, off, rfl, hbl, hc⟩
      · omega
      have c0 := hc k hlt
      clear hc
      obtain ⟨t, ht⟩ : ∃ t, t = xs.getD k 0 := ⟨_, rfl⟩
      rw [← ht] at c0
      have HT := hid ht
      clear ht
      by_cases e : t = v
      · have d : (t == v) = true := by simp [e]
        have E : Hid (decide (v ∈ xs) = true) := by
          show _ = _
          rw [← e, HT.out]; simp [show k < xs.length by omega]
        go_wp2
        go_ret
        exact ⟨by rw [E.out]; rfl, rfl⟩
      · have d : (t == v) = false := by simp [e]
        have N1 : Hid (∀ i, i < k + 1 → xs.getD i 0 ≠ v) := fun i hi => by
          by_cases q : i = k
          · rw [q, ← HT.out]; exact e
          · exact HN.out i (by omega)
        go_wp2
        go_roundw
        case rel => exact ⟨k + 1, hlt, by go_num, N1.out, trivial⟩
        case measure => simp [intOf]; omega
    · have hlt' : ¬ (k : Int) < (n : Int) := by omega
      have E : Hid (decide (v ∈ xs) = false) := by
        show _ = _
        simp only [decide_eq_false_iff_not]
        intro q
        obtain ⟨i, hi, e⟩ := List.getElem_of_mem q
        exact HN.out i (by omega) (by simp [hi, e])
      go_wp2
      go_ret
      exact ⟨by rw [E.out]; rfl, rfl⟩
end Go.Proofs.Ytekdphfifdfmbaa
