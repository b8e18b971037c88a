import Derived.Test.YteeadhcfippilaaDoorSum
namespace Go.Proofs.YteeadhcfippilaaDoor
open Go.RowKit
/-! Two sums that part once part for ever. -/
theorem step_inj (s s' : Int) (c : UInt8) (h : sumStep s c = sumStep s' c) : (s - s') % 2147483647 = 0 := by
  unfold sumStep at h
  obtain ⟨k, hk⟩ : ∃ k, (s - s') * 65539 = 2147483647 * k := ⟨(s - s') * 65539 / 2147483647, by omega⟩
  have e : s - s' = 2147483647 * (k * 1840690907 - 56176 * (s - s')) := by omega
  rw [e]; exact Int.mul_emod_right _ _
theorem step_rng (s : Int) (c : UInt8) : 0 ≤ sumStep s c ∧ sumStep s c < 2147483647 := by unfold sumStep; omega
theorem sumL_parts : ∀ (l : List UInt8) (s s' : Int), 0 ≤ s → s < 2147483647 → 0 ≤ s' → s' < 2147483647 → s ≠ s' → sumL s l ≠ sumL s' l
  | [], _, _, _, _, _, _, h => h
  | c :: l, s, s', h1, h2, h3, h4, h => by
    refine sumL_parts l (sumStep s c) (sumStep s' c) (step_rng s c).1 (step_rng s c).2 (step_rng s' c).1 (step_rng s' c).2 ?_
    intro he
    have := step_inj s s' c he
    omega
theorem sumL_app (s : Int) (l l' : List UInt8) : sumL s (l ++ l') = sumL (sumL s l) l' := by simp [sumL]
/-- A text with one byte turned has another sum. -/
theorem sum_turned (s : Int) (l r : List UInt8) (c d : UInt8) (h : c ≠ d) : sumL s (l ++ c :: r) ≠ sumL s (l ++ d :: r) := by
  rw [sumL_app, sumL_app]
  refine sumL_parts r (sumStep (sumL s l) c) (sumStep (sumL s l) d) (step_rng _ c).1 (step_rng _ c).2 (step_rng _ d).1 (step_rng _ d).2 ?_
  intro he
  have hc := c.toNat_lt
  have hd := d.toNat_lt
  have hne : c.toNat ≠ d.toNat := fun h2 => h (UInt8.toNat_inj.1 h2)
  unfold sumStep at he
  omega
end Go.Proofs.YteeadhcfippilaaDoor
