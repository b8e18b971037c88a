import Derived.Test.YtokjfffcciddhaaGreatDoorBase
import Derived.Test.YtokjfffcciddhaaGreatDoorQA
namespace Go.Proofs.YtokjfffcciddhaaGreatDoor
open Go.RowKit
/-! Slices of pairs of numbers: nodes. -/
/-- a slice of pairs as the row gives it -/
def IsPairs (w : World) (a : Option Addr) (len cap : Nat) (x y : Nat → Int) : Prop :=
  (a = none ∧ len = 0 ∧ cap = 0) ∨ ∃ p : Addr, a = some p ∧ len ≤ cap ∧ cap ≤ maxLen ∧ ∀ i, i < len → w.cell? (p.add (i * 2)) = some (.int .i64 (x i)) ∧ w.cell? (p.add (i * 2 + 1)) = some (.int .i64 (y i)) ∧ (Lit.int .i64 (x i)).wf = true ∧ (Lit.int .i64 (y i)).wf = true
/-- a slice of pairs that is read -/
def Prs (w : World) (a : Option Addr) (len cap : Nat) (x y : Nat → Int) : Prop :=
  len ≤ cap ∧ (len = 0 ∨ ∃ b off, a = some ⟨b, off, none⟩ ∧ b < w.heap.size ∧ ∀ i, i < len → w.cell? ⟨b, off + i * 2, none⟩ = some (.int .i64 (x i)) ∧ w.cell? ⟨b, off + i * 2 + 1, none⟩ = some (.int .i64 (y i)))
theorem Prs.below {w w' : World} {a : Option Addr} {len cap : Nat} {x y : Nat → Int} (h : Prs w a len cap x y) (hb : Below w.heap.size w w') : Prs w' a len cap x y := by
  refine ⟨h.1, ?_⟩
  rcases h.2 with h0 | ⟨b, off, rfl, h1, h2⟩
  · exact Or.inl h0
  · exact Or.inr ⟨b, off, rfl, Nat.lt_of_lt_of_le h1 hb.size, fun i hi => ⟨(hb.cell (p := ⟨b, off + i * 2, none⟩) h1).trans (h2 i hi).1, (hb.cell (p := ⟨b, off + i * 2 + 1, none⟩) h1).trans (h2 i hi).2⟩⟩
theorem IsPairs.len {w : World} {a : Option Addr} {len cap : Nat} {x y : Nat → Int} (h : IsPairs w a len cap x y) : len ≤ 9223372036854775807 := by
  rcases h with ⟨_, rfl, _⟩ | ⟨p, _, h1, h2, h3⟩
  · omega
  · unfold maxLen at h2; omega
theorem Prs.of_is {w : World} {a : Option Addr} {len cap : Nat} {x y : Nat → Int} (h : IsPairs w a len cap x y) : Prs w a len cap x y := by
  rcases h with ⟨rfl, rfl, rfl⟩ | ⟨p, rfl, h1, h2, hcell⟩
  · exact ⟨Nat.le_refl _, Or.inl rfl⟩
  · refine ⟨h1, ?_⟩
    by_cases h0 : len = 0
    · exact Or.inl h0
    · right
      obtain ⟨b, off, spot⟩ := p
      have hc := (hcell 0 (by omega)).1
      have hspot : spot = none := by simpa [Addr.add] using World.cell?_spot hc
      subst hspot
      have hadd : ∀ i, (⟨b, off, none⟩ : Addr).add i = ⟨b, off + i, none⟩ := by intro i; unfold Addr.add; split <;> simp_all
      refine ⟨b, off, rfl, ?_, fun i hi => ?_⟩
      · have := World.block_lt_of_cell? w _ hc; rw [hadd] at this; exact this
      · obtain ⟨q1, q2, _⟩ := hcell i hi
        rw [hadd] at q1 q2
        exact ⟨q1, by rw [Nat.add_assoc]; exact q2⟩
/-- the cells of a row of pairs -/
def prF (x y : Nat → Int) (p : Nat) : Value := .int .i64 (if p % 2 = 0 then x (p / 2) else y (p / 2))
theorem prF0 (x y : Nat → Int) (i : Nat) : prF x y (i * 2) = .int .i64 (x i) := by unfold prF; rw [if_pos (by omega), show i * 2 / 2 = i by omega]
theorem prF1 (x y : Nat → Int) (i : Nat) : prF x y (i * 2 + 1) = .int .i64 (y i) := by unfold prF; rw [if_neg (by omega), show (i * 2 + 1) / 2 = i by omega]
theorem FRow.prs {w : World} {b n : Nat} {t : TypeId} {x y : Nat → Int} (h : FRow w b t (n * 2) (prF x y)) : Prs w (some ⟨b, 0, none⟩) n n x y :=
  ⟨Nat.le_refl _, Or.inr ⟨b, 0, rfl, h.lt, fun i hi => ⟨by rw [Nat.zero_add, h.cell (by omega), prF0], by rw [Nat.zero_add, h.cell (by omega), prF1]⟩⟩⟩
end Go.Proofs.YtokjfffcciddhaaGreatDoor
