import Derived.Test.YtgoplcjjoiiagaaGreatDoorK1
import Derived.Deep.RegionHeld3
namespace Go.Proofs.YtgoplcjjoiiagaaGreatDoor
open Go.RowKit
/-! Slices of texts: what the laws do with them. -/
def Strs (w : World) (a : Option Addr) (len cap : Nat) (ts : Nat → ByteArray) : Prop :=
  len ≤ cap ∧ (len = 0 ∨ ∃ b off, a = some ⟨b, off, none⟩ ∧ b < w.heap.size ∧ ∀ i, i < len → w.cell? ⟨b, off + i, none⟩ = some (.string (ts i)))
theorem Strs.below {w w' : World} {a : Option Addr} {len cap : Nat} {ts : Nat → ByteArray} (h : Strs w a len cap ts) (hb : Below w.heap.size w w') : Strs w' a len cap ts := by
  refine ⟨h.1, ?_⟩
  rcases h.2 with h0 | ⟨b, off, rfl, h1, h2⟩
  · exact Or.inl h0
  · exact Or.inr ⟨b, off, rfl, Nat.lt_of_lt_of_le h1 hb.size, fun i hi => (hb.cell (p := ⟨b, off + i, none⟩) h1).trans (h2 i hi)⟩
theorem FRow.strs {w : World} {b n : Nat} {t : TypeId} {ts : Nat → ByteArray} (h : FRow w b t n (fun i => .string (ts i))) : Strs w (some ⟨b, 0, none⟩) n n ts :=
  ⟨Nat.le_refl _, Or.inr ⟨b, 0, rfl, h.lt, fun i hi => by rw [Nat.zero_add]; exact h.cell hi⟩⟩
/-- a slice of texts as the row gives it -/
def IsStrs (w : World) (a : Option Addr) (len cap : Nat) (ts : Nat → ByteArray) : Prop :=
  (a = none ∧ len = 0 ∧ cap = 0) ∨ ∃ x : Addr, a = some x ∧ len ≤ cap ∧ cap ≤ maxLen ∧ ∀ i, i < len → w.cell? (x.add i) = some (.string (ts i)) ∧ (ts i).size ≤ maxLen
theorem IsStrs.len {w : World} {a : Option Addr} {len cap : Nat} {ts : Nat → ByteArray} (h : IsStrs w a len cap ts) : len ≤ 9223372036854775807 ∧ ∀ i, i < len → (ts i).size ≤ 9223372036854775807 := by
  rcases h with ⟨_, rfl, _⟩ | ⟨x, _, h1, h2, h3⟩
  · exact ⟨by omega, fun i hi => absurd hi (Nat.not_lt_zero _)⟩
  · unfold maxLen at h2 h3; exact ⟨by omega, fun i hi => by have := (h3 i hi).2; omega⟩
end Go.Proofs.YtgoplcjjoiiagaaGreatDoor
