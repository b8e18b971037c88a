import Derived.Test.YtmhkelfmciepaaaK1
namespace Go.Proofs.Ytmhkelfmciepaaa
open Go.RowKit
/-! The laws' own ways with slices of int64: their bulk, a copy, a comparison, marks. -/
theorem below_drewN' {n : Nat} {w w' : World} (h : Below n w w') (m : Nat) : Below n w (w'.drewN m) := ⟨h.os, h.tape, h.output, h.size, h.block⟩
/-- the marks from k on -/
def marks (k n : Nat) : List Int := (List.range' k n).map (fun i : Nat => (i : Int))
theorem marks_len (k n : Nat) : (marks k n).length = n := by simp [marks]
theorem marks_at {k n i : Nat} (h : i < n) : (marks k n).getD i 0 = ((k + i : Nat) : Int) := by
  rw [List.getD_eq_getElem?_getD]
  simp [marks, h]
/-- An answer's own numbers: none, or in a block from base on. -/
def Ow (w : World) (base : Nat) (a : Option Addr) (len cap : Nat) (xs : List Int) : Prop :=
  xs.length = len ∧ len ≤ cap ∧ (len = 0 ∨ ∃ b off, a = some ⟨b, off, none⟩ ∧ base ≤ b ∧ Wr .i64 w b off xs)
theorem Ow.ints {w : World} {base : Nat} {a : Option Addr} {len cap : Nat} {xs : List Int} (h : Ow w base a len cap xs) : Ints .i64 w a len cap xs := by
  refine ⟨h.1, h.2.1, ?_⟩
  rcases h.2.2 with h0 | ⟨b, off, rfl, _, hw⟩
  · exact Or.inl h0
  · exact Or.inr ⟨b, off, rfl, hw.lt, fun i hi => hw.cell (by rw [h.1]; exact hi)⟩
theorem Ow.below {w w' : World} {base n : Nat} {a : Option Addr} {len cap : Nat} {xs : List Int} (h : Ow w base a len cap xs) (hb : Below n w w') (hn : w.heap.size ≤ n) : Ow w' base a len cap xs := by
  refine ⟨h.1, h.2.1, ?_⟩
  rcases h.2.2 with h0 | ⟨b, off, rfl, h1, hw⟩
  · exact Or.inl h0
  · exact Or.inr ⟨b, off, rfl, h1, hw.below hb (Nat.lt_of_lt_of_le hw.lt hn)⟩
theorem Ow.alloc {w : World} {base : Nat} {a : Option Addr} {len cap : Nat} {xs : List Int} (h : Ow w base a len cap xs) (o : Obj) : Ow (w.alloc o) base a len cap xs :=
  h.below ((Below.refl _ _).alloc (Nat.le_refl _) o) (Nat.le_refl _)
theorem Ow.mono {w : World} {base base' : Nat} {a : Option Addr} {len cap : Nat} {xs : List Int} (h : Ow w base a len cap xs) (hb : base' ≤ base) : Ow w base' a len cap xs := by
  refine ⟨h.1, h.2.1, ?_⟩
  rcases h.2.2 with h0 | ⟨b, off, rfl, h1, hw⟩
  · exact Or.inl h0
  · exact Or.inr ⟨b, off, rfl, Nat.le_trans hb h1, hw⟩
theorem Wr.ow {w : World} {b off base : Nat} {xs : List Int} (h : Wr .i64 w b off xs) {cap : Nat} (hc : xs.length ≤ cap) (hb : base ≤ b) : Ow w base (some ⟨b, off, none⟩) xs.length cap xs :=
  ⟨rfl, hc, Or.inr ⟨b, off, rfl, hb, h⟩⟩
end Go.Proofs.Ytmhkelfmciepaaa
