import Derived.Test.YtjeahllaajpddaaLawMx
import Derived.Test.YtjeahllaajpddaaSMul2
import Derived.Test.YtjeahllaajpddaaTurnKit
namespace Go.Proofs.Ytjeahllaajpddaa
open Go.RowKit
/-! Answers with a matrix: what the laws ask of them. -/
theorem Wr.turned {k : IntKind} {w w' : World} {b off lo hi : Nat} {xs : List Int} (h : Wr k w b off xs) (hg : Turned lo hi w w') (hn : b < lo ∨ hi ≤ b) : Wr k w' b off xs := by
  obtain ⟨cs, t, r, h1, h2⟩ := h; exact ⟨cs, t, r.turned hg hn, h1, h2⟩
/-- An answer's own numbers, in a block from lo up to hi. -/
def Own (w : World) (lo hi : Nat) (a : Option Addr) (len cap : Nat) (xs : List Int) : Prop :=
  xs.length = len ∧ len ≤ cap ∧ (len = 0 ∨ ∃ b off, a = some ⟨b, off, none⟩ ∧ lo ≤ b ∧ b < hi ∧ Wr .i64 w b off xs)
theorem Own.ow {w : World} {lo hi : Nat} {a : Option Addr} {len cap : Nat} {xs : List Int} (h : Own w lo hi a len cap xs) : Ow w lo a len cap xs := by
  refine ⟨h.1, h.2.1, ?_⟩
  rcases h.2.2 with h0 | ⟨b, off, rfl, h1, h2, hw⟩
  · exact Or.inl h0
  · exact Or.inr ⟨b, off, rfl, h1, hw⟩
theorem Own.ints {w : World} {lo hi : Nat} {a : Option Addr} {len cap : Nat} {xs : List Int} (h : Own w lo hi a len cap xs) : Ints .i64 w a len cap xs := h.ow.ints
theorem Own.of {w : World} {base : Nat} {a : Option Addr} {len cap : Nat} {xs : List Int} (h : Ow w base a len cap xs) : Own w base w.heap.size a len cap xs := by
  refine ⟨h.1, h.2.1, ?_⟩
  rcases h.2.2 with h0 | ⟨b, off, rfl, h1, hw⟩
  · exact Or.inl h0
  · exact Or.inr ⟨b, off, rfl, h1, hw.lt, hw⟩
theorem Own.below {w w' : World} {lo hi n : Nat} {a : Option Addr} {len cap : Nat} {xs : List Int} (h : Own w lo hi a len cap xs) (hb : Below n w w') (hn : hi ≤ n) : Own w' lo hi a len cap xs := by
  refine ⟨h.1, h.2.1, ?_⟩
  rcases h.2.2 with h0 | ⟨b, off, rfl, h1, h2, hw⟩
  · exact Or.inl h0
  · exact Or.inr ⟨b, off, rfl, h1, h2, hw.below hb (by omega)⟩
theorem Own.alloc {w : World} {lo hi : Nat} {a : Option Addr} {len cap : Nat} {xs : List Int} (h : Own w lo hi a len cap xs) (o : Obj) : Own (w.alloc o) lo hi a len cap xs := by
  refine ⟨h.1, h.2.1, ?_⟩
  rcases h.2.2 with h0 | ⟨b, off, rfl, h1, h2, hw⟩
  · exact Or.inl h0
  · exact Or.inr ⟨b, off, rfl, h1, h2, hw.alloc o⟩
theorem Own.drew {w : World} {lo hi : Nat} {a : Option Addr} {len cap : Nat} {xs : List Int} (h : Own w lo hi a len cap xs) : Own w.drew lo hi a len cap xs := h
theorem Own.setRow {w : World} {lo hi : Nat} {a : Option Addr} {len cap : Nat} {xs : List Int} (h : Own w lo hi a len cap xs) (g : Nat) (c : Array Value) (hg : g < lo ∨ hi ≤ g) : Own (w.setRow g c) lo hi a len cap xs := by
  refine ⟨h.1, h.2.1, ?_⟩
  rcases h.2.2 with h0 | ⟨b, off, rfl, h1, h2, hw⟩
  · exact Or.inl h0
  · exact Or.inr ⟨b, off, rfl, h1, h2, wr_setRow hw c (by omega)⟩
theorem Own.turned {w w' : World} {lo hi l2 h2 : Nat} {a : Option Addr} {len cap : Nat} {xs : List Int} (h : Own w lo hi a len cap xs) (hg : Turned l2 h2 w w') (hn : hi ≤ l2 ∨ h2 ≤ lo) : Own w' lo hi a len cap xs := by
  refine ⟨h.1, h.2.1, ?_⟩
  rcases h.2.2 with h0 | ⟨b, off, rfl, q1, q2, hw⟩
  · exact Or.inl h0
  · exact Or.inr ⟨b, off, rfl, q1, q2, hw.turned hg (by omega)⟩
abbrev mrv (k r c : Int) (a : Option Addr) (len cap : Nat) : Value := .agg #[.int .i64 k, .int .i64 r, .int .i64 c, .slice a len cap]
/-- an answer in new memory -/
def Ans (k r c : Int) (xs : List Int) (w : World) (e : Ending) (w' : World) : Prop := ∃ a len cap, e = .returned (mrv k r c a len cap) ∧ Ow w' w.heap.size a len cap xs ∧ Below w.heap.size w w'
theorem Ans.no {k : Int} {w w' : World} {e : Ending} (h : e = .returned (mrNone k)) (hb : Below w.heap.size w w') : Ans k 0 0 [] w e w' := ⟨none, 0, 0, h, ⟨rfl, Nat.le_refl _, Or.inl rfl⟩, hb⟩
theorem Ans.yes {k r c : Int} {g n : Nat} {xs : List Int} {w w' : World} {e : Ending} (h : e = .returned (mrv k r c (some ⟨g, 0, none⟩) n n)) (hg : w.heap.size ≤ g) (hw : Wr .i64 w' g 0 xs) (hl : xs.length = n) (hb : Below w.heap.size w w') : Ans k r c xs w e w' := by
  subst hl; exact ⟨_, _, _, h, hw.ow (Nat.le_refl _) hg, hb⟩
end Go.Proofs.Ytjeahllaajpddaa
