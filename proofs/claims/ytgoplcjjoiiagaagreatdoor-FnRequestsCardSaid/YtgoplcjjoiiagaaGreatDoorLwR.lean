import Derived.Test.YtgoplcjjoiiagaaGreatDoorK1
import Derived.Test.YtgoplcjjoiiagaaGreatDoorS3
import Derived.Deep.CutRange
import Derived.Test.YtgoplcjjoiiagaaGreatDoorL1
namespace Go.Proofs.YtgoplcjjoiiagaaGreatDoor
open Go.RowKit
/-! Slices of pairs: how the laws mark them. -/
def mkQ (k0 p : Nat) : Value := .string (markB (k0 + p))
/-- pairs that hold their marks -/
def Mkd (w : World) (a : Option Addr) (n k0 : Nat) : Prop := n = 0 ∨ ∃ b, a = some ⟨b, 0, none⟩ ∧ b < w.heap.size ∧ ∀ p, p < 2 * n → w.cell? ⟨b, p, none⟩ = some (mkQ k0 p)
theorem Mkd.below {w w' : World} {a : Option Addr} {n k0 : Nat} (h : Mkd w a n k0) (hb : Below w.heap.size w w') : Mkd w' a n k0 := by
  rcases h with h0 | ⟨b, rfl, h1, h2⟩
  · exact .inl h0
  · exact .inr ⟨b, rfl, Nat.lt_of_lt_of_le h1 hb.size, fun p hp => (hb.cell (p := ⟨b, p, none⟩) h1).trans (h2 p hp)⟩
end Go.Proofs.YtgoplcjjoiiagaaGreatDoor
namespace Go.Proofs.YtgoplcjjoiiagaaGreatDoor
open Go.RowKit
/-! What the laws do with a request that was read. -/
section
variable (c l : Int) (m p : ByteArray) (a1 : Option Addr) (n1 c1 : Nat) (a2 : Option Addr) (n2 c2 : Nat) (b : ByteArray) (N : Int) (w : World)
/-- one slice of pairs after the other is marked -/
def Mk2 (w' : World) (a1 : Option Addr) (n1 : Nat) (a2 : Option Addr) (n2 k0 : Nat) : Prop := Mkd w' a1 n1 k0 ∧ Mkd w' a2 n2 (k0 + 2 * n1)
theorem Mk2.below {w1 w' : World} {a1 : Option Addr} {n1 : Nat} {a2 : Option Addr} {n2 k0 : Nat} (h : Mk2 w1 a1 n1 a2 n2 k0) (hb : Below w1.heap.size w1 w') : Mk2 w' a1 n1 a2 n2 k0 := ⟨h.1.below hb, h.2.below hb⟩
/-- what a marking leaves as it was -/
structure Fr2 (w w' : World) (v1 v2 : Value) : Prop where
  os : w'.os = w.os
  tape : w'.tape = w.tape
  output : w'.output = w.output
  size : w.heap.size ≤ w'.heap.size
  block : ∀ j, j < w.heap.size → v1.ownBlock ≠ some j → v2.ownBlock ≠ some j → w'.heap[j]? = w.heap[j]?
theorem Mkd.far {w w' : World} {a : Option Addr} {n k0 cap : Nat} {r : Option Nat} (h : Mkd w a n k0) (hg : w.grownBy w' r) (hd : ∀ g, (Value.slice a n cap).ownBlock = some g → r ≠ some g) : Mkd w' a n k0 := by
  rcases h with h0 | ⟨b, rfl, h1, h2⟩
  · exact .inl h0
  · refine .inr ⟨b, rfl, Nat.lt_of_lt_of_le h1 hg.size, fun p hp => ?_⟩
    have hb : w'.heap[b]? = w.heap[b]? := hg.block b h1 (fun e => hd b rfl e.symm)
    rw [← h2 p hp]
    simp only [World.cell?, hb]
end
end Go.Proofs.YtgoplcjjoiiagaaGreatDoor
