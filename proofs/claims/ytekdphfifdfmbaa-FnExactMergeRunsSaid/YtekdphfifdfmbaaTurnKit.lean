import Derived.Test.YtekdphfifdfmbaaG1
namespace Go.Proofs.Ytekdphfifdfmbaa
open Go.RowKit
/-! Worlds in which only some blocks have turned. -/
/-- Of the blocks that were there, only some from lo up to hi have turned. -/
structure Turned (lo hi : Nat) (w w' : World) : Prop where
  os : w'.os = w.os
  tape : w'.tape = w.tape
  output : w'.output = w.output
  size : w.heap.size ≤ w'.heap.size
  block : ∀ k, k < w.heap.size → (k < lo ∨ hi ≤ k) → w'.heap[k]? = w.heap[k]?
theorem Turned.of_below {lo hi : Nat} {w w' : World} (h : Below w.heap.size w w') : Turned lo hi w w' := ⟨h.os, h.tape, h.output, h.size, fun k hk _ => h.block k hk⟩
theorem Turned.of_grown {lo hi b : Nat} {w w' : World} (h : w.grownBy w' (some b)) (h1 : lo ≤ b) (h2 : b < hi) : Turned lo hi w w' :=
  ⟨h.os, h.tape, h.output, h.size, fun k hk hne => h.block k hk (by intro e; injection e with e; omega)⟩
theorem Turned.below {lo hi n : Nat} {w0 w w' : World} (hb : Below n w0 w) (h : Turned lo hi w w') (hn : n ≤ lo) (hs : n ≤ w.heap.size) : Below n w0 w' :=
  ⟨h.os.trans hb.os, h.tape.trans hb.tape, h.output.trans hb.output, Nat.le_trans hb.size h.size, fun k hk => (h.block k (by omega) (Or.inl (by omega))).trans (hb.block k hk)⟩
theorem RowAt.turned {w w' : World} {b lo hi : Nat} {t : TypeId} {c : Array Value} (h : RowAt w b t c) (hg : Turned lo hi w w') (hn : b < lo ∨ hi ≤ b) : RowAt w' b t c := (hg.block b h.lt hn).trans h
end Go.Proofs.Ytekdphfifdfmbaa
