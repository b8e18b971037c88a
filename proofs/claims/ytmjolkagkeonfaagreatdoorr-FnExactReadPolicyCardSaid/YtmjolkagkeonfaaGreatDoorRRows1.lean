import Derived.Test.YtmjolkagkeonfaaGreatDoorRBase
import Derived.Deep.WholeRow
namespace Go.Proofs.YtmjolkagkeonfaaGreatDoorR
open Go.RowKit
/-! A block of cells at a known place. -/
def zeros : List Nat := [0, 0, 0, 0, 0, 0, 0, 0, 0, 0, 0, 0, 0, 0, 0, 0]
def RowAt (w : World) (b : Nat) (t : TypeId) (c : Array Value) : Prop := w.heap[b]? = some (.cells c t (0, 0))
theorem RowAt.lt {w : World} {b : Nat} {t : TypeId} {c : Array Value} (h : RowAt w b t c) : b < w.heap.size := by
  rcases Nat.lt_or_ge b w.heap.size with h1 | h1
  · exact h1
  · have h' : w.heap[b]? = some (.cells c t (0, 0)) := h
    rw [Array.getElem?_eq_none h1] at h'; cases h'
theorem RowAt.cell {w : World} {b : Nat} {t : TypeId} {c : Array Value} (h : RowAt w b t c) (i : Nat) : w.cell? ⟨b, i, none⟩ = c[i]? := cell_of_row w b i c t (0, 0) h
theorem RowAt.free {w : World} {b : Nat} {t : TypeId} {c : Array Value} (h : RowAt w b t c) (i : Nat) : w.frozen? ⟨b, i, none⟩ = false := by
  have h' : w.heap[b]? = some (.cells c t (0, 0)) := h
  simp [World.frozen?, h']
theorem RowAt.new (w : World) (t : TypeId) (c : Array Value) : RowAt (w.alloc (.cells c t)) w.heap.size t c := heap_alloc_last w _
theorem RowAt.next (w : World) (t : TypeId) (c : Array Value) {n : Nat} (h : n = w.heap.size) : RowAt (w.alloc (.cells c t)) n t c := by subst h; exact RowAt.new w t c
theorem size_al (w : World) (o : Obj) : (w.alloc o).heap.size = w.heap.size + 1 := Array.size_push ..
theorem RowAt.alloc {w : World} {b : Nat} {t : TypeId} {c : Array Value} (h : RowAt w b t c) (o : Obj) : RowAt (w.alloc o) b t c := by
  have hl := h.lt
  have h' : w.heap[b]? = some (.cells c t (0, 0)) := h
  show (w.heap.push o)[b]? = _
  rw [Array.getElem?_push, if_neg (by omega)]; exact h'
theorem RowAt.drewN {w : World} {b : Nat} {t : TypeId} {c : Array Value} (h : RowAt w b t c) (n : Nat) : RowAt (w.drewN n) b t c := h
theorem RowAt.drew {w : World} {b : Nat} {t : TypeId} {c : Array Value} (h : RowAt w b t c) : RowAt w.drew b t c := h
theorem RowAt.set {w : World} {b : Nat} {t : TypeId} {c : Array Value} (h : RowAt w b t c) (i : Nat) (v : Value) : RowAt (w.setCell ⟨b, i, none⟩ v) b t (c.setIfInBounds i v) := heap_setCell_same w b i c t v h
theorem RowAt.other {w : World} {b : Nat} {t : TypeId} {c : Array Value} (h : RowAt w b t c) (a : Addr) (v : Value) (hn : b ≠ a.block) : RowAt (w.setCell a v) b t c := by
  show (w.setCell a v).heap[b]? = _
  rw [heap_setCell_other w a b v hn]; exact h
theorem RowAt.setRow {w : World} {b : Nat} {t : TypeId} {c : Array Value} (h : RowAt w b t c) (c' : Array Value) : RowAt (w.setRow b c') b t c' := setRow_heap w b c c' t (0, 0) h
theorem RowAt.otherRow {w : World} {b : Nat} {t : TypeId} {c : Array Value} (h : RowAt w b t c) (g : Nat) (c' : Array Value) (hn : b ≠ g) : RowAt (w.setRow g c') b t c := by
  show (w.setRow g c').heap[b]? = _
  rw [setRow_other w g b c' hn]; exact h
theorem RowAt.below {w w' : World} {b n : Nat} {t : TypeId} {c : Array Value} (h : RowAt w b t c) (hb : Below n w w') (hn : b < n) : RowAt w' b t c := by
  show w'.heap[b]? = _
  rw [hb.block b hn]; exact h
theorem RowAt.loadCells {P : Program} {w : World} {b : Nat} {t : TypeId} {c : Array Value} (h : RowAt w b t c) (n : Nat) (hn : c.size = n) :
    (loadCellsFrom ⟨b, 0, none⟩ 0 n #[]).run P w = .ok c w := by
  subst hn
  have := run_loadCells_list (P := P) w ⟨b, 0, none⟩ c.toList (fun j v hv => by
    have hadd : (⟨b, 0, none⟩ : Addr).add j = ⟨b, j, none⟩ := by unfold Addr.add; split <;> simp_all
    rw [hadd, h.cell]
    simpa using hv)
  simpa [Go.loadCells] using this
theorem RowAt.storeVar {P : Program} {w : World} {b : Nat} {t ty : TypeId} {c : Array Value} (h : RowAt w b t c) (c' : Array Value) (hi : (P.info? ty).map (·.size) = some c'.size) (ho : c.size = c'.size) (h1 : c'.all (·.oneCell') = true) :
    (Go.storeVar ty ⟨b, 0, none⟩ (.agg c')).run P w = .ok () (w.setRow b c') := run_storeVar_row _ _ t ty c c' h hi ho h1
theorem RowAt.storeCells {P : Program} {w : World} {b : Nat} {t ty : TypeId} {c : Array Value} (h : RowAt w b t c) (c' : Array Value) (hi : (P.info? ty).map (·.size) = some c'.size) (ho : c.size = c'.size) (h1 : c'.all (·.oneCell') = true) :
    (Go.storeCells ⟨b, 0, none⟩ c'.toList 0).run P w = .ok () (w.setRow b c') := by
  have := h.storeVar (P := P) c' hi ho h1
  cases hq : P.info? ty with
  | none => simp [hq] at hi
  | some i =>
    have hs : c'.size = i.size := by simp [hq] at hi; omega
    simpa [Go.storeVar, sizeOf, typeInfo, hq, Value.cells, hs] using this
theorem RowAt.loadVar {P : Program} {w : World} {b : Nat} {t ty : TypeId} {c : Array Value} (h : RowAt w b t c) (d : TypeDesc) (hu : P.underlying ty = some d) (hd : (match d with | .struct _ | .array _ _ => true | _ => false) = true) (hi : (P.info? ty).map (·.size) = some c.size) :
    (Go.loadVar ty ⟨b, 0, none⟩).run P w = .ok (.agg c) w := run_loadVar_row w b t ty c (0, 0) d h hu hd hi
theorem below_setRow {n : Nat} {w w' : World} (h : Below n w w') (b : Nat) (c : Array Value) (hb : n ≤ b) : Below n w (w'.setRow b c) := by
  exact ⟨h.os, h.tape, h.output, by rw [setRow_size]; exact h.size, fun k hk => by rw [setRow_other w' b k c (by omega)]; exact h.block k hk⟩
end Go.Proofs.YtmjolkagkeonfaaGreatDoorR
