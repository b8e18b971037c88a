import Derived.Test.YtekdphfifdfmbaaBase
import Derived.Deep.WholeRow
import Derived.Deep.MidRow
import Derived.Test.YtekdphfifdfmbaaProg
import Derived.WalkLawsBesides
import Derived.WalkSpells
import Derived.OpenShut
import Derived.BigQuiet
import Derived.Deep.QuietTactic
import Derived.Lib.ConvBytes
import Derived.Deep.RegionHeld3
namespace Go.Proofs.Ytekdphfifdfmbaa
open Go.RowKit
/-! A block of cells at a known place. -/
def zeros : List Nat := [0, 0, 0, 0, 0, 0, 0, 0, 0, 0, 0, 0, 0, 0, 0, 0]
def RowAt (w : World) (b : Nat) (t : TypeId) (c : Array Value) : Prop := w.heap[b]? = some (.cells c t (0, 0))
theorem RowAt.lt {w : World} {b : Nat} {t : TypeId} {c : Array Value} (h : RowAt w b t c) : b < w.heap.size := by
  rcases Nat.lt_or_ge b w.heap.size with h1 | h1
  · exact h1
  · have h' : w.heap[b]? = some (.cells c t (0, 0)) := h
    rw [Array.getElem?_eq_none h1] at h'; cases h'
theorem RowAt.cell {w : World} {b : Nat} {t : TypeId} {c : Array Value} (h : RowAt w b t c) (i : Nat) : w.cell? ⟨b, i, none⟩ = c[i]? := cell_of_row w b i c t (0, 0) h
theorem RowAt.free {w : World} {b : Nat} {t : TypeId} {c : Array Value} (h : RowAt w b t c) (i : Nat) : w.frozen? ⟨b, i, none⟩ = false := by
  have h' : w.heap[b]? = some (.cells c t (0, 0)) := h
  simp [World.frozen?, h']
theorem RowAt.new (w : World) (t : TypeId) (c : Array Value) : RowAt (w.alloc (.cells c t)) w.heap.size t c := heap_alloc_last w _
theorem RowAt.next (w : World) (t : TypeId) (c : Array Value) {n : Nat} (h : n = w.heap.size) : RowAt (w.alloc (.cells c t)) n t c := by subst h; exact RowAt.new w t c
theorem size_al (w : World) (o : Obj) : (w.alloc o).heap.size = w.heap.size + 1 := Array.size_push ..
theorem RowAt.alloc {w : World} {b : Nat} {t : TypeId} {c : Array Value} (h : RowAt w b t c) (o : Obj) : RowAt (w.alloc o) b t c := by
  have hl := h.lt
  have h' : w.heap[b]? = some (.cells c t (0, 0)) := h
  show (w.heap.push o)[b]? = _
  rw [Array.getElem?_push, if_neg (by omega)]; exact h'
theorem RowAt.drewN {w : World} {b : Nat} {t : TypeId} {c : Array Value} (h : RowAt w b t c) (n : Nat) : RowAt (w.drewN n) b t c := h
theorem RowAt.drew {w : World} {b : Nat} {t : TypeId} {c : Array Value} (h : RowAt w b t c) : RowAt w.drew b t c := h
theorem RowAt.set {w : World} {b : Nat} {t : TypeId} {c : Array Value} (h : RowAt w b t c) (i : Nat) (v : Value) : RowAt (w.setCell ⟨b, i, none⟩ v) b t (c.setIfInBounds i v) := heap_setCell_same w b i c t v h
theorem RowAt.other {w : World} {b : Nat} {t : TypeId} {c : Array Value} (h : RowAt w b t c) (a : Addr) (v : Value) (hn : b ≠ a.block) : RowAt (w.setCell a v) b t c := by
  show (w.setCell a v).heap[b]? = _
  rw [heap_setCell_other w a b v hn]; exact h
theorem RowAt.setRow {w : World} {b : Nat} {t : TypeId} {c : Array Value} (h : RowAt w b t c) (c' : Array Value) : RowAt (w.setRow b c') b t c' := setRow_heap w b c c' t (0, 0) h
theorem RowAt.otherRow {w : World} {b : Nat} {t : TypeId} {c : Array Value} (h : RowAt w b t c) (g : Nat) (c' : Array Value) (hn : b ≠ g) : RowAt (w.setRow g c') b t c := by
  show (w.setRow g c').heap[b]? = _
  rw [setRow_other w g b c' hn]; exact h
theorem RowAt.below {w w' : World} {b n : Nat} {t : TypeId} {c : Array Value} (h : RowAt w b t c) (hb : Below n w w') (hn : b < n) : RowAt w' b t c := by
  show w'.heap[b]? = _
  rw [hb.block b hn]; exact h
theorem RowAt.loadCells {P : Program} {w : World} {b : Nat} {t : TypeId} {c : Array Value} (h : RowAt w b t c) (n : Nat) (hn : c.size = n) :
    (loadCellsFrom ⟨b, 0, none⟩ 0 n #[]).run P w = .ok c w := by
  subst hn
  have := run_loadCells_list (P := P) w ⟨b, 0, none⟩ c.toList (fun j v hv => by
    have hadd : (⟨b, 0, none⟩ : Addr).add j = ⟨b, j, none⟩ := by unfold Addr.add; split <;> simp_all
    rw [hadd, h.cell]
    simpa using hv)
  simpa [Go.loadCells] using this
theorem RowAt.storeVar {P : Program} {w : World} {b : Nat} {t ty : TypeId} {c : Array Value} (h : RowAt w b t c) (c' : Array Value) (hi : (P.info? ty).map (·.size) = some c'.size) (ho : c.size = c'.size) (h1 : c'.all (·.oneCell') = true) :
    (Go.storeVar ty ⟨b, 0, none⟩ (.agg c')).run P w = .ok () (w.setRow b c') := run_storeVar_row _ _ t ty c c' h hi ho h1
theorem RowAt.storeCells {P : Program} {w : World} {b : Nat} {t ty : TypeId} {c : Array Value} (h : RowAt w b t c) (c' : Array Value) (hi : (P.info? ty).map (·.size) = some c'.size) (ho : c.size = c'.size) (h1 : c'.all (·.oneCell') = true) :
    (Go.storeCells ⟨b, 0, none⟩ c'.toList 0).run P w = .ok () (w.setRow b c') := by
  have := h.storeVar (P := P) c' hi ho h1
  cases hq : P.info? ty with
  | none => simp [hq] at hi
  | some i =>
    have hs : c'.size = i.size := by simp [hq] at hi; omega
    simpa [Go.storeVar, sizeOf, typeInfo, hq, Value.cells, hs] using this
theorem RowAt.loadVar {P : Program} {w : World} {b : Nat} {t ty : TypeId} {c : Array Value} (h : RowAt w b t c) (d : TypeDesc) (hu : P.underlying ty = some d) (hd : (match d with | .struct _ | .array _ _ => true | _ => false) = true) (hi : (P.info? ty).map (·.size) = some c.size) :
    (Go.loadVar ty ⟨b, 0, none⟩).run P w = .ok (.agg c) w := run_loadVar_row w b t ty c (0, 0) d h hu hd hi
theorem below_setRow {n : Nat} {w w' : World} (h : Below n w w') (b : Nat) (c : Array Value) (hb : n ≤ b) : Below n w (w'.setRow b c) := by
  exact ⟨h.os, h.tape, h.output, by rw [setRow_size]; exact h.size, fun k hk => by rw [setRow_other w' b k c (by omega)]; exact h.block k hk⟩
end Go.Proofs.Ytekdphfifdfmbaa
namespace Go.Proofs.Ytekdphfifdfmbaa
open Go.RowKit
/-! A block of n cells, told place by place. -/
def FRow (w : World) (b : Nat) (t : TypeId) (n : Nat) (f : Nat → Value) : Prop := ∃ cs : Array Value, RowAt w b t cs ∧ cs.size = n ∧ ∀ p, p < n → cs[p]? = some (f p)
theorem FRow.lt {w : World} {b : Nat} {t : TypeId} {n : Nat} {f : Nat → Value} (h : FRow w b t n f) : b < w.heap.size := h.choose_spec.1.lt
theorem FRow.cell {w : World} {b : Nat} {t : TypeId} {n : Nat} {f : Nat → Value} (h : FRow w b t n f) {p : Nat} (hp : p < n) : w.cell? ⟨b, p, none⟩ = some (f p) := by
  obtain ⟨cs, h1, h2, h3⟩ := h
  rw [h1.cell p]; exact h3 p hp
theorem FRow.free {w : World} {b : Nat} {t : TypeId} {n : Nat} {f : Nat → Value} (h : FRow w b t n f) (p : Nat) : w.frozen? ⟨b, p, none⟩ = false := h.choose_spec.1.free p
theorem FRow.alloc {w : World} {b : Nat} {t : TypeId} {n : Nat} {f : Nat → Value} (h : FRow w b t n f) (o : Obj) : FRow (w.alloc o) b t n f := by
  obtain ⟨cs, h1, h2, h3⟩ := h; exact ⟨cs, h1.alloc o, h2, h3⟩
theorem FRow.drew {w : World} {b : Nat} {t : TypeId} {n : Nat} {f : Nat → Value} (h : FRow w b t n f) : FRow w.drew b t n f := h
theorem FRow.below {w w' : World} {b m : Nat} {t : TypeId} {n : Nat} {f : Nat → Value} (h : FRow w b t n f) (hb : Below m w w') (hm : b < m) : FRow w' b t n f := by
  obtain ⟨cs, h1, h2, h3⟩ := h; exact ⟨cs, h1.below hb hm, h2, h3⟩
theorem FRow.far {w w' : World} {b : Nat} {t : TypeId} {n : Nat} {f : Nat → Value} {r : Option Nat} (h : FRow w b t n f) (hg : w.grownBy w' r) (hne : some b ≠ r) : FRow w' b t n f := by
  obtain ⟨cs, h1, h2, h3⟩ := h; exact ⟨cs, (hg.block b h1.lt hne).trans h1, h2, h3⟩
theorem FRow.other {w : World} {b : Nat} {t : TypeId} {n : Nat} {f : Nat → Value} (h : FRow w b t n f) (a : Addr) (v : Value) (hn : b ≠ a.block) : FRow (w.setCell a v) b t n f := by
  obtain ⟨cs, h1, h2, h3⟩ := h; exact ⟨cs, h1.other a v hn, h2, h3⟩
theorem FRow.congr {w : World} {b : Nat} {t : TypeId} {n : Nat} {f f' : Nat → Value} (h : FRow w b t n f) (e : ∀ p, p < n → f p = f' p) : FRow w b t n f' := by
  obtain ⟨cs, h1, h2, h3⟩ := h; exact ⟨cs, h1, h2, fun p hp => by rw [← e p hp]; exact h3 p hp⟩
def putF (f : Nat → Value) (i : Nat) (v : Value) (p : Nat) : Value := if p = i then v else f p
theorem FRow.set {w : World} {b : Nat} {t : TypeId} {n : Nat} {f : Nat → Value} (h : FRow w b t n f) (i : Nat) (v : Value) : FRow (w.setCell ⟨b, i, none⟩ v) b t n (putF f i v) := by
  obtain ⟨cs, h1, h2, h3⟩ := h
  refine ⟨_, h1.set i v, by simp [h2], fun p hp => ?_⟩
  unfold putF
  by_cases e : p = i
  · subst e; rw [if_pos rfl, Array.getElem?_setIfInBounds_self_of_lt (by omega)]
  · rw [if_neg e, Array.getElem?_setIfInBounds_ne (by omega)]; exact h3 p hp
/-- a range of cells laid anew -/
def layF (f : Nat → Value) (o : Nat) (vs : List Value) (p : Nat) : Value := if o ≤ p ∧ p < o + vs.length then vs.getD (p - o) undef else f p
theorem FRow.setCells {b : Nat} {t : TypeId} {n : Nat} : ∀ (vs : List Value) (o : Nat) {w : World} {f : Nat → Value}, FRow w b t n f → FRow (w.setCells b o vs) b t n (layF f o vs)
  | [], o, w, f, h => h.congr fun p _ => by unfold layF; rw [if_neg (by simp)]
  | v :: r, o, w, f, h => by
    rw [World.setCells]
    refine (FRow.setCells r (o + 1) (h.set o v)).congr fun p _ => ?_
    unfold layF putF
    by_cases e : p = o
    · subst e; rw [if_neg (by omega), if_pos rfl, if_pos (by simp)]; simp
    · by_cases h2 : o + 1 ≤ p ∧ p < o + 1 + r.length
      · rw [if_pos h2, if_pos (by simp; omega), show p - o = (p - (o + 1)) + 1 by omega]; simp
      · rw [if_neg h2, if_neg e, if_neg (by simp; omega)]
theorem setCells_grown {b : Nat} : ∀ (vs : List Value) (o : Nat) (w : World), w.grownBy (w.setCells b o vs) (some b)
  | [], _, w => below_grown (Below.refl _ _) _
  | v :: r, o, w => by rw [World.setCells]; exact grown_trans grown_set (setCells_grown r (o + 1) _)
theorem FRow.range {w : World} {b : Nat} {t : TypeId} {n : Nat} {f : Nat → Value} (h : FRow w b t n f) (o k : Nat) (hk : o + k ≤ n) : w.rangeAt b o ((List.range k).map fun j => f (o + j)) := fun j v hv => by
  have hj : j < k := by have := (List.getElem?_eq_some_iff.1 hv).1; simpa using this
  rw [h.cell (by omega)]
  rw [List.getElem?_map, List.getElem?_range hj] at hv
  exact hv
theorem FRow.there {w : World} {b : Nat} {t : TypeId} {n : Nat} {f : Nat → Value} (h : FRow w b t n f) (o k : Nat) (hk : o + k ≤ n) : w.there b o k := fun j hj =>
  ⟨by rw [h.cell (by omega)]; rfl, h.free _⟩
theorem FRow.of {w : World} {b : Nat} {t : TypeId} {cs : Array Value} {n : Nat} {f : Nat → Value} (h : RowAt w b t cs) (hn : cs.size = n) (hf : ∀ p, p < n → cs[p]? = some (f p)) : FRow w b t n f := ⟨cs, h, hn, hf⟩
theorem arr_of {cs : Array Value} {n : Nat} {f : Nat → Value} (hn : cs.size = n) (hf : ∀ p, p < n → cs[p]? = some (f p)) : cs = ((List.range n).map f).toArray := by
  apply Array.ext'
  apply List.ext_getElem?
  intro p
  rw [Array.getElem?_toList]
  by_cases hp : p < n
  · rw [hf p hp, List.getElem?_map, List.getElem?_range hp]; rfl
  · rw [Array.getElem?_eq_none (by omega), List.getElem?_eq_none (by simp; omega)]
theorem FRow.row {w : World} {b : Nat} {t : TypeId} {n : Nat} {f : Nat → Value} (h : FRow w b t n f) : RowAt w b t ((List.range n).map f).toArray := by
  obtain ⟨cs, h1, h2, h3⟩ := h
  rw [← arr_of h2 h3]; exact h1
end Go.Proofs.Ytekdphfifdfmbaa
namespace Go.Proofs.Ytekdphfifdfmbaa
open Go.RowKit
/-! Slices of numbers: read ('Ints'), written ('Wr'). -/
def ints (k : IntKind) (xs : List Int) : Array Value := (xs.map (Value.int k)).toArray
theorem ints_size (k : IntKind) (xs : List Int) : (ints k xs).size = xs.length := by simp [ints]
theorem ints_at {k : IntKind} {xs : List Int} {i : Nat} (h : i < xs.length) : (ints k xs)[i]? = some (.int k (xs.getD i 0)) := by
  simp [ints, h]
/-- The block b holds, from off on, these numbers; they may be written. -/
def Wr (k : IntKind) (w : World) (b off : Nat) (xs : List Int) : Prop :=
  ∃ cs t, RowAt w b t cs ∧ off + xs.length ≤ cs.size ∧ ∀ i, i < xs.length → cs[off + i]? = some (.int k (xs.getD i 0))
theorem Wr.lt {k : IntKind} {w : World} {b off : Nat} {xs : List Int} (h : Wr k w b off xs) : b < w.heap.size := by
  obtain ⟨cs, t, r, _⟩ := h; exact r.lt
theorem Wr.cell {k : IntKind} {w : World} {b off : Nat} {xs : List Int} (h : Wr k w b off xs) {i : Nat} (hi : i < xs.length) : w.cell? ⟨b, off + i, none⟩ = some (.int k (xs.getD i 0)) := by
  obtain ⟨cs, t, r, _, hc⟩ := h; rw [r.cell]; exact hc i hi
theorem Wr.free {k : IntKind} {w : World} {b off : Nat} {xs : List Int} (h : Wr k w b off xs) (i : Nat) : w.frozen? ⟨b, i, none⟩ = false := by
  obtain ⟨cs, t, r, _⟩ := h; exact r.free i
theorem Wr.of {k : IntKind} {w : World} {b : Nat} {t : TypeId} {xs : List Int} (h : RowAt w b t (ints k xs)) : Wr k w b 0 xs :=
  ⟨_, t, h, by rw [ints_size]; omega, fun i hi => by rw [Nat.zero_add]; exact ints_at hi⟩
theorem Wr.alloc {k : IntKind} {w : World} {b off : Nat} {xs : List Int} (h : Wr k w b off xs) (o : Obj) : Wr k (w.alloc o) b off xs := by
  obtain ⟨cs, t, r, h1, h2⟩ := h; exact ⟨cs, t, r.alloc o, h1, h2⟩
theorem Wr.drewN {k : IntKind} {w : World} {b off : Nat} {xs : List Int} (h : Wr k w b off xs) (n : Nat) : Wr k (w.drewN n) b off xs := h
theorem Wr.drew {k : IntKind} {w : World} {b off : Nat} {xs : List Int} (h : Wr k w b off xs) : Wr k w.drew b off xs := h
theorem Wr.below {k : IntKind} {w w' : World} {b off n : Nat} {xs : List Int} (h : Wr k w b off xs) (hb : Below n w w') (hn : b < n) : Wr k w' b off xs := by
  obtain ⟨cs, t, r, h1, h2⟩ := h; exact ⟨cs, t, r.below hb hn, h1, h2⟩
theorem Wr.far {k : IntKind} {w w' : World} {b off : Nat} {r : Option Nat} {xs : List Int} (h : Wr k w b off xs) (hg : w.grownBy w' r) (hne : some b ≠ r) : Wr k w' b off xs := by
  have hl := h.lt
  obtain ⟨cs, t, q, h1, h2⟩ := h; exact ⟨cs, t, (hg.block b hl hne).trans q, h1, h2⟩
theorem Wr.other {k : IntKind} {w : World} {b off : Nat} {xs : List Int} (h : Wr k w b off xs) (a : Addr) (v : Value) (hn : b ≠ a.block) : Wr k (w.setCell a v) b off xs := by
  obtain ⟨cs, t, r, h1, h2⟩ := h; exact ⟨cs, t, r.other a v hn, h1, h2⟩
theorem Wr.set {k : IntKind} {w : World} {b off : Nat} {xs : List Int} (h : Wr k w b off xs) (i : Nat) (x : Int) (hi : i < xs.length) : Wr k (w.setCell ⟨b, off + i, none⟩ (.int k x)) b off (xs.set i x) := by
  obtain ⟨cs, t, r, h1, h2⟩ := h
  refine ⟨_, t, r.set (off + i) _, by simp; omega, fun j hj => ?_⟩
  rw [List.length_set] at hj
  by_cases e : j = i
  · subst e
    rw [Array.getElem?_setIfInBounds_self_of_lt (by omega), List.getD_eq_getElem?_getD, List.getElem?_set_self hi]; rfl
  · rw [Array.getElem?_setIfInBounds_ne (by omega), h2 j hj, List.getD_eq_getElem?_getD, List.getD_eq_getElem?_getD, List.getElem?_set_ne (by omega)]
theorem wr_setRow {k : IntKind} {w : World} {b off : Nat} {xs : List Int} (h : Wr k w b off xs) (c : Array Value) {g : Nat} (hn : b ≠ g) : Wr k (w.setRow g c) b off xs := by
  obtain ⟨cs, t, r, h1, h2⟩ := h; exact ⟨cs, t, r.otherRow g c hn, h1, h2⟩
/-- A slice value that reads as these numbers. -/
def Ints (k : IntKind) (w : World) (a : Option Addr) (len cap : Nat) (xs : List Int) : Prop :=
  xs.length = len ∧ len ≤ cap ∧ (len = 0 ∨ ∃ b off, a = some ⟨b, off, none⟩ ∧ b < w.heap.size ∧ ∀ i, i < len → w.cell? ⟨b, off + i, none⟩ = some (.int k (xs.getD i 0)))
theorem Wr.ints {k : IntKind} {w : World} {b off : Nat} {xs : List Int} (h : Wr k w b off xs) {cap : Nat} (hc : xs.length ≤ cap) : Ints k w (some ⟨b, off, none⟩) xs.length cap xs :=
  ⟨rfl, hc, Or.inr ⟨b, off, rfl, h.lt, fun _ hi => h.cell hi⟩⟩
theorem Ints.below {k : IntKind} {w w' : World} {a : Option Addr} {len cap : Nat} {xs : List Int} (h : Ints k w a len cap xs) (hb : Below w.heap.size w w') : Ints k w' a len cap xs := by
  refine ⟨h.1, h.2.1, ?_⟩
  rcases h.2.2 with h0 | ⟨b, off, rfl, hl, hc⟩
  · exact Or.inl h0
  · exact Or.inr ⟨b, off, rfl, Nat.lt_of_lt_of_le hl hb.size, fun i hi => (hb.cell (p := ⟨b, off + i, none⟩) hl).trans (hc i hi)⟩
theorem Ints.alloc {k : IntKind} {w : World} {a : Option Addr} {len cap : Nat} {xs : List Int} (h : Ints k w a len cap xs) (o : Obj) : Ints k (w.alloc o) a len cap xs :=
  h.below ((Below.refl _ _).alloc (Nat.le_refl _) o)
theorem Ints.of_isRow {k : IntKind} {w : World} {a : Option Addr} {len cap : Nat} {zs : List Int} (h : IsRow k w a len cap zs) : Ints k w a len cap (zs.take len) := by
  rcases h with ⟨rfl, rfl, rfl, rfl⟩ | ⟨x, rfl, h1, h2, h3, hcell, _⟩
  · exact ⟨rfl, Nat.le_refl _, Or.inl rfl⟩
  · refine ⟨by rw [List.length_take]; omega, h1, ?_⟩
    by_cases h0 : len = 0
    · exact Or.inl h0
    · right
      obtain ⟨b, off, spot⟩ := x
      have hc := hcell 0 (by omega)
      have hspot : spot = none := by simpa [Addr.add] using World.cell?_spot hc
      subst hspot
      have hadd : ∀ i, (⟨b, off, none⟩ : Addr).add i = ⟨b, off + i, none⟩ := by intro i; unfold Addr.add; split <;> simp_all
      refine ⟨b, off, rfl, ?_, fun i hi => ?_⟩
      · have := World.block_lt_of_cell? w _ hc; rw [hadd] at this; exact this
      · have := hcell i (by omega)
        rw [hadd] at this
        rw [this, List.getD_eq_getElem?_getD, List.getD_eq_getElem?_getD, List.getElem?_take, if_pos hi]
/-- within the bounds of int64 -/
def In64 (xs : List Int) : Prop := ∀ x ∈ xs, -9223372036854775808 ≤ x ∧ x ≤ 9223372036854775807
theorem Try.info64 : (Try.prog.info? 2).map (fun i => (i.zero, i.size, i.bytes)) = some (some (.int .i64 0), 1, 8) := by kernel_rfl
theorem made64 (n : Nat) : madeCells (Value.int .i64 0).cells (n * 1) = ints .i64 (List.replicate n 0) := by
  apply Array.ext
  · simp [madeCells, ints]
  · intro i h1 h2
    simp [madeCells, ints, Value.cells, Nat.mod_one]
theorem mk64 (w : World) (n : Nat) (hn : n ≤ 17592186044416) : (Instr.makeSlice 31 (.int .i64 n) (.int .i64 n)).run Try.prog w = .ok (.slice (some ⟨w.heap.size, 0, none⟩) n n) (w.alloc (.cells (ints .i64 (List.replicate n 0)) 2)) := by
  obtain ⟨i0, hi, hz0, hz1, hz2⟩ := info_parts Try.info64
  have := run_make (P := Try.prog) w 31 2 i0 (.int .i64 0) Try.underlying31 hi hz0 .i64 .i64 n n (by omega) (Int.le_refl _) (by rw [hz2]; omega) (by omega)
  rw [this, hz1]
  simp only [Int.toNat_natCast, made64]
end Go.Proofs.Ytekdphfifdfmbaa
namespace Go.Proofs.Ytekdphfifdfmbaa
open Go.RowKit
theorem bal9 {w w' : World} (h : Below w.heap.size w w') (o : Obj) : Below w.heap.size w (w'.alloc o) := h.alloc h.size o
/-- the digits of a number ahead of a text -/
def digs : Nat → Nat → ByteArray → ByteArray
  | 0, _, s => s
  | f + 1, k, s => if k = 0 then s else digs f (k / 10) (strOfNums [((48 + k % 10 : Nat) : Int)] ++ s)
theorem digs_zero (f : Nat) (s : ByteArray) : digs f 0 s = s := by cases f <;> simp [digs]
/-- a mark -/
def markB (k : Nat) : ByteArray := ⟨#[109]⟩ ++ digs 20 k ⟨#[]⟩
theorem conv1 (W : World) (d : Int) : (convert 22 9 (.slice (some ⟨W.heap.size, 0, none⟩) 1 1)).run Try.prog (W.alloc (.cells #[.int .u8 d] 5)) = .ok (.string (strOfNums [d])) (W.alloc (.cells #[.int .u8 d] 5)) :=
  run_convert_bytes_arg (P := Try.prog) _ 22 5 Try.underlying22 Try.underlying5 W.heap.size 0 1 1 [d] rfl (fun i hi => by
    have e : i = 0 := by omega
    subst e
    exact (RowAt.new W 5 #[.int .u8 d]).cell 0) 9 Try.underlying9
set_option maxRecDepth 20000 in
set_option maxHeartbeats 2000000 in
theorem markT (k0 : Nat) (h1 : 1 ≤ k0) (hk : k0 ≤ 1073741824) (w : World) :
    Calls Try.prog 62 #[.int .i64 k0] w fun e w' => e = .returned (.string (markB k0)) ∧ Below w.heap.size w w' := by
  have d0 : ¬ (k0 : Int) ≤ 0 := by omega
  go_enter Try.func62, Try.ntmps62
  go_wp2_with fail
  go_loopw [0, 3] (fun x y wr => ∃ (f k : Nat) (s : ByteArray), k < 10 ^ f ∧ s.size + f ≤ 20 ∧ k ≤ 1073741824 ∧ x = .int .i64 k ∧ y = .string s ∧ digs f k s = digs 20 k0 ⟨#[]⟩ ∧ Below w.heap.size w wr) (fun x _ _ => (intOf x).toNat)
  case atStart => exact ⟨20, k0, ⟨#[]⟩, by omega, Nat.le_refl _, hk, rfl, rfl, rfl, Below.refl _ _⟩
  case round =>
    obtain ⟨f, k, s, hf, hsf, hkb, rfl, rfl, hd, hb⟩ := hrel
    have HD := hid hd
    have HB := hid hb
    clear hd hb
    by_cases hlt : 0 < k
    · have hlt' : (0 : Int) < (k : Int) := by omega
      obtain ⟨f', rfl⟩ : ∃ f', f = f' + 1 := ⟨f - 1, by cases f with | zero => simp at hf; omega | succ n => rfl⟩
      obtain ⟨d, hdd⟩ : ∃ d, d = 48 + k % 10 := ⟨_, rfl⟩
      have e1 : (k : Int) % 10 = ((k % 10 : Nat) : Int) := by simp
      have e2 : IntKind.u8.wrap (48 + (k : Int) % 10) = (d : Int) := by rw [IntKind.wrap_u8']; omega
      have e2' : IntKind.u8.wrap (48 + (k : Int).tmod 10) = (d : Int) := by rw [Int.tmod_eq_emod_of_nonneg (by omega)]; exact e2
      have hcv := fun W => conv1 W (d : Int)
      have ND : Hid (digs f' (k / 10) (strOfNums [((d : Nat) : Int)] ++ s) = digs 20 k0 ⟨#[]⟩) := by
        have h9 := HD.out
        unfold digs at h9
        rw [if_neg (by omega), ← hdd] at h9
        exact h9
      have hf' : k / 10 < 10 ^ f' := by rw [Nat.pow_succ] at hf; omega
      have hz1 : (strOfNums [(d : Int)]).size = 1 := strOfNums_size _
      have hz2 : (strOfNums [(d : Int)] ++ s).size + f' ≤ 20 := by rw [ByteArray.size_append, hz1]; omega
      have hz3 : Hid ((strOfNums [(d : Int)] ++ s).size + f' ≤ 20) := hz2
      clear hdd e1 hz2
      go_wp2
      go_roundw
      case rel => exact ⟨f', k / 10, strOfNums [((d : Nat) : Int)] ++ s, hf', hz3.out, by omega, by go_num, rfl, ND.out, bal9 HB.out _⟩
      case measure => simp [intOf]; omega
    · have hke : k = 0 := by omega
      have ND : Hid (s = digs 20 k0 ⟨#[]⟩) := by have h9 := HD.out; rw [hke, digs_zero] at h9; exact h9
      have hlt' : ¬ (0 : Int) < (k : Int) := by omega
      clear hke
      go_wp2
      go_ret
      exact ⟨by rw [markB, ← ND.out]; rfl, HB.out⟩
end Go.Proofs.Ytekdphfifdfmbaa
