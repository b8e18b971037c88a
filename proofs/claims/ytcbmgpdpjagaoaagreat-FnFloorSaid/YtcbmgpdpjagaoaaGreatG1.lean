import Derived.Test.YtcbmgpdpjagaoaaGreatBase
import Derived.Deep.WholeRow
import Derived.Deep.MidRow
import Derived.Test.YtcbmgpdpjagaoaaGreatProg
import Derived.WalkLawsBesides
import Derived.WalkSpells
import Derived.OpenShut
import Derived.BigQuiet
import Derived.Deep.QuietTactic
import Derived.Lib.ConvBytes
import Derived.Deep.RegionHeld3
import Derived.Laws.BitsAllLaws
namespace Go.Proofs.YtcbmgpdpjagaoaaGreat
open Go.RowKit
def RA (w : World) (b : Nat) (t : TypeId) (c : Array Value) : Prop := w.heap[b]? = some (.cells c t (0, 0))
theorem RA.lt {w : World} {b : Nat} {t : TypeId} {c : Array Value} (h : RA w b t c) : b < w.heap.size := by
 rcases Nat.lt_or_ge b w.heap.size with h1 | h1
 · exact h1
 · have h' : w.heap[b]? = some (.cells c t (0, 0)) := h
   rw [Array.getElem?_eq_none h1] at h'; cases h'
theorem RA.cell {w : World} {b : Nat} {t : TypeId} {c : Array Value} (h : RA w b t c) (i : Nat) : w.cell? ⟨b, i, none⟩ = c[i]? := cell_of_row w b i c t (0, 0) h
theorem RA.free {w : World} {b : Nat} {t : TypeId} {c : Array Value} (h : RA w b t c) (i : Nat) : w.frozen? ⟨b, i, none⟩ = false := by
 have h' : w.heap[b]? = some (.cells c t (0, 0)) := h
 simp [World.frozen?, h']
theorem RA.new (w : World) (t : TypeId) (c : Array Value) : RA (w.alloc (.cells c t)) w.heap.size t c := heap_alloc_last w _
theorem RA.next (w : World) (t : TypeId) (c : Array Value) {n : Nat} (h : n = w.heap.size) : RA (w.alloc (.cells c t)) n t c := by subst h; exact RA.new w t c
theorem size_al (w : World) (o : Obj) : (w.alloc o).heap.size = w.heap.size + 1 := Array.size_push ..
theorem RA.alloc {w : World} {b : Nat} {t : TypeId} {c : Array Value} (h : RA w b t c) (o : Obj) : RA (w.alloc o) b t c := by
 have hl := h.lt; have h' : w.heap[b]? = some (.cells c t (0, 0)) := h
 show (w.heap.push o)[b]? = _
 rw [Array.getElem?_push, if_neg (by omega)]; exact h'
theorem RA.drewN {w : World} {b : Nat} {t : TypeId} {c : Array Value} (h : RA w b t c) (n : Nat) : RA (w.drewN n) b t c := h
theorem RA.drew {w : World} {b : Nat} {t : TypeId} {c : Array Value} (h : RA w b t c) : RA w.drew b t c := h
theorem RA.set {w : World} {b : Nat} {t : TypeId} {c : Array Value} (h : RA w b t c) (i : Nat) (v : Value) : RA (w.setCell ⟨b, i, none⟩ v) b t (c.setIfInBounds i v) := heap_setCell_same w b i c t v h
theorem RA.other {w : World} {b : Nat} {t : TypeId} {c : Array Value} (h : RA w b t c) (a : Addr) (v : Value) (hn : b ≠ a.block) : RA (w.setCell a v) b t c := by
 show (w.setCell a v).heap[b]? = _
 rw [heap_setCell_other w a b v hn]; exact h
theorem RA.setRow {w : World} {b : Nat} {t : TypeId} {c : Array Value} (h : RA w b t c) (c' : Array Value) : RA (w.setRow b c') b t c' := setRow_heap w b c c' t (0, 0) h
theorem RA.otherRow {w : World} {b : Nat} {t : TypeId} {c : Array Value} (h : RA w b t c) (g : Nat) (c' : Array Value) (hn : b ≠ g) : RA (w.setRow g c') b t c := by
 show (w.setRow g c').heap[b]? = _
 rw [setRow_other w g b c' hn]; exact h
theorem RA.below {w w' : World} {b n : Nat} {t : TypeId} {c : Array Value} (h : RA w b t c) (hb : Below n w w') (hn : b < n) : RA w' b t c := by
 show w'.heap[b]? = _
 rw [hb.block b hn]; exact h
theorem below_setRow {n : Nat} {w w' : World} (h : Below n w w') (b : Nat) (c : Array Value) (hb : n ≤ b) : Below n w (w'.setRow b c) := by
 exact ⟨h.os, h.tape, h.output, by rw [setRow_size]; exact h.size, fun k hk => by rw [setRow_other w' b k c (by omega)]; exact h.block k hk⟩
end Go.Proofs.YtcbmgpdpjagaoaaGreat
namespace Go.Proofs.YtcbmgpdpjagaoaaGreat
open Go.RowKit
def FRow (w : World) (b : Nat) (t : TypeId) (n : Nat) (f : Nat → Value) : Prop := ∃ cs : Array Value, RA w b t cs ∧ cs.size = n ∧ ∀ p, p < n → cs[p]? = some (f p)
theorem FRow.lt {w : World} {b : Nat} {t : TypeId} {n : Nat} {f : Nat → Value} (h : FRow w b t n f) : b < w.heap.size := h.choose_spec.1.lt
theorem FRow.cell {w : World} {b : Nat} {t : TypeId} {n : Nat} {f : Nat → Value} (h : FRow w b t n f) {p : Nat} (hp : p < n) : w.cell? ⟨b, p, none⟩ = some (f p) := by
 obtain ⟨cs, h1, h2, h3⟩ := h; rw [h1.cell p]; exact h3 p hp
theorem FRow.free {w : World} {b : Nat} {t : TypeId} {n : Nat} {f : Nat → Value} (h : FRow w b t n f) (p : Nat) : w.frozen? ⟨b, p, none⟩ = false := h.choose_spec.1.free p
theorem FRow.alloc {w : World} {b : Nat} {t : TypeId} {n : Nat} {f : Nat → Value} (h : FRow w b t n f) (o : Obj) : FRow (w.alloc o) b t n f := by
 obtain ⟨cs, h1, h2, h3⟩ := h; exact ⟨cs, h1.alloc o, h2, h3⟩
theorem FRow.drew {w : World} {b : Nat} {t : TypeId} {n : Nat} {f : Nat → Value} (h : FRow w b t n f) : FRow w.drew b t n f := h
theorem FRow.below {w w' : World} {b m : Nat} {t : TypeId} {n : Nat} {f : Nat → Value} (h : FRow w b t n f) (hb : Below m w w') (hm : b < m) : FRow w' b t n f := by
 obtain ⟨cs, h1, h2, h3⟩ := h; exact ⟨cs, h1.below hb hm, h2, h3⟩
theorem FRow.far {w w' : World} {b : Nat} {t : TypeId} {n : Nat} {f : Nat → Value} {r : Option Nat} (h : FRow w b t n f) (hg : w.grownBy w' r) (hne : some b ≠ r) : FRow w' b t n f := by
 obtain ⟨cs, h1, h2, h3⟩ := h; exact ⟨cs, (hg.block b h1.lt hne).trans h1, h2, h3⟩
theorem FRow.other {w : World} {b : Nat} {t : TypeId} {n : Nat} {f : Nat → Value} (h : FRow w b t n f) (a : Addr) (v : Value) (hn : b ≠ a.block) : FRow (w.setCell a v) b t n f := by
 obtain ⟨cs, h1, h2, h3⟩ := h; exact ⟨cs, h1.other a v hn, h2, h3⟩
theorem FRow.congr {w : World} {b : Nat} {t : TypeId} {n : Nat} {f f' : Nat → Value} (h : FRow w b t n f) (e : ∀ p, p < n → f p = f' p) : FRow w b t n f' := by
 obtain ⟨cs, h1, h2, h3⟩ := h; exact ⟨cs, h1, h2, fun p hp => by rw [← e p hp]; exact h3 p hp⟩
def putF (f : Nat → Value) (i : Nat) (v : Value) (p : Nat) : Value := if p = i then v else f p
theorem FRow.set {w : World} {b : Nat} {t : TypeId} {n : Nat} {f : Nat → Value} (h : FRow w b t n f) (i : Nat) (v : Value) : FRow (w.setCell ⟨b, i, none⟩ v) b t n (putF f i v) := by
 obtain ⟨cs, h1, h2, h3⟩ := h; refine ⟨_, h1.set i v, by simp [h2], fun p hp => ?_⟩; unfold putF
 by_cases e : p = i
 · subst e; rw [if_pos rfl, Array.getElem?_setIfInBounds_self_of_lt (by omega)]
 · rw [if_neg e, Array.getElem?_setIfInBounds_ne (by omega)]; exact h3 p hp
def layF (f : Nat → Value) (o : Nat) (vs : List Value) (p : Nat) : Value := if o ≤ p ∧ p < o + vs.length then vs.getD (p - o) undef else f p
theorem FRow.setCells {b : Nat} {t : TypeId} {n : Nat} : ∀ (vs : List Value) (o : Nat) {w : World} {f : Nat → Value}, FRow w b t n f → FRow (w.setCells b o vs) b t n (layF f o vs)
 | [], o, w, f, h => h.congr fun p _ => by unfold layF; rw [if_neg (by simp)]
 | v :: r, o, w, f, h => by
  rw [World.setCells]; refine (FRow.setCells r (o + 1) (h.set o v)).congr fun p _ => ?_; unfold layF putF
  by_cases e : p = o
  · subst e; rw [if_neg (by omega), if_pos rfl, if_pos (by simp)]; simp
  · by_cases h2 : o + 1 ≤ p ∧ p < o + 1 + r.length
    · rw [if_pos h2, if_pos (by simp; omega), show p - o = (p - (o + 1)) + 1 by omega]; simp
    · rw [if_neg h2, if_neg e, if_neg (by simp; omega)]
theorem setCells_grown {b : Nat} : ∀ (vs : List Value) (o : Nat) (w : World), w.grownBy (w.setCells b o vs) (some b)
 | [], _, w => below_grown (Below.refl _ _) _
 | v :: r, o, w => by rw [World.setCells]; exact grown_trans grown_set (setCells_grown r (o + 1) _)
theorem FRow.range {w : World} {b : Nat} {t : TypeId} {n : Nat} {f : Nat → Value} (h : FRow w b t n f) (o k : Nat) (hk : o + k ≤ n) : w.rangeAt b o ((List.range k).map fun j => f (o + j)) := fun j v hv => by
 have hj : j < k := by have := (List.getElem?_eq_some_iff.1 hv).1; simpa using this
 rw [h.cell (by omega)]; rw [List.getElem?_map, List.getElem?_range hj] at hv; exact hv
theorem FRow.there {w : World} {b : Nat} {t : TypeId} {n : Nat} {f : Nat → Value} (h : FRow w b t n f) (o k : Nat) (hk : o + k ≤ n) : w.there b o k := fun j hj =>
 ⟨by rw [h.cell (by omega)]; rfl, h.free _⟩
theorem FRow.of {w : World} {b : Nat} {t : TypeId} {cs : Array Value} {n : Nat} {f : Nat → Value} (h : RA w b t cs) (hn : cs.size = n) (hf : ∀ p, p < n → cs[p]? = some (f p)) : FRow w b t n f := ⟨cs, h, hn, hf⟩
theorem arr_of {cs : Array Value} {n : Nat} {f : Nat → Value} (hn : cs.size = n) (hf : ∀ p, p < n → cs[p]? = some (f p)) : cs = ((List.range n).map f).toArray := by
 apply Array.ext'
 apply List.ext_getElem?
 intro p; rw [Array.getElem?_toList]
 by_cases hp : p < n
 · rw [hf p hp, List.getElem?_map, List.getElem?_range hp]; rfl
 · rw [Array.getElem?_eq_none (by omega), List.getElem?_eq_none (by simp; omega)]
theorem FRow.row {w : World} {b : Nat} {t : TypeId} {n : Nat} {f : Nat → Value} (h : FRow w b t n f) : RA w b t ((List.range n).map f).toArray := by
 obtain ⟨cs, h1, h2, h3⟩ := h; rw [← arr_of h2 h3]; exact h1
end Go.Proofs.YtcbmgpdpjagaoaaGreat
namespace Go.Proofs.YtcbmgpdpjagaoaaGreat
open Go.RowKit
def ints (k : IntKind) (xs : List Int) : Array Value := (xs.map (Value.int k)).toArray
theorem ints_size (k : IntKind) (xs : List Int) : (ints k xs).size = xs.length := by simp [ints]
theorem ints_at {k : IntKind} {xs : List Int} {i : Nat} (h : i < xs.length) : (ints k xs)[i]? = some (.int k (xs.getD i 0)) := by
 simp [ints, h]
def Wr (k : IntKind) (w : World) (b off : Nat) (xs : List Int) : Prop :=
 ∃ cs t, RA w b t cs ∧ off + xs.length ≤ cs.size ∧ ∀ i, i < xs.length → cs[off + i]? = some (.int k (xs.getD i 0))
theorem Wr.lt {k : IntKind} {w : World} {b off : Nat} {xs : List Int} (h : Wr k w b off xs) : b < w.heap.size := by
 obtain ⟨cs, t, r, _⟩ := h; exact r.lt
theorem Wr.cell {k : IntKind} {w : World} {b off : Nat} {xs : List Int} (h : Wr k w b off xs) {i : Nat} (hi : i < xs.length) : w.cell? ⟨b, off + i, none⟩ = some (.int k (xs.getD i 0)) := by
 obtain ⟨cs, t, r, _, hc⟩ := h; rw [r.cell]; exact hc i hi
theorem Wr.free {k : IntKind} {w : World} {b off : Nat} {xs : List Int} (h : Wr k w b off xs) (i : Nat) : w.frozen? ⟨b, i, none⟩ = false := by
 obtain ⟨cs, t, r, _⟩ := h; exact r.free i
theorem Wr.of {k : IntKind} {w : World} {b : Nat} {t : TypeId} {xs : List Int} (h : RA w b t (ints k xs)) : Wr k w b 0 xs :=
 ⟨_, t, h, by rw [ints_size]; omega, fun i hi => by rw [Nat.zero_add]; exact ints_at hi⟩
theorem Wr.alloc {k : IntKind} {w : World} {b off : Nat} {xs : List Int} (h : Wr k w b off xs) (o : Obj) : Wr k (w.alloc o) b off xs := by
 obtain ⟨cs, t, r, h1, h2⟩ := h; exact ⟨cs, t, r.alloc o, h1, h2⟩
theorem Wr.drewN {k : IntKind} {w : World} {b off : Nat} {xs : List Int} (h : Wr k w b off xs) (n : Nat) : Wr k (w.drewN n) b off xs := h
theorem Wr.drew {k : IntKind} {w : World} {b off : Nat} {xs : List Int} (h : Wr k w b off xs) : Wr k w.drew b off xs := h
theorem Wr.below {k : IntKind} {w w' : World} {b off n : Nat} {xs : List Int} (h : Wr k w b off xs) (hb : Below n w w') (hn : b < n) : Wr k w' b off xs := by
 obtain ⟨cs, t, r, h1, h2⟩ := h; exact ⟨cs, t, r.below hb hn, h1, h2⟩
theorem Wr.far {k : IntKind} {w w' : World} {b off : Nat} {r : Option Nat} {xs : List Int} (h : Wr k w b off xs) (hg : w.grownBy w' r) (hne : some b ≠ r) : Wr k w' b off xs := by
 have hl := h.lt; obtain ⟨cs, t, q, h1, h2⟩ := h; exact ⟨cs, t, (hg.block b hl hne).trans q, h1, h2⟩
theorem Wr.other {k : IntKind} {w : World} {b off : Nat} {xs : List Int} (h : Wr k w b off xs) (a : Addr) (v : Value) (hn : b ≠ a.block) : Wr k (w.setCell a v) b off xs := by
 obtain ⟨cs, t, r, h1, h2⟩ := h; exact ⟨cs, t, r.other a v hn, h1, h2⟩
theorem Wr.set {k : IntKind} {w : World} {b off : Nat} {xs : List Int} (h : Wr k w b off xs) (i : Nat) (x : Int) (hi : i < xs.length) : Wr k (w.setCell ⟨b, off + i, none⟩ (.int k x)) b off (xs.set i x) := by
 obtain ⟨cs, t, r, h1, h2⟩ := h; refine ⟨_, t, r.set (off + i) _, by simp; omega, fun j hj => ?_⟩; rw [List.length_set] at hj
 by_cases e : j = i
 · subst e
   rw [Array.getElem?_setIfInBounds_self_of_lt (by omega), List.getD_eq_getElem?_getD, List.getElem?_set_self hi]; rfl
 · rw [Array.getElem?_setIfInBounds_ne (by omega), h2 j hj, List.getD_eq_getElem?_getD, List.getD_eq_getElem?_getD, List.getElem?_set_ne (by omega)]
def Ints (k : IntKind) (w : World) (a : Option Addr) (len cap : Nat) (xs : List Int) : Prop :=
 xs.length = len ∧ len ≤ cap ∧ (len = 0 ∨ ∃ b off, a = some ⟨b, off, none⟩ ∧ b < w.heap.size ∧ ∀ i, i < len → w.cell? ⟨b, off + i, none⟩ = some (.int k (xs.getD i 0)))
theorem Wr.ints {k : IntKind} {w : World} {b off : Nat} {xs : List Int} (h : Wr k w b off xs) {cap : Nat} (hc : xs.length ≤ cap) : Ints k w (some ⟨b, off, none⟩) xs.length cap xs :=
 ⟨rfl, hc, Or.inr ⟨b, off, rfl, h.lt, fun _ hi => h.cell hi⟩⟩
theorem Ints.below {k : IntKind} {w w' : World} {a : Option Addr} {len cap : Nat} {xs : List Int} (h : Ints k w a len cap xs) (hb : Below w.heap.size w w') : Ints k w' a len cap xs := by
 refine ⟨h.1, h.2.1, ?_⟩
 rcases h.2.2 with h0 | ⟨b, off, rfl, hl, hc⟩
 · exact Or.inl h0
 · exact Or.inr ⟨b, off, rfl, Nat.lt_of_lt_of_le hl hb.size, fun i hi => (hb.cell (p := ⟨b, off + i, none⟩) hl).trans (hc i hi)⟩
theorem Ints.alloc {k : IntKind} {w : World} {a : Option Addr} {len cap : Nat} {xs : List Int} (h : Ints k w a len cap xs) (o : Obj) : Ints k (w.alloc o) a len cap xs :=
 h.below ((Below.refl _ _).alloc (Nat.le_refl _) o)
theorem Tryz.info64 : (Tryz.prog.info? 2).map (fun i => (i.zero, i.size, i.bytes)) = some (some (.int .i64 0), 1, 8) := by kernel_rfl
end Go.Proofs.YtcbmgpdpjagaoaaGreat
namespace Go.Proofs.YtcbmgpdpjagaoaaGreat
open Go.RowKit
end Go.Proofs.YtcbmgpdpjagaoaaGreat
namespace Go.Proofs.YtcbmgpdpjagaoaaGreat
open Go.RowKit
end Go.Proofs.YtcbmgpdpjagaoaaGreat
