import Derived.Test.YtmjolkagkeonfaaGreatDoorRBase
import Derived.Test.YtmjolkagkeonfaaGreatDoorRRows1
import Derived.Deep.MidRow
namespace Go.Proofs.YtmjolkagkeonfaaGreatDoorR
open Go.RowKit
/-! A block of n cells, told place by place. -/
def FRow (w : World) (b : Nat) (t : TypeId) (n : Nat) (f : Nat → Value) : Prop := ∃ cs : Array Value, RowAt w b t cs ∧ cs.size = n ∧ ∀ p, p < n → cs[p]? = some (f p)
theorem FRow.lt {w : World} {b : Nat} {t : TypeId} {n : Nat} {f : Nat → Value} (h : FRow w b t n f) : b < w.heap.size := h.choose_spec.1.lt
theorem FRow.cell {w : World} {b : Nat} {t : TypeId} {n : Nat} {f : Nat → Value} (h : FRow w b t n f) {p : Nat} (hp : p < n) : w.cell? ⟨b, p, none⟩ = some (f p) := by
  obtain ⟨cs, h1, h2, h3⟩ := h
  rw [h1.cell p]; exact h3 p hp
theorem FRow.free {w : World} {b : Nat} {t : TypeId} {n : Nat} {f : Nat → Value} (h : FRow w b t n f) (p : Nat) : w.frozen? ⟨b, p, none⟩ = false := h.choose_spec.1.free p
theorem FRow.alloc {w : World} {b : Nat} {t : TypeId} {n : Nat} {f : Nat → Value} (h : FRow w b t n f) (o : Obj) : FRow (w.alloc o) b t n f := by
  obtain ⟨cs, h1, h2, h3⟩ := h; exact ⟨cs, h1.alloc o, h2, h3⟩
theorem FRow.drew {w : World} {b : Nat} {t : TypeId} {n : Nat} {f : Nat → Value} (h : FRow w b t n f) : FRow w.drew b t n f := h
theorem FRow.below {w w' : World} {b m : Nat} {t : TypeId} {n : Nat} {f : Nat → Value} (h : FRow w b t n f) (hb : Below m w w') (hm : b < m) : FRow w' b t n f := by
  obtain ⟨cs, h1, h2, h3⟩ := h; exact ⟨cs, h1.below hb hm, h2, h3⟩
theorem FRow.far {w w' : World} {b : Nat} {t : TypeId} {n : Nat} {f : Nat → Value} {r : Option Nat} (h : FRow w b t n f) (hg : w.grownBy w' r) (hne : some b ≠ r) : FRow w' b t n f := by
  obtain ⟨cs, h1, h2, h3⟩ := h; exact ⟨cs, (hg.block b h1.lt hne).trans h1, h2, h3⟩
theorem FRow.other {w : World} {b : Nat} {t : TypeId} {n : Nat} {f : Nat → Value} (h : FRow w b t n f) (a : Addr) (v : Value) (hn : b ≠ a.block) : FRow (w.setCell a v) b t n f := by
  obtain ⟨cs, h1, h2, h3⟩ := h; exact ⟨cs, h1.other a v hn, h2, h3⟩
theorem FRow.congr {w : World} {b : Nat} {t : TypeId} {n : Nat} {f f' : Nat → Value} (h : FRow w b t n f) (e : ∀ p, p < n → f p = f' p) : FRow w b t n f' := by
  obtain ⟨cs, h1, h2, h3⟩ := h; exact ⟨cs, h1, h2, fun p hp => by rw [← e p hp]; exact h3 p hp⟩
def putF (f : Nat → Value) (i : Nat) (v : Value) (p : Nat) : Value := if p = i then v else f p
theorem FRow.set {w : World} {b : Nat} {t : TypeId} {n : Nat} {f : Nat → Value} (h : FRow w b t n f) (i : Nat) (v : Value) : FRow (w.setCell ⟨b, i, none⟩ v) b t n (putF f i v) := by
  obtain ⟨cs, h1, h2, h3⟩ := h
  refine ⟨_, h1.set i v, by simp [h2], fun p hp => ?_⟩
  unfold putF
  by_cases e : p = i
  · subst e; rw [if_pos rfl, Array.getElem?_setIfInBounds_self_of_lt (by omega)]
  · rw [if_neg e, Array.getElem?_setIfInBounds_ne (by omega)]; exact h3 p hp
/-- a range of cells laid anew -/
def layF (f : Nat → Value) (o : Nat) (vs : List Value) (p : Nat) : Value := if o ≤ p ∧ p < o + vs.length then vs.getD (p - o) undef else f p
theorem FRow.setCells {b : Nat} {t : TypeId} {n : Nat} : ∀ (vs : List Value) (o : Nat) {w : World} {f : Nat → Value}, FRow w b t n f → FRow (w.setCells b o vs) b t n (layF f o vs)
  | [], o, w, f, h => h.congr fun p _ => by unfold layF; rw [if_neg (by simp)]
  | v :: r, o, w, f, h => by
    rw [World.setCells]
    refine (FRow.setCells r (o + 1) (h.set o v)).congr fun p _ => ?_
    unfold layF putF
    by_cases e : p = o
    · subst e; rw [if_neg (by omega), if_pos rfl, if_pos (by simp)]; simp
    · by_cases h2 : o + 1 ≤ p ∧ p < o + 1 + r.length
      · rw [if_pos h2, if_pos (by simp; omega), show p - o = (p - (o + 1)) + 1 by omega]; simp
      · rw [if_neg h2, if_neg e, if_neg (by simp; omega)]
theorem setCells_grown {b : Nat} : ∀ (vs : List Value) (o : Nat) (w : World), w.grownBy (w.setCells b o vs) (some b)
  | [], _, w => below_grown (Below.refl _ _) _
  | v :: r, o, w => by rw [World.setCells]; exact grown_trans grown_set (setCells_grown r (o + 1) _)
theorem FRow.range {w : World} {b : Nat} {t : TypeId} {n : Nat} {f : Nat → Value} (h : FRow w b t n f) (o k : Nat) (hk : o + k ≤ n) : w.rangeAt b o ((List.range k).map fun j => f (o + j)) := fun j v hv => by
  have hj : j < k := by have := (List.getElem?_eq_some_iff.1 hv).1; simpa using this
  rw [h.cell (by omega)]
  rw [List.getElem?_map, List.getElem?_range hj] at hv
  exact hv
theorem FRow.there {w : World} {b : Nat} {t : TypeId} {n : Nat} {f : Nat → Value} (h : FRow w b t n f) (o k : Nat) (hk : o + k ≤ n) : w.there b o k := fun j hj =>
  ⟨by rw [h.cell (by omega)]; rfl, h.free _⟩
theorem FRow.of {w : World} {b : Nat} {t : TypeId} {cs : Array Value} {n : Nat} {f : Nat → Value} (h : RowAt w b t cs) (hn : cs.size = n) (hf : ∀ p, p < n → cs[p]? = some (f p)) : FRow w b t n f := ⟨cs, h, hn, hf⟩
theorem arr_of {cs : Array Value} {n : Nat} {f : Nat → Value} (hn : cs.size = n) (hf : ∀ p, p < n → cs[p]? = some (f p)) : cs = ((List.range n).map f).toArray := by
  apply Array.ext'
  apply List.ext_getElem?
  intro p
  rw [Array.getElem?_toList]
  by_cases hp : p < n
  · rw [hf p hp, List.getElem?_map, List.getElem?_range hp]; rfl
  · rw [Array.getElem?_eq_none (by omega), List.getElem?_eq_none (by simp; omega)]
theorem FRow.row {w : World} {b : Nat} {t : TypeId} {n : Nat} {f : Nat → Value} (h : FRow w b t n f) : RowAt w b t ((List.range n).map f).toArray := by
  obtain ⟨cs, h1, h2, h3⟩ := h
  rw [← arr_of h2 h3]; exact h1
end Go.Proofs.YtmjolkagkeonfaaGreatDoorR
