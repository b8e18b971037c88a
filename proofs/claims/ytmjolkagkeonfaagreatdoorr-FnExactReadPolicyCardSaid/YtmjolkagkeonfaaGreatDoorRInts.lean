import Derived.Test.YtmjolkagkeonfaaGreatDoorRProg
import Derived.Test.YtmjolkagkeonfaaGreatDoorRBase
import Derived.Test.YtmjolkagkeonfaaGreatDoorRRows1
import Derived.WalkLawsBesides
import Derived.WalkSpells
import Derived.OpenShut
import Derived.BigQuiet
import Derived.Deep.QuietTactic
namespace Go.Proofs.YtmjolkagkeonfaaGreatDoorR
open Go.RowKit
/-! Slices of numbers: read ('Ints'), written ('Wr'). -/
def ints (k : IntKind) (xs : List Int) : Array Value := (xs.map (Value.int k)).toArray
theorem ints_size (k : IntKind) (xs : List Int) : (ints k xs).size = xs.length := by simp [ints]
theorem ints_at {k : IntKind} {xs : List Int} {i : Nat} (h : i < xs.length) : (ints k xs)[i]? = some (.int k (xs.getD i 0)) := by
  simp [ints, h]
/-- The block b holds, from off on, these numbers; they may be written. -/
def Wr (k : IntKind) (w : World) (b off : Nat) (xs : List Int) : Prop :=
  ∃ cs t, RowAt w b t cs ∧ off + xs.length ≤ cs.size ∧ ∀ i, i < xs.length → cs[off + i]? = some (.int k (xs.getD i 0))
theorem Wr.lt {k : IntKind} {w : World} {b off : Nat} {xs : List Int} (h : Wr k w b off xs) : b < w.heap.size := by
  obtain ⟨cs, t, r, _⟩ := h; exact r.lt
theorem Wr.cell {k : IntKind} {w : World} {b off : Nat} {xs : List Int} (h : Wr k w b off xs) {i : Nat} (hi : i < xs.length) : w.cell? ⟨b, off + i, none⟩ = some (.int k (xs.getD i 0)) := by
  obtain ⟨cs, t, r, _, hc⟩ := h; rw [r.cell]; exact hc i hi
theorem Wr.free {k : IntKind} {w : World} {b off : Nat} {xs : List Int} (h : Wr k w b off xs) (i : Nat) : w.frozen? ⟨b, i, none⟩ = false := by
  obtain ⟨cs, t, r, _⟩ := h; exact r.free i
theorem Wr.of {k : IntKind} {w : World} {b : Nat} {t : TypeId} {xs : List Int} (h : RowAt w b t (ints k xs)) : Wr k w b 0 xs :=
  ⟨_, t, h, by rw [ints_size]; omega, fun i hi => by rw [Nat.zero_add]; exact ints_at hi⟩
theorem Wr.alloc {k : IntKind} {w : World} {b off : Nat} {xs : List Int} (h : Wr k w b off xs) (o : Obj) : Wr k (w.alloc o) b off xs := by
  obtain ⟨cs, t, r, h1, h2⟩ := h; exact ⟨cs, t, r.alloc o, h1, h2⟩
theorem Wr.drewN {k : IntKind} {w : World} {b off : Nat} {xs : List Int} (h : Wr k w b off xs) (n : Nat) : Wr k (w.drewN n) b off xs := h
theorem Wr.drew {k : IntKind} {w : World} {b off : Nat} {xs : List Int} (h : Wr k w b off xs) : Wr k w.drew b off xs := h
theorem Wr.below {k : IntKind} {w w' : World} {b off n : Nat} {xs : List Int} (h : Wr k w b off xs) (hb : Below n w w') (hn : b < n) : Wr k w' b off xs := by
  obtain ⟨cs, t, r, h1, h2⟩ := h; exact ⟨cs, t, r.below hb hn, h1, h2⟩
theorem Wr.far {k : IntKind} {w w' : World} {b off : Nat} {r : Option Nat} {xs : List Int} (h : Wr k w b off xs) (hg : w.grownBy w' r) (hne : some b ≠ r) : Wr k w' b off xs := by
  have hl := h.lt
  obtain ⟨cs, t, q, h1, h2⟩ := h; exact ⟨cs, t, (hg.block b hl hne).trans q, h1, h2⟩
theorem Wr.other {k : IntKind} {w : World} {b off : Nat} {xs : List Int} (h : Wr k w b off xs) (a : Addr) (v : Value) (hn : b ≠ a.block) : Wr k (w.setCell a v) b off xs := by
  obtain ⟨cs, t, r, h1, h2⟩ := h; exact ⟨cs, t, r.other a v hn, h1, h2⟩
theorem Wr.set {k : IntKind} {w : World} {b off : Nat} {xs : List Int} (h : Wr k w b off xs) (i : Nat) (x : Int) (hi : i < xs.length) : Wr k (w.setCell ⟨b, off + i, none⟩ (.int k x)) b off (xs.set i x) := by
  obtain ⟨cs, t, r, h1, h2⟩ := h
  refine ⟨_, t, r.set (off + i) _, by simp; omega, fun j hj => ?_⟩
  rw [List.length_set] at hj
  by_cases e : j = i
  · subst e
    rw [Array.getElem?_setIfInBounds_self_of_lt (by omega), List.getD_eq_getElem?_getD, List.getElem?_set_self hi]; rfl
  · rw [Array.getElem?_setIfInBounds_ne (by omega), h2 j hj, List.getD_eq_getElem?_getD, List.getD_eq_getElem?_getD, List.getElem?_set_ne (by omega)]
theorem wr_setRow {k : IntKind} {w : World} {b off : Nat} {xs : List Int} (h : Wr k w b off xs) (c : Array Value) {g : Nat} (hn : b ≠ g) : Wr k (w.setRow g c) b off xs := by
  obtain ⟨cs, t, r, h1, h2⟩ := h; exact ⟨cs, t, r.otherRow g c hn, h1, h2⟩
/-- A slice value that reads as these numbers. -/
def Ints (k : IntKind) (w : World) (a : Option Addr) (len cap : Nat) (xs : List Int) : Prop :=
  xs.length = len ∧ len ≤ cap ∧ (len = 0 ∨ ∃ b off, a = some ⟨b, off, none⟩ ∧ b < w.heap.size ∧ ∀ i, i < len → w.cell? ⟨b, off + i, none⟩ = some (.int k (xs.getD i 0)))
theorem Wr.ints {k : IntKind} {w : World} {b off : Nat} {xs : List Int} (h : Wr k w b off xs) {cap : Nat} (hc : xs.length ≤ cap) : Ints k w (some ⟨b, off, none⟩) xs.length cap xs :=
  ⟨rfl, hc, Or.inr ⟨b, off, rfl, h.lt, fun _ hi => h.cell hi⟩⟩
theorem Ints.below {k : IntKind} {w w' : World} {a : Option Addr} {len cap : Nat} {xs : List Int} (h : Ints k w a len cap xs) (hb : Below w.heap.size w w') : Ints k w' a len cap xs := by
  refine ⟨h.1, h.2.1, ?_⟩
  rcases h.2.2 with h0 | ⟨b, off, rfl, hl, hc⟩
  · exact Or.inl h0
  · exact Or.inr ⟨b, off, rfl, Nat.lt_of_lt_of_le hl hb.size, fun i hi => (hb.cell (p := ⟨b, off + i, none⟩) hl).trans (hc i hi)⟩
theorem Ints.alloc {k : IntKind} {w : World} {a : Option Addr} {len cap : Nat} {xs : List Int} (h : Ints k w a len cap xs) (o : Obj) : Ints k (w.alloc o) a len cap xs :=
  h.below ((Below.refl _ _).alloc (Nat.le_refl _) o)
theorem Ints.of_isRow {k : IntKind} {w : World} {a : Option Addr} {len cap : Nat} {zs : List Int} (h : IsRow k w a len cap zs) : Ints k w a len cap (zs.take len) := by
  rcases h with ⟨rfl, rfl, rfl, rfl⟩ | ⟨x, rfl, h1, h2, h3, hcell, _⟩
  · exact ⟨rfl, Nat.le_refl _, Or.inl rfl⟩
  · refine ⟨by rw [List.length_take]; omega, h1, ?_⟩
    by_cases h0 : len = 0
    · exact Or.inl h0
    · right
      obtain ⟨b, off, spot⟩ := x
      have hc := hcell 0 (by omega)
      have hspot : spot = none := by simpa [Addr.add] using World.cell?_spot hc
      subst hspot
      have hadd : ∀ i, (⟨b, off, none⟩ : Addr).add i = ⟨b, off + i, none⟩ := by intro i; unfold Addr.add; split <;> simp_all
      refine ⟨b, off, rfl, ?_, fun i hi => ?_⟩
      · have := World.block_lt_of_cell? w _ hc; rw [hadd] at this; exact this
      · have := hcell i (by omega)
        rw [hadd] at this
        rw [this, List.getD_eq_getElem?_getD, List.getD_eq_getElem?_getD, List.getElem?_take, if_pos hi]
/-- within the bounds of int64 -/
def In64 (xs : List Int) : Prop := ∀ x ∈ xs, -9223372036854775808 ≤ x ∧ x ≤ 9223372036854775807
end Go.Proofs.YtmjolkagkeonfaaGreatDoorR
