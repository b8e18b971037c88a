import Derived.Test.YtfkkkplmnanifaaLawBk
import Derived.Test.YtfkkkplmnanifaaPb
namespace Go.Proofs.Ytfkkkplmnanifaa
open Go.RowKit
/-! When a bucket is right. -/
def tmB (t : Int) : Prop := 0 ≤ t ∧ t ≤ 4102444800
def kyB (k : ByteArray) : Prop := 1 ≤ k.size ∧ k.size ≤ 200
def rlP (r : Lr) : Prop := 1 ≤ r.kd ∧ r.kd ≤ 3 ∧ r.px.size ≤ 200 ∧ tmB r.ag
def rlsP (n : Nat) (o : Nat → Lr) : Prop := (∀ k, k < n → rlP (o k)) ∧ n ≤ 20
def byN (o : Nat → Ve) : Nat → Nat
  | 0 => 0
  | k + 1 => byN o k + (o k).dt.size
theorem byN_mono (o : Nat → Ve) {j k : Nat} (h : j ≤ k) : byN o j ≤ byN o k := by
  induction k with
  | zero => rw [Nat.le_zero.mp h]; exact Nat.le_refl _
  | succ k ih => rcases Nat.lt_or_ge j (k + 1) with h1 | h1
                 · have := ih (by omega); show _ ≤ byN o k + _; omega
                 · rw [show j = k + 1 by omega]; exact Nat.le_refl _
theorem byN_sz (o : Nat → Ve) : ∀ m, byN o m ≤ szVe o m
  | 0 => Nat.le_refl _
  | m + 1 => by have := byN_sz o m; show byN o m + _ ≤ szVe o m + _ + _; omega
def veP (v : Ve) : Prop := kyB v.ky ∧ v.dt.size ≤ 100000 ∧ tmB v.tm ∧ tmB v.un ∧ (v.mr = true → v.dt = ⟨#[]⟩ ∧ v.un = 0 ∧ v.ho = false)
def lastI (o : Nat → Ve) : Nat → Int
  | 0 => 0
  | k + 1 => (o k).id
def okV (ni : Int) (o : Nat → Ve) (i : Nat) : Prop := veP (o i) ∧ lastI o i < (o i).id ∧ (o i).id < ni
def vsP (ni : Int) (m : Nat) (o : Nat → Ve) : Prop := m ≤ 300 ∧ ∀ i, i < m → okV ni o i
def qtP (q : Int) : Prop := 0 ≤ q ∧ q ≤ 400000
def wiP (q b : Int) : Prop := q = 0 ∨ b ≤ q
def bkP (ni q : Int) (n0 : Nat) (o0 : Nat → Lr) (m : Nat) (o : Nat → Ve) : Prop :=
  (1 ≤ ni ∧ ni ≤ 1099511627776) ∧ qtP q ∧ rlsP n0 o0 ∧ vsP ni m o ∧ wiP q (byN o m : Nat)
noncomputable def bkV (ni q : Int) (n0 : Nat) (o0 : Nat → Lr) (m : Nat) (o : Nat → Ve) : Int := if pb (bkP ni q n0 o0 m o) then 0 else 1
theorem bkV_ok {ni q : Int} {n0 : Nat} {o0 : Nat → Lr} {m : Nat} {o : Nat → Ve} (h : bkP ni q n0 o0 m o) : bkV ni q n0 o0 m o = 0 := by unfold bkV; rw [pb_t h]; rfl
theorem bkV_no {ni q : Int} {n0 : Nat} {o0 : Nat → Lr} {m : Nat} {o : Nat → Ve} (h : ¬ bkP ni q n0 o0 m o) : bkV ni q n0 o0 m o = 1 := by unfold bkV; rw [pb_f h]; rfl
theorem txt_neB {t : ByteArray} (h : t ≠ ⟨#[]⟩) : t.toList.isEmpty = false := by
  rw [show t.toList = t.data.toList from ByteArray.toList_eq ..]
  cases e : t.data.toList with
  | nil => exact absurd (by obtain ⟨⟨l⟩⟩ := t; simp at e; subst e; rfl) h
  | cons x l => rfl
theorem all_next {P : Nat → Prop} {k : Nat} (h : ∀ i, i < k → P i) (hk : P k) : ∀ i, i < k + 1 → P i := fun i hi => by
  by_cases e : i = k
  · subst e; exact hk
  · exact h i (by omega)
def lgP (s : ByteArray) : Prop := ¬ s.size ≤ 100000
theorem lgP_no {s : ByteArray} (h : s.size ≤ 100000) : ¬ lgP s := fun hh => hh h
theorem bdNB {n : Nat} {w w' : World} (h : Below n w w') (k : Nat) : Below n w (w'.drewN k) := ⟨h.1, h.2, h.3, h.4, h.5⟩
theorem RowAt.nxB {X w1 : World} {b : Nat} {t : TypeId} {c : Array Value} (hb : Below X.heap.size X w1) (h : RowAt X b t c) : RowAt w1 b t c := h.below hb h.lt
end Go.Proofs.Ytfkkkplmnanifaa
