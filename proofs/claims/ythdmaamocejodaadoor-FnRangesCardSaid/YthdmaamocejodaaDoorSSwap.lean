import Derived.Test.YthdmaamocejodaaDoorSMul2
import Derived.Deep.RegionHeld3
namespace Go.Proofs.YthdmaamocejodaaDoor
open Go.RowKit
/-! Elimination in place. -/
/-- the cells of a list as a matrix of C columns -/
def mo (C : Nat) (zs : List Nat) (i j : Nat) : Nat := zs.getD (i * C + j) 0
theorem pos_inj {C i j i' j' : Nat} (hj : j < C) (hj' : j' < C) (h : i * C + j = i' * C + j') : i = i' ∧ j = j' := by
  have a1 : (i * C + j) / C = i := by rw [Nat.mul_comm, Nat.mul_add_div (by omega), Nat.div_eq_of_lt hj, Nat.add_zero]
  have a2 : (i' * C + j') / C = i' := by rw [Nat.mul_comm, Nat.mul_add_div (by omega), Nat.div_eq_of_lt hj', Nat.add_zero]
  have e : i = i' := by rw [← a1, ← a2, h]
  subst e
  exact ⟨rfl, by omega⟩
theorem mo_set {C : Nat} {zs : List Nat} {i0 j0 x i j : Nat} (hl : i0 * C + j0 < zs.length) (hj0 : j0 < C) (hj : j < C) :
    mo C (zs.set (i0 * C + j0) x) i j = if i = i0 ∧ j = j0 then x else mo C zs i j := by
  unfold mo
  by_cases e : i = i0 ∧ j = j0
  · obtain ⟨rfl, rfl⟩ := e
    rw [if_pos ⟨rfl, rfl⟩, List.getD_eq_getElem?_getD, List.getElem?_set_self hl]; rfl
  · rw [if_neg e, List.getD_eq_getElem?_getD, List.getD_eq_getElem?_getD, List.getElem?_set_ne (fun h => e ?_)]
    have := pos_inj hj0 hj h
    exact ⟨this.1.symm, this.2.symm⟩
def swpN (A : Nat → Nat → Nat) (a b i j : Nat) : Nat := if i = a then A b j else if i = b then A a j else A i j
theorem swap_step {R C a b J : Nat} {zs : List Nat} {A : Nat → Nat → Nat} (hl : zs.length = R * C) (ha : a < R) (hb : b < R) (hJ : J < C) (zf : ∀ i j, i < R → j < C → mo C zs i j = if j < J then swpN A a b i j else A i j)
    (i j : Nat) (hi : i < R) (hj : j < C) : mo C ((zs.set (a * C + J) (mo C zs b J)).set (b * C + J) (mo C zs a J)) i j = if j < J + 1 then swpN A a b i j else A i j := by
  have la : a * C + J < zs.length := by rw [hl]; exact mul_pos_lt ha hJ
  have lb : b * C + J < (zs.set (a * C + J) (mo C zs b J)).length := by rw [List.length_set, hl]; exact mul_pos_lt hb hJ
  have za : mo C zs a J = A a J := by rw [zf a J ha hJ, if_neg (by omega)]
  have zb : mo C zs b J = A b J := by rw [zf b J hb hJ, if_neg (by omega)]
  rw [mo_set lb hJ hj, mo_set la hJ hj, za, zb, zf i j hi hj]
  unfold swpN
  by_cases e : j = J
  · subst e
    by_cases h1 : i = b
    · by_cases h2 : i = a
      · have hab : a = b := by omega
        subst hab
        simp [h1]
      · simp [h1, show ¬ b = a by omega]
    · by_cases h2 : i = a
      · simp [h2, show ¬ a = b by omega]
      · simp [h1, h2]
  · simp only [e, and_false, if_false]
    by_cases h : j < J
    · rw [if_pos h, if_pos (show j < J + 1 by omega)]
    · rw [if_neg h, if_neg (show ¬ j < J + 1 by omega)]
/-- a matrix in place: its box is a value, its cells lie in block g -/
structure InPl (w : World) (g R C q : Nat) (zs : List Nat) : Prop where
  Z : Wr .i64 w g 0 (nl zs)
  len : zs.length = q
end Go.Proofs.YthdmaamocejodaaDoor
