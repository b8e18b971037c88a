import Derived.Test.YtlobnmcjnaibaaaDoorRSClear
import Derived.Test.YtlobnmcjnaibaaaDoorRLin
namespace Go.Proofs.YtlobnmcjnaibaaaDoorR
open F
/-! The lists' matrices as matrices over the field. -/
def fm (A : Nat → Nat → Nat) : Mx := fun i j => F.mk (A i j % 256) (Nat.mod_lt _ (by decide))
theorem fm_v {A : Nat → Nat → Nat} {i j : Nat} (h : A i j < 256) : (fm A i j).v = A i j := Nat.mod_eq_of_lt h
theorem fm_swap (A : Nat → Nat → Nat) (a b i j : Nat) : fm (swpN A a b) i j = swapR (fm A) a b i j := by
  unfold fm swpN swapR
  by_cases h1 : i = a
  · simp only [h1, if_true]
  · by_cases h2 : i = b
    · rw [h2] at h1
      simp only [h2, h1, if_true, if_false]
    · simp only [h1, h2, if_false]
theorem clr_lt {R C : Nat} {A : Nat → Nat → Nat} (h : Sm R C A) {row col i j : Nat} (hr : row < R) (hc : col < C) (hi : i < R) (hj : j < C) : clrN A row col i j < 256 := by
  have hf : gp 8 29 (A row col) 254 < 256 := gp_lt fld8.toFld (h row col hr hc) 254
  unfold clrN
  split
  · exact gm_lt fld8.toFld _ hf
  · exact Nat.xor_lt_two_pow (n := 8) (h i j hi hj) (gm_lt fld8.toFld _ (h i col hi hc))
theorem fm_clear {R C : Nat} {A : Nat → Nat → Nat} (h : Sm R C A) {row col i j : Nat} (hr : row < R) (hc : col < C) (hi : i < R) (hj : j < C) : fm (clrN A row col) i j = clearR (fm A) row col i j := by
  have e1 := fm_v (h row col hr hc)
  have e2 := fm_v (h row j hr hj)
  have e3 := fm_v (h i j hi hj)
  have e4 := fm_v (h i col hi hc)
  apply F.ext
  rw [fm_v (clr_lt h hr hc hi hj)]
  unfold clrN clearR
  by_cases e : i = row
  · rw [if_pos e, if_pos e, mul_v, inv_v, e1, e2]
  · rw [if_neg e, if_neg e, add_v, mul_v, mul_v, inv_v, e1, e2, e3, e4]
theorem swp_sm {R C : Nat} {A : Nat → Nat → Nat} (h : Sm R C A) {a b : Nat} (ha : a < R) (hb : b < R) : Sm R C (swpN A a b) := fun i j hi hj => by
  unfold swpN; split
  · exact h b j hb hj
  · split
    · exact h a j ha hj
    · exact h i j hi hj
theorem sm_congr' {R C : Nat} {A B : Nat → Nat → Nat} (h : Sm R C A) (e : ∀ i j, i < R → j < C → B i j = A i j) : Sm R C B := fun i j hi hj => by rw [e i j hi hj]; exact h i j hi hj
theorem fm_congr {A B : Nat → Nat → Nat} {i j : Nat} (e : B i j = A i j) : fm B i j = fm A i j := by unfold fm; simp only [e]
theorem Red.congr {R C : Nat} {A B : Mx} {k : Nat} {p : Nat → Nat} {col : Nat} (h : Red R A k p col) (hc : col ≤ C) (e : ∀ i j, i < R → j < C → B i j = A i j) : Red R B k p col :=
  ⟨h.le, h.ahead, fun i t hi ht => by rw [e i (p t) hi (by have := h.ahead t ht; omega)]; exact h.unit i t hi ht, fun i j h1 h2 h3 => by rw [e i j h2 (by omega)]; exact h.zero i j h1 h2 h3⟩
/-- One pivot of elimination. -/
theorem elim_step {R C : Nat} {A0 : Mx} {A B D : Nat → Nat → Nat} {k col s : Nat} {p : Nat → Nat} (hA : Sm R C A) (hk : KerEq R C A0 (fm A)) (hr : Red R (fm A) k p col) (hc : col < C) (h1 : k ≤ s) (h2 : s < R) (hz : A s col ≠ 0)
    (hB : ∀ i j, i < R → j < C → B i j = swpN A k s i j) (hD : ∀ i j, i < R → j < C → D i j = clrN B k col i j) :
    Sm R C D ∧ KerEq R C A0 (fm D) ∧ Red R (fm D) (k + 1) (fun t => if t = k then col else p t) (col + 1) ∧ ¬ Dep R C A0 col := by
  have hkR : k < R := by omega
  have hB' : Sm R C B := sm_congr' (swp_sm hA hkR h2) hB
  have hz' : fm A s col ≠ 0 := by rw [ne_v, fm_v (hA s col h2 hc)]; exact hz
  obtain ⟨n1, n2, n3⟩ := hr.some hc h1 h2 hz'
  have eB : ∀ i j, i < R → j < C → fm B i j = swapR (fm A) k s i j := fun i j hi hj => by rw [fm_congr (hB i j hi hj), fm_swap]
  have eD : ∀ i j, i < R → j < C → fm D i j = clearR (swapR (fm A) k s) k col i j := fun i j hi hj => by
    rw [fm_congr (hD i j hi hj), fm_clear hB' hkR hc hi hj]
    unfold clearR
    rw [eB k col hkR hc, eB k j hkR hj, eB i j hi hj, eB i col hi hc]
  refine ⟨fun i j hi hj => by rw [hD i j hi hj]; exact clr_lt hB' hkR hc hi hj, ?_, n3.congr (by omega) eD, fun hd => n1 ((Dep.congr hk col).1 hd)⟩
  exact (hk.trans n2).trans (KerEq.of fun i j hi hj => (eD i j hi hj).symm)
/-- No pivot. -/
theorem elim_none {R C : Nat} {A0 : Mx} {A : Nat → Nat → Nat} {k col : Nat} {p : Nat → Nat} (hA : Sm R C A) (hk : KerEq R C A0 (fm A)) (hr : Red R (fm A) k p col) (hc : col < C) (hz : ∀ i, k ≤ i → i < R → A i col = 0) :
    Red R (fm A) k p (col + 1) ∧ Dep R C A0 col := by
  have ⟨h1, h2⟩ := hr.none hc (fun i a b => F.ext (by rw [fm_v (hA i col b hc), hz i a b]; rfl))
  exact ⟨h2, (Dep.congr hk col).2 h1⟩
end Go.Proofs.YtlobnmcjnaibaaaDoorR
