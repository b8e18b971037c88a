import Derived.Test.YtcfahbcpfjhajaaGreatDoorCanM
import Derived.Sort.Walk0
namespace Go.Proofs.YtcfahbcpfjhajaaGreatDoor
open Go.RowKit
/-! Pairs chosen by name one after the other are pairs sorted by name. -/
theorem nLt_iff (a b : ByteArray) : nLt a b = true ↔ a.data.toList < b.data.toList := by
  unfold nLt
  rw [show a.toList = a.data.toList from ByteArray.toList_eq .., show b.toList = b.data.toList from ByteArray.toList_eq ..]
  rw [Go.Proofs.bytesLess_eq]
  simp
theorem bst_least (o : Nat → Hp) : ∀ k, 0 < k → ∀ i, i < k → (o (bstTo o k)).nm.data.toList ≤ (o i).nm.data.toList
  | 0, h, _, _ => absurd h (by omega)
  | k + 1, _, i, hi => by
    unfold bstTo
    by_cases e : k = 0
    · rw [if_pos e]
      have : i = 0 := by omega
      subst this
      exact List.le_refl _
    · rw [if_neg e]
      have ih := bst_least o k (by omega)
      by_cases hl : nLt (o k).nm (o (bstTo o k)).nm = true
      · rw [if_pos hl]
        have h1 : (o k).nm.data.toList ≤ (o (bstTo o k)).nm.data.toList := List.le_of_lt ((nLt_iff _ _).1 hl)
        rcases Nat.lt_or_ge i k with h2 | h2
        · exact List.le_trans h1 (ih i h2)
        · rw [show i = k by omega]; exact List.le_refl _
      · rw [if_neg hl]
        rcases Nat.lt_or_ge i k with h2 | h2
        · exact ih i h2
        · rw [show i = k by omega]
          exact List.not_lt.1 fun h => hl ((nLt_iff _ _).2 h)
theorem lessOne_perm (L : List Hp) (b : Nat) (h : b < L.length) : (hAt L b :: lessOne L b).Perm L := by
  have e : L = L.take b ++ hAt L b :: L.drop (b + 1) := by
    have : hAt L b = L[b] := by unfold hAt; rw [List.getD_eq_getElem?_getD, List.getElem?_eq_getElem h]; rfl
    rw [this, List.getElem_cons_drop, List.take_append_drop]
  exact (List.perm_middle.symm).trans (by rw [← e])
theorem sel_perm : ∀ (f : Nat) (L : List Hp), L.length = f → (selL f L).Perm L
  | 0, L, h => by rw [List.length_eq_zero_iff.1 h]; exact List.Perm.refl _
  | f + 1, L, h => by
    have hb := bstTo_lt (hAt L) L.length (by omega)
    exact (List.Perm.cons _ (sel_perm f _ (by rw [lessOne_len L _ hb]; omega))).trans (lessOne_perm L _ hb)
theorem hAt_of_mem {L : List Hp} {p : Hp} (h : p ∈ L) : ∃ i, i < L.length ∧ hAt L i = p := by
  obtain ⟨i, hi, e⟩ := List.getElem_of_mem h
  exact ⟨i, hi, by unfold hAt; rw [List.getD_eq_getElem?_getD, List.getElem?_eq_getElem hi]; exact e⟩
theorem sel_sorted : ∀ (f : Nat) (L : List Hp), L.length = f → (selL f L).Pairwise (fun x y => x.nm.data.toList ≤ y.nm.data.toList)
  | 0, L, h => List.Pairwise.nil
  | f + 1, L, h => by
    have hb := bstTo_lt (hAt L) L.length (by omega)
    refine List.Pairwise.cons (fun y hy => ?_) (sel_sorted f _ (by rw [lessOne_len L _ hb]; omega))
    have hm := mem_lessOne ((sel_perm f _ (by rw [lessOne_len L _ hb]; omega)).mem_iff.1 hy)
    obtain ⟨i, hi, rfl⟩ := hAt_of_mem hm
    exact bst_least (hAt L) L.length (by omega) i hi
/-- the names sorted are the names of the pairs chosen -/
theorem sel_names (L : List Hp) (ns : List (List UInt8)) (hn : ns.Perm (L.map fun p => p.nm.data.toList)) : ns.mergeSort (fun x y => decide (x ≤ y)) = (selL L.length L).map fun p => p.nm.data.toList := by
  refine List.Perm.eq_of_pairwise (le := fun x y => x ≤ y) (fun a b _ _ h1 h2 => List.le_antisymm h1 h2) ?_ ?_ ?_
  · have := List.pairwise_mergeSort (le := fun x y : List UInt8 => decide (x ≤ y)) (fun a b c h1 h2 => by simp at h1 h2 ⊢; exact List.le_trans h1 h2) (fun a b => by simp; exact List.le_total a b) ns
    exact this.imp (fun h => by simpa using h)
  · exact List.pairwise_map.2 (sel_sorted _ _ rfl)
  · exact (List.mergeSort_perm _ _).trans (hn.trans ((sel_perm _ _ rfl).map _).symm)
end Go.Proofs.YtcfahbcpfjhajaaGreatDoor
