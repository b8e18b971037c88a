import Derived.Test.YtjeahllaajpddaaPlAns
namespace Go.Proofs.Ytjeahllaajpddaa
open Go.RowKit
/-! What the disks of a key have. -/
theorem gr_props (x sc : Nat → Int) (n : Nat) : ∀ m l, gr x sc n m = some l →
    (∀ d ∈ l, d < n ∧ 0 ≤ sc d) ∧ (l.map x).Pairwise (· ≠ ·) ∧ l.Pairwise (fun a b => sc b ≤ sc a) ∧ (∀ d, d < n → okP x sc l d → ∀ a ∈ l, sc d ≤ sc a)
  | 0, l, h => by cases h; simp
  | m + 1, l, h => by
    unfold gr at h
    cases hg : gr x sc n m with
    | none => rw [hg] at h; cases h
    | some l' =>
      rw [hg] at h
      replace h : (if pk x sc l' n < 0 then none else some (l' ++ [(pk x sc l' n).toNat])) = some l := h
      by_cases hp : pk x sc l' n < 0
      · rw [if_pos hp] at h; cases h
      · rw [if_neg hp] at h
        cases h
        obtain ⟨h1, h2, h3, h4⟩ := gr_props x sc n m l' hg
        have hb := pk_bd x sc l' n
        have ho := pk_ok x sc l' n (by omega)
        have hM : ∀ d, d < n → okP x sc l' d → sc d ≤ sc (pk x sc l' n).toNat := fun d hd hok => by
          have := (pk_max x sc l' n d hd hok).2; omega
        obtain ⟨b, hbe⟩ : ∃ b, b = (pk x sc l' n).toNat := ⟨_, rfl⟩
        rw [← hbe] at ho hM ⊢
        have hbn : b < n := by omega
        refine ⟨fun d hd => ?_, ?_, ?_, fun d hd hok a ha => ?_⟩
        · rcases List.mem_append.1 hd with q | q
          · exact h1 d q
          · rw [List.mem_singleton.1 q]; exact ⟨hbn, ho.2.1⟩
        · rw [List.map_append, List.pairwise_append]
          refine ⟨h2, by simp, fun u hu v hv => ?_⟩
          simp at hv
          rw [hv]; exact fun e => ho.2.2 (by rw [← e]; exact hu)
        · rw [List.pairwise_append]
          refine ⟨h3, by simp, fun u hu v hv => ?_⟩
          simp at hv
          rw [hv]; exact h4 b hbn ho u hu
        · have hok' : okP x sc l' d := ⟨fun q => hok.1 (by simp [q]), hok.2.1, fun q => hok.2.2 (by rw [List.map_append]; exact List.mem_append.2 (.inl q))⟩
          rcases List.mem_append.1 ha with q | q
          · exact h4 d hd hok' a q
          · rw [List.mem_singleton.1 q]; exact hM d hd hok'
theorem best_zero (key : ByteArray) (d : Int) : best key d 0 = -1 := rfl
/-- the disks that PlaceKey gives, one by one -/
theorem plL_props (key : ByteArray) (n : Nat) (x y : Nat → Int) (m : Int) (i : Nat) (hi : i < (plL key n x y m).length) :
    ∃ d : Nat, (plL key n x y m).getD i 0 = (d : Int) ∧ d < n ∧ 1 ≤ y d ∧ (∀ k d' : Nat, k < i → (plL key n x y m).getD k 0 = (d' : Int) → scoreV key n x y d ≤ scoreV key n x y d' ∧ x d ≠ x d') := by
  unfold plL at hi ⊢
  by_cases hok : NdOk n x y ∧ 1 ≤ m ∧ m ≤ 64 ∧ key.size ≤ 1000
  case neg => rw [if_neg hok] at hi; simp at hi
  rw [if_pos hok] at hi ⊢
  cases hg : gr x (fun (i : Nat) => scoreV key n x y (i : Int)) n m.toNat with
  | none => rw [hg] at hi; simp at hi
  | some l =>
    rw [hg] at hi
    simp only [Option.getD_some, List.length_map] at hi ⊢
    obtain ⟨h1, h2, h3, _⟩ := gr_props x _ n _ l hg
    have hel : ∀ k, k < l.length → (l.map fun i => ((i : Nat) : Int)).getD k 0 = ((l.getD k 0 : Nat) : Int) := fun k hk => by simp [hk]
    have hmem : l.getD i 0 ∈ l := by simp [hi]
    obtain ⟨hd, hs⟩ := h1 _ hmem
    refine ⟨l.getD i 0, hel i hi, hd, ?_, fun k d' hk hd' => ?_⟩
    · have hy := (hok.1.2.2 _ hd).2.2.1
      rcases (by omega : y (l.getD i 0) = 0 ∨ 1 ≤ y (l.getD i 0)) with q | q
      · have : scoreV key n x y ((l.getD i 0 : Nat) : Int) = -1 := by
          unfold scoreV
          rw [if_pos ⟨hok.1, by omega, by omega, hok.2.2.2⟩, Int.toNat_natCast, q]; rfl
        have hs' : 0 ≤ scoreV key n x y ((l.getD i 0 : Nat) : Int) := hs
        omega
      · exact q
    · have hkl : k < l.length := by omega
      rw [hel k hkl] at hd'
      have e : l.getD k 0 = d' := by omega
      have p3 := List.pairwise_iff_getElem.1 h3 k i hkl hi hk
      have p2 := List.pairwise_iff_getElem.1 h2 k i (by simpa using hkl) (by simpa using hi) hk
      simp only [List.getElem_map] at p2
      have ek : l[k] = l.getD k 0 := by simp [hkl]
      have ei : l[i] = l.getD i 0 := by simp [hi]
      rw [ek, ei, e] at p3 p2
      exact ⟨p3, fun q => p2 q.symm⟩
end Go.Proofs.Ytjeahllaajpddaa
