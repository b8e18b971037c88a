import Derived.Test.YteeadhcfippilaaDoorSGetNum
namespace Go.Proofs.YteeadhcfippilaaDoor
open Go.RowKit
theorem getNum_out (s : ByteArray) (p : Int) (h : p < 0 ∨ s.size ≤ p) : getNum s p = none := by
  refine getNum_none s p ?_
  have : restL s p = [] := by
    unfold restL
    split
    · rfl
    · obtain ⟨a, rfl⟩ := Int.eq_ofNat_of_zero_le (show 0 ≤ p by omega)
      rw [List.drop_of_length_le (by simp; omega)]
  rw [this]; rfl
end Go.Proofs.YteeadhcfippilaaDoor
