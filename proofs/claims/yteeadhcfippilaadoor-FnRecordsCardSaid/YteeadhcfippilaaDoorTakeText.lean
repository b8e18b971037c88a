import Derived.Test.YteeadhcfippilaaDoorTakeNum
import Derived.Test.YteeadhcfippilaaDoorGetNum
import Derived.Test.YteeadhcfippilaaDoorClone
import Derived.Lib.Strings
namespace Go.Proofs.YteeadhcfippilaaDoor
open Go.RowKit
theorem CurAt.below {w w' : World} {c : Nat} {s : ByteArray} {p : Int} (h : CurAt w c s p) (hb : Below w.heap.size w w') : CurAt w' c s p := (hb.block c h.lt).trans h

theorem extract_none {s : ByteArray} (k : Nat) : s.extract k (k + 0) = ByteArray.empty := by
  have h : (s.extract k (k + 0)).data.toList = [] := by rw [Lib.extract_data]; simp
  apply ByteArray.ext
  exact Array.toList_inj.1 (by rw [h]; rfl)
/-- The text that begins at a place, and the place behind it. -/
def getText (s : ByteArray) (p : Int) : Option (ByteArray × Int) :=
  match getNum s p with
  | none => none
  | some (v, n) => if 100000 < v ∨ (s.size : Int) - (p + n) < v then none else some (s.extract (p + n).toNat (p + n + v).toNat, p + n + v)
theorem cnt_le : ∀ (f : Nat) (l : List UInt8) (n : Nat), cnt f l = some n → 1 ≤ n ∧ n ≤ f ∧ n ≤ l.length
  | 0, _, _, h => by simp [cnt] at h
  | f + 1, [], _, h => by simp [cnt] at h
  | f + 1, b :: l, n, h => by
    unfold cnt at h
    split at h
    · simp at h; subst h; simp
    · obtain ⟨m, hm, rfl⟩ := Option.map_eq_some_iff.1 h
      have := cnt_le f l m hm
      simp; omega
theorem getNum_in (s : ByteArray) (p : Int) (v n : Nat) (h : getNum s p = some (v, n)) : ∃ a : Nat, p = a ∧ a + n ≤ s.size ∧ 1 ≤ n ∧ n ≤ 9 ∧ v < 9223372036854775808 := by
  unfold getNum at h
  split at h
  · cases h
  · rename_i m hm
    have h1 := cnt_le 9 _ m hm
    split at h
    · have h2 := Option.some.inj h
      obtain ⟨rfl, rfl⟩ := Prod.mk.inj h2
      by_cases hp : p < 0 ∨ s.size < p
      · rw [rest_bad s p hp] at h1; simp at h1; omega
      · obtain ⟨a, rfl⟩ := Int.eq_ofNat_of_zero_le (show 0 ≤ p by omega)
        rw [rest_len s a (by omega)] at h1
        refine ⟨a, rfl, by omega, h1.1, h1.2.1, ?_⟩
        exact Nat.lt_of_lt_of_le (take_lt _ _) (Nat.pow_le_pow_right (n := 128) (by decide) h1.2.1)
    · cases h

end Go.Proofs.YteeadhcfippilaaDoor
