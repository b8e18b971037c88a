import Derived.Test.YteeadhcfippilaaDoorGetNum
import Derived.Test.YteeadhcfippilaaDoorNumMath
import Derived.Lib.Strings
namespace Go.Proofs.YteeadhcfippilaaDoor
open Go.RowKit
theorem drop_step (T : List UInt8) (m : Nat) (h : m < T.length) : valL (T.drop m) = T[m].toNat % 128 + 128 * valL (T.drop (m + 1)) := by
  rw [List.drop_eq_getElem_cons h]; rfl
theorem drop_bd (T : List UInt8) (m : Nat) (h9 : T.length ≤ 9) (hm : 0 < m) : valL (T.drop m) < 72057594037927936 := by
  refine Nat.lt_of_lt_of_le (valL_lt _) ?_
  have : (T.drop m).length ≤ 8 := by simp; omega
  exact Nat.pow_le_pow_right (n := 128) (by decide) this
theorem val_bd (T : List UInt8) (h9 : T.length ≤ 9) : valL T < 9223372036854775808 := by
  exact Nat.lt_of_lt_of_le (valL_lt _) (Nat.pow_le_pow_right (n := 128) (by decide) h9)

theorem ext_rest (s : ByteArray) (a k : Nat) (h : a + k < s.size) : (s.extract a (a + (k + 1))).data.toList = (restL s a).take (k + 1) := by
  rw [Lib.extract_data, restL, if_neg (by omega), Int.toNat_natCast, show a + (k + 1) - a = k + 1 by omega]
theorem data_eq (t : ByteArray) (T : List UInt8) (h : t.data.toList = T) (j : Nat) (hj : j < t.size) (hj' : j < T.length) : t[j] = T[j] := by
  subst h; rfl
/-- What GetNum comes to at k + 1 bytes, all but the last with their highest bit. -/
theorem get_at (s : ByteArray) (a k : Nat) (hin : a + k < s.size) (h9 : k < 9) (hall : ∀ j, j < k → ∃ x, (restL s a)[j]? = some x ∧ 128 ≤ x.toNat) (hb : s[a + k].toNat < 128) (t : ByteArray) (ht : t.data.toList = (restL s a).take (k + 1)) :
    ((putNum ((valL ((restL s a).take (k + 1)) : Nat) : Int)).toList == t.toList) = true ∧ getNum s a = some (valL ((restL s a).take (k + 1)), k + 1) ∨
    ((putNum ((valL ((restL s a).take (k + 1)) : Nat) : Int)).toList == t.toList) = false ∧ getNum s a = none := by
  have hget : (restL s a)[k]? = some s[a + k] := by rw [rest_get s a k (by omega), data_get s (a + k) hin]
  have hlen : ((restL s a).take (k + 1)).length = k + 1 := by rw [List.length_take, rest_len s a (by omega)]; omega
  have hget2 : ((restL s a).take (k + 1))[k]? = some s[a + k] := by rw [List.getElem?_take_of_lt (by omega)]; exact hget
  have hF := form_of ((restL s a).take (k + 1)) k hlen (fun j hj => by rw [List.getElem?_take_of_lt (by omega)]; exact hall j hj) ⟨_, hget2, hb⟩
  have hlast : lastB ((restL s a).take (k + 1)) = s[a + k] := by have := hF.2; rw [hget2] at this; exact (Option.some.inj this).symm
  have hiff := put_iff _ hF.1 (by omega)
  have hcnt := cnt_hit 9 k _ _ hall hget hb h9
  have hD : (restL s a).getD k 0 = s[a + k] := by rw [List.getD_eq_getElem?_getD, hget]; rfl
  have hG := getNum_some s a (k + 1) hcnt
  rw [show k + 1 - 1 = k by omega, hD] at hG
  have hP : putNum ((valL ((restL s a).take (k + 1)) : Nat) : Int) = strOfNums (putL 8 (valL ((restL s a).take (k + 1)))) := by
    unfold putNum; rw [if_neg (by omega), Int.toNat_natCast]
  rw [hlen, hlast] at hiff
  have hcond : (k + 1 = 1 ∨ s[a + k] ≠ 0) ↔ ((putNum ((valL ((restL s a).take (k + 1)) : Nat) : Int)).toList == t.toList) = true := by
    rw [← hiff, beq_iff_eq, hP]
    have e1 : (strOfNums (putL 8 (valL ((restL s a).take (k + 1))))).toList = (putL 8 (valL ((restL s a).take (k + 1)))).map fun n => UInt8.ofNat n.toNat := by
      rw [ByteArray.toList_eq]; exact strOfNums_data _
    have e2 : t.toList = (restL s a).take (k + 1) := by rw [ByteArray.toList_eq]; exact ht
    rw [e1, e2]
    constructor
    · intro h; rw [h, ofNat_map]
    · intro h
      refine map_inj (putL_range 8 _ (Nat.lt_of_lt_of_le (valL_lt _) (Nat.pow_le_pow_right (by decide) (by omega)))) ?_ (by rw [h, ofNat_map])
      intro x hx
      obtain ⟨y, _, rfl⟩ := List.mem_map.1 hx
      have := y.toNat_lt
      omega
  by_cases hc : k + 1 = 1 ∨ s[a + k] ≠ 0
  · left; exact ⟨hcond.1 hc, by rw [hG, if_pos hc]⟩
  · right
    refine ⟨?_, by rw [hG, if_neg hc]⟩
    cases h : ((putNum ((valL ((restL s a).take (k + 1)) : Nat) : Int)).toList == t.toList)
    · rfl
    · exact (hc (hcond.2 h)).elim

end Go.Proofs.YteeadhcfippilaaDoor
