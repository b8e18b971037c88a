import Derived.Test.YteeadhcfippilaaDoorGetNum
namespace Go.Proofs.YteeadhcfippilaaDoor
open Go.RowKit
def dig (c : Nat) : Option Nat := if 48 ≤ c ∧ c ≤ 57 then some (c - 48) else if 97 ≤ c ∧ c ≤ 102 then some (c - 87) else none
theorem dig_lt (c d : Nat) (h : dig c = some d) : d < 16 := by
  unfold dig at h
  split at h
  · have := Option.some.inj h; omega
  · split at h
    · have := Option.some.inj h; omega
    · cases h
def unhexL : List UInt8 → Option (List Int)
  | [] => some []
  | [_] => none
  | x :: y :: l => match dig x.toNat, dig y.toNat with
    | some a, some b => (unhexL l).map (((16 * a + b : Nat) : Int) :: ·)
    | _, _ => none
theorem unhex_c (x y : UInt8) (l : List UInt8) (a b : Nat) (ha : dig x.toNat = some a) (hb : dig y.toNat = some b) : unhexL (x :: y :: l) = (unhexL l).map (((16 * a + b : Nat) : Int) :: ·) := by
  rw [unhexL, ha, hb]
theorem unhex_n (x y : UInt8) (l : List UInt8) (h : dig x.toNat = none ∨ dig y.toNat = none) : unhexL (x :: y :: l) = none := by
  rw [unhexL]
  rcases h with h | h
  · rw [h]
  · rw [h]; cases dig x.toNat <;> rfl
theorem unhex_app : ∀ (l1 l2 : List UInt8) (xs : List Int), unhexL l1 = some xs → unhexL (l1 ++ l2) = (unhexL l2).map (xs ++ ·)
  | [], l2, xs, h => by
    have := Option.some.inj h; subst this
    simp
  | [_], l2, xs, h => by cases h
  | x :: y :: l, l2, xs, h => by
    show unhexL (x :: y :: (l ++ l2)) = _
    cases hx : dig x.toNat with
    | none => rw [unhex_n x y l (Or.inl hx)] at h; cases h
    | some a =>
      cases hy : dig y.toNat with
      | none => rw [unhex_n x y l (Or.inr hy)] at h; cases h
      | some b =>
        rw [unhex_c x y _ a b hx hy] at h ⊢
        obtain ⟨ys, hys, rfl⟩ := Option.map_eq_some_iff.1 h
        rw [unhex_app l l2 ys hys]
        generalize unhexL l2 = r
        cases r <;> simp
def unhex (s : ByteArray) : Option (ByteArray × Int) := if 100000 < s.size then none else (unhexL s.data.toList).map fun xs => (strOfNums xs, (s.size : Int))
/-- Two more bytes. -/
theorem unhex_two (s : ByteArray) (k : Nat) (xs : List Int) (h : unhexL (s.data.toList.take k) = some xs) (hk : k + 1 < s.size) :
    (∀ a b, dig s[k].toNat = some a → dig s[k + 1].toNat = some b → unhexL (s.data.toList.take (k + 2)) = some (xs ++ [((16 * a + b : Nat) : Int)])) ∧
    ((dig s[k].toNat = none ∨ dig s[k + 1].toNat = none) → unhexL s.data.toList = none) := by
  have e1 : s.data.toList.take (k + 2) = s.data.toList.take k ++ [s[k], s[k + 1]] := by
    rw [List.take_succ_eq_append_getElem (by simpa using hk), List.take_succ_eq_append_getElem (by simp; omega), List.append_assoc]; rfl
  refine ⟨fun a b ha hb => ?_, fun hn => ?_⟩
  · rw [e1, unhex_app _ _ xs h]
    rw [unhex_c _ _ _ a b ha hb]; simp [unhexL]
  · have e2 : s.data.toList = s.data.toList.take k ++ (s[k] :: s[k + 1] :: s.data.toList.drop (k + 2)) := by
      conv => lhs; rw [← List.take_append_drop (k + 2) s.data.toList, e1]
      simp
    rw [e2, unhex_app _ _ xs h, unhex_n _ _ _ hn]; rfl
/-- One byte more, the last. -/
theorem unhex_odd (s : ByteArray) (k : Nat) (xs : List Int) (h : unhexL (s.data.toList.take k) = some xs) (hk : k + 1 = s.size) : unhexL s.data.toList = none := by
  have e2 : s.data.toList = s.data.toList.take k ++ [s[k]] := by
    conv => lhs; rw [← List.take_of_length_le (l := s.data.toList) (i := k + 1) (by simp; omega)]
    rw [List.take_succ_eq_append_getElem (by simp; omega)]; rfl
  rw [e2, unhex_app _ _ xs h]; rfl
theorem unhex_len : ∀ (l : List UInt8) (xs : List Int), unhexL l = some xs → l.length = 2 * xs.length
  | [], xs, h => by have := Option.some.inj h; subst this; rfl
  | [_], xs, h => by cases h
  | x :: y :: l, xs, h => by
    cases hx : dig x.toNat with
    | none => rw [unhex_n x y l (Or.inl hx)] at h; cases h
    | some a =>
      cases hy : dig y.toNat with
      | none => rw [unhex_n x y l (Or.inr hy)] at h; cases h
      | some b =>
        rw [unhex_c x y _ a b hx hy] at h
        obtain ⟨ys, hys, rfl⟩ := Option.map_eq_some_iff.1 h
        have := unhex_len l ys hys
        simp; omega

theorem unhex_no (s : ByteArray) (h : s.size % 2 ≠ 0 ∨ 100000 < s.size) : unhex s = none := by
  unfold unhex
  split
  · rfl
  · cases hu : unhexL s.data.toList with
    | none => rfl
    | some xs => have := unhex_len _ xs hu; simp at this; omega

/-! ### the specification's -/
theorem ret_i {k : IntKind} {a b : Int} (h : a = b) : Ending.returned (.int k a) = .returned (.int k b) := by rw [h]
def digI (c : Nat) : Int := match dig c with
  | some d => d
  | none => -1
end Go.Proofs.YteeadhcfippilaaDoor
