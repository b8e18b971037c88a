import Derived.Test.YteeadhcfippilaaDoorSGet
import Derived.Test.YteeadhcfippilaaDoorIGet2
import Derived.Test.YteeadhcfippilaaDoorBack
import Derived.Test.YteeadhcfippilaaDoorSumMath
namespace Go.Proofs.YteeadhcfippilaaDoor
open Go.RowKit
/-! A record that was put is read; with one byte turned it is not read as one of its length. -/
theorem span_put (s t : ByteArray) (H R : List UInt8) (M : Nat) (ht : t.size ≤ M) (hM : M ≤ 100000) (hs : s.data.toList = H ++ (putText t).data.toList ++ R) :
    spanN s H.length M = some (H.length + (putNum t.size).size, t.size) ∧ s.extract (H.length + (putNum t.size).size) (H.length + (putNum t.size).size + t.size) = t ∧ (putText t).size = (putNum t.size).size + t.size := by
  have hp : putText t = putNum t.size ++ t := by unfold putText; rw [if_neg (by omega)]
  have hz : (putText t).size = (putNum t.size).size + t.size := by rw [hp, ByteArray.size_append]
  have hd : s.data.toList = H ++ (putNum t.size).data.toList ++ (t.data.toList ++ R) := by rw [hs, hp, ba_app]; simp [List.append_assoc]
  have hg := get_put s H (t.data.toList ++ R) t.size (by omega) hd
  have hlen : s.size = H.length + (putNum t.size).size + t.size + R.length := by
    have := congrArg List.length hd
    simp at this; omega
  refine ⟨?_, ?_, hz⟩
  · unfold spanN; rw [hg]; simp only; rw [if_pos ⟨ht, by omega⟩]
  · apply ba_ext
    rw [ex_data, hd, Nat.add_sub_cancel_left, List.drop_left' (by simp), List.take_left' (by simp)]
theorem byteAt_mid (s : ByteArray) (H R : List UInt8) (b : UInt8) (hs : s.data.toList = H ++ b :: R) : byteAt s H.length = b.toNat := by
  unfold byteAt
  rw [hs, List.getD_eq_getElem?_getD, List.getElem?_append_right (Nat.le_refl _), Nat.sub_self]; rfl
theorem rec_put (s k d : ByteArray) (g : Bool) (H R : List UInt8) (hok : RecOk k g d) (hs : s.data.toList = H ++ (recV k g d).data.toList ++ R) :
    ∃ f, getRec s (H.length : Nat) = some f ∧ s.extract f.kat (f.kat + f.ksz) = k ∧ f.gone = g ∧ s.extract f.bat (f.bat + f.bsz) = d ∧ f.at' = H.length ∧ f.next = H.length + (recV k g d).size := by
  have hv : recV k g d = recT k g d ++ four (sumOf (recT k g d) 5) := if_pos hok
  obtain ⟨o1, o2, o3, o4⟩ := id hok
  obtain ⟨gb, hgb⟩ : ∃ b : UInt8, b = if g then 1 else 0 := ⟨_, rfl⟩
  have hT : (recT k g d).data.toList = 231 :: ((putText k).data.toList ++ gb :: (putText d).data.toList) := by
    unfold recT
    rw [ba_app, ba_app, ba_app, hgb]
    cases g <;> simp
  have hd : s.data.toList = H ++ 231 :: ((putText k).data.toList ++ gb :: ((putText d).data.toList ++ ((four (sumOf (recT k g d) 5)).data.toList ++ R))) := by
    rw [hs, hv, ba_app, hT]; simp [List.append_assoc]
  have f4 : (four (sumOf (recT k g d) 5)).data.toList.length = 4 := by have := four_size (sumOf (recT k g d) 5); simpa using this
  have hd1 : s.data.toList = (H ++ [231]) ++ (putText k).data.toList ++ (gb :: ((putText d).data.toList ++ ((four (sumOf (recT k g d) 5)).data.toList ++ R))) := by rw [hd]; simp [List.append_assoc]
  obtain ⟨s1, x1, z1⟩ := span_put s k (H ++ [231]) _ 100000 (by omega) (Nat.le_refl _) hd1
  have l1 : (H ++ [(231 : UInt8)]).length = H.length + 1 := by simp
  rw [l1] at s1 x1
  have hd2 : s.data.toList = (H ++ 231 :: (putText k).data.toList) ++ gb :: ((putText d).data.toList ++ ((four (sumOf (recT k g d) 5)).data.toList ++ R)) := by rw [hd]; simp [List.append_assoc]
  have l2 : (H ++ 231 :: (putText k).data.toList).length = H.length + 1 + (putText k).size := by simp; omega
  have b2 := byteAt_mid s _ _ gb hd2
  rw [l2] at b2
  have hd3 : s.data.toList = (H ++ 231 :: (putText k).data.toList ++ [gb]) ++ (putText d).data.toList ++ ((four (sumOf (recT k g d) 5)).data.toList ++ R) := by rw [hd]; simp [List.append_assoc]
  obtain ⟨s3, x3, z3⟩ := span_put s d _ _ 100000 o4 (Nat.le_refl _) hd3
  have l3 : (H ++ 231 :: (putText k).data.toList ++ [gb]).length = H.length + 1 + (putText k).size + 1 := by simp; omega
  rw [l3] at s3 x3
  have hlen : s.size = H.length + 1 + (putText k).size + 1 + (putText d).size + 4 + R.length := by
    have := congrArg List.length hd
    simp [-ByteArray.size_data] at this
    have e1 : (putText k).data.size = (putText k).size := rfl
    have e2 : (putText d).data.size = (putText d).size := rfl
    have e3 : s.data.size = s.size := rfl
    have e4 : (four (sumOf (recT k g d) 5)).data.size = 4 := four_size _
    omega
  have bm := byteAt_mid s H _ 231 hd
  obtain ⟨ka, hka⟩ : ∃ x, x = H.length + 1 + (putNum k.size).size := ⟨_, rfl⟩
  obtain ⟨ba, hba⟩ : ∃ x, x = H.length + 1 + (putText k).size + 1 + (putNum d.size).size := ⟨_, rfl⟩
  rw [← hka] at s1 x1
  rw [← hba] at s3 x3
  have eq : H.length + 1 + (putText k).size = ka + k.size := by omega
  rw [eq] at b2 s3
  have szV : (recV k g d).size = 1 + (putText k).size + 1 + (putText d).size + 4 := by
    rw [hv, ByteArray.size_append, four_size]
    have := congrArg List.length hT
    have e0 : (recT k g d).data.toList.length = (recT k g d).size := by simp
    have e1 : (putText k).data.toList.length = (putText k).size := by simp
    have e2 : (putText d).data.toList.length = (putText d).size := by simp
    rw [e0] at this
    simp only [List.length_cons, List.length_append, e1, e2] at this
    omega
  have gg : g = (byteAt s (ka + k.size) == 1) := by rw [b2, hgb]; cases g <;> rfl
  have C := (rec_iff s H.length ka k.size ba d.size (by omega) bm s1 (by omega) s3 (by omega) g gg).1 (by
    rw [x1, x3]
    refine ⟨hok, ?_⟩
    apply ba_ext
    rw [ex_data, hs, List.append_assoc, List.drop_left, List.take_left']
    have : (recV k g d).data.toList.length = (recV k g d).size := by simp
    rw [this, szV]; omega)
  refine ⟨⟨ka, k.size, g, ba, d.size, H.length, ba + d.size + 4⟩, ?_, x1, rfl, x3, rfl, ?_⟩
  · rw [getRec_at s H.length (by omega) bm, s1]
    simp only
    rw [if_neg (by omega), s3]
    simp only
    rw [if_neg (by omega), if_pos (show RecC s H.length ka k.size ba d.size from ⟨C.1, C.2.1, C.2.2.1, by rw [← gg]; exact C.2.2.2.1, C.2.2.2.2⟩), ← gg]
  · show ba + d.size + 4 = _
    rw [szV]; omega
theorem sum5 (T : ByteArray) (h : T.size ≤ 400000) : sumOf T 5 = sumL 6 T.data.toList := by unfold sumOf; rw [if_neg (by omega)]; rfl
theorem turned_no (H : List UInt8) (T s : ByteArray) (hT : T.size ≤ 400000) (j : Nat) (x : UInt8) (q : List UInt8) (hq : q = T.data.toList ++ (four (sumOf T 5)).data.toList) (hj : j < q.length) (hx : x ≠ q[j])
    (hs : s.data.toList = H ++ q.set j x) : ¬ sumOf (s.extract H.length (H.length + T.size)) 5 = sum4 s (H.length + T.size) := by
  have lT : T.data.toList.length = T.size := by simp
  have l4 : (four (sumOf T 5)).data.toList.length = 4 := by have := four_size (sumOf T 5); simpa using this
  have lq : q.length = T.size + 4 := by rw [hq, List.length_append, lT, l4]
  have lS : s.size = H.length + T.size + 4 := by
    have := congrArg List.length hs
    have e : s.data.toList.length = s.size := by simp
    rw [e] at this
    simp [lq] at this; omega
  have e1 : (s.extract H.length (H.length + T.size)).data.toList = (q.set j x).take T.size := by rw [ex_data, hs, List.drop_left, Nat.add_sub_cancel_left]
  have e2 : (s.extract (H.length + T.size) (H.length + T.size + 4)).data.toList = (q.set j x).drop T.size := by
    rw [ex_data, hs, Nat.add_sub_cancel_left, ← List.drop_drop, List.drop_left, List.take_of_length_le]
    simp [lq]
  have sbd : 0 ≤ sumOf T 5 ∧ sumOf T 5 ≤ 2147483647 := by rw [sum5 T hT]; exact sumL_bd _ _ (by decide) (by decide)
  have tq : q.take T.size = T.data.toList := by rw [hq, List.take_left' lT]
  have dq : q.drop T.size = (four (sumOf T 5)).data.toList := by rw [hq, List.drop_left' lT]
  intro h
  by_cases c : j < T.size
  · have f : four (sumOf T 5) = s.extract (H.length + T.size) (H.length + T.size + 4) := by
      apply ba_ext
      rw [e2, List.drop_set_of_lt c, dq]
    have g := (four_iff s (H.length + T.size) (by omega) _ sbd.1 sbd.2).1 f
    rw [← g, sum5 T hT, sum5 _ (by rw [ex_size s _ _ (by omega)]; omega), e1, List.take_set, tq] at h
    have cT : j < T.data.toList.length := by omega
    have sp : T.data.toList = T.data.toList.take j ++ T.data.toList[j] :: T.data.toList.drop (j + 1) := by
      rw [← List.drop_eq_getElem_cons cT, List.take_append_drop]
    have st : T.data.toList.set j x = T.data.toList.take j ++ x :: T.data.toList.drop (j + 1) := by
      rw [List.set_eq_take_append_cons_drop, if_pos cT]
    rw [st] at h
    conv at h => rhs; rw [sp]
    refine sum_turned 6 _ _ x T.data.toList[j] ?_ h
    intro r
    apply hx
    rw [r]
    have : q[j]? = some T.data.toList[j] := by rw [hq, List.getElem?_append_left cT, List.getElem?_eq_getElem cT]
    rw [List.getElem?_eq_getElem hj] at this
    exact (Option.some.inj this).symm
  · have e1' : s.extract H.length (H.length + T.size) = T := by
      apply ba_ext
      rw [e1, List.take_set, tq, List.set_eq_of_length_le (by omega)]
    rw [e1'] at h
    have f := (four_iff s (H.length + T.size) (by omega) _ sbd.1 sbd.2).2 h
    have f2 := congrArg (fun b => b.data.toList[j - T.size]?) f
    simp only [e2] at f2
    rw [← dq, List.getElem?_drop, List.getElem?_drop, show T.size + (j - T.size) = j by omega, List.getElem?_set_self (by omega), List.getElem?_eq_getElem hj] at f2
    exact hx (Option.some.inj f2).symm
end Go.Proofs.YteeadhcfippilaaDoor
