import Derived.Test.YtccokbfbkeknnaaSealM
import Derived.Test.YtccokbfbkeknnaaBack
import Derived.Test.YtccokbfbkeknnaaSumMath
namespace Go.Proofs.Ytccokbfbkeknnaa
open Go.RowKit
/-! What is sealed is opened; what was turned is not. -/
theorem baL (b : ByteArray) : b.data.toList.length = b.size := by simp
theorem appL (a b : ByteArray) : (a ++ b).data.toList = a.data.toList ++ b.data.toList := by simp [ByteArray.data_append]
theorem gt_pt (dk s : ByteArray) (F : List UInt8) (hd : dk.size ≤ 100000) (hs : s.data.toList = (putText dk).data.toList ++ F) : ∃ q, getText s 0 = some (dk, q) := by
  have ept : putText dk = putNum dk.size ++ dk := by unfold putText; rw [if_neg (by omega)]
  have hs2 : s.data.toList = ([] : List UInt8) ++ (putNum (dk.size : Nat)).data.toList ++ (dk.data.toList ++ F) := by rw [hs, ept, appL]; simp
  have hg := get_put s [] (dk.data.toList ++ F) dk.size (by omega) hs2
  have hg0 : getNum s 0 = some (dk.size, (putNum (dk.size : Nat)).size) := hg
  have hl : s.size = (putNum (dk.size : Nat)).size + dk.size + F.length := by
    rw [← baL s, hs2]
    simp only [List.nil_append, List.length_append, baL]
    omega
  unfold getText
  rw [hg0]
  simp only
  rw [if_neg (by omega)]
  refine ⟨0 + ((putNum (dk.size : Nat)).size : Int) + (dk.size : Int), ?_⟩
  have main : s.extract (0 + ((putNum (dk.size : Nat)).size : Int)).toNat (0 + ((putNum (dk.size : Nat)).size : Int) + (dk.size : Int)).toNat = dk := ?_
  · rw [main]
  refine ba_extL ?_
  have e : (0 + ((putNum (dk.size : Nat)).size : Int)).toNat = (putNum (dk.size : Nat)).size := by omega
  have e2 : (0 + ((putNum (dk.size : Nat)).size : Int) + (dk.size : Int)).toNat = (putNum (dk.size : Nat)).size + dk.size := by omega
  rw [e, e2, ByteArray.data_extract]
  simp only [Array.toList_extract, List.extract_eq_take_drop]
  rw [hs2]
  simp only [List.nil_append]
  rw [List.drop_left' (baL _), show (putNum (dk.size : Nat)).size + dk.size - (putNum (dk.size : Nat)).size = dk.size by omega, List.take_left' (baL _)]
theorem wpL_size (m dk : ByteArray) (nonce : Int) (hd : keyP dk) : (ofL (wpL m dk nonce)).size ≤ 300 := by
  have h1 := putText_size dk (by have := hd.2; omega)
  have h2 := four_size (sumOf (putText dk) 8)
  have h3 := hd.2
  rw [ofL_size]
  unfold wpL
  rw [xrL_len, List.length_append, baL, baL]
  omega
theorem unw_wrap {m dk dt : ByteArray} {nonce : Int} (hm : keyP m) (hd : keyP dk) (hn : 0 ≤ nonce) (hdt : dt.size ≤ 100004) : unwO m 0 (ofL (wpL m dk nonce)) dt nonce = (0, dk) := by
  unfold unwO
  rw [if_pos ⟨hm, hn, rfl, wpL_size m dk nonce hd, hdt⟩]
  have e : ofL (xrL (ofL (wpL m dk nonce)).data.toList m nonce) = ofL ((putText dk).data.toList ++ (four (sumOf (putText dk) 8)).data.toList) := by
    rw [ofL_l]
    unfold wpL
    rw [xrL_xrL]
  obtain ⟨q, hq⟩ := gt_pt dk (ofL ((putText dk).data.toList ++ (four (sumOf (putText dk) 8)).data.toList)) _ (by have := hd.2; omega) (ofL_l _)
  rw [e, hq]
  simp only
  rw [if_pos ⟨hd, trivial⟩]
theorem opn_at {dk : ByteArray} {dt : List UInt8} {nonce : Int} {A B : List UInt8} (h : xrL dt dk nonce = A ++ B) (hB : B.length = 4) :
    opnD dk (ofL dt) nonce = if (four (sumOf (dk ++ ofL A) 6)).data.toList = B then bsV 0 (ofL A) else bsV 12 ⟨#[]⟩ := by
  unfold opnD
  simp only
  rw [ofL_l, h, List.length_append, hB, show A.length + 4 - 4 = A.length by omega, List.take_left, List.drop_left]
  by_cases q : (four (sumOf (dk ++ ofL A) 6)).data.toList = B
  · rw [if_pos ⟨by omega, q⟩, if_pos q]
  · rw [if_neg fun h => q h.2, if_neg q]
theorem four_len (n : Int) : (four n).data.toList.length = 4 := by rw [baL, four_size]
theorem opn_data (dk data : ByteArray) (nonce : Int) : opnD dk (ofL (dtL dk nonce data)) nonce = bsV 0 data := by
  have e : ofL data.data.toList = data := (ofL_of rfl).symm
  have h : xrL (dtL dk nonce data) dk nonce = data.data.toList ++ (four (sumOf (dk ++ data) 6)).data.toList := by unfold dtL; rw [xrL_xrL]
  rw [opn_at h (four_len _), e, if_pos rfl]
theorem four_inj {a b : Int} (ha : 0 ≤ a) (ha1 : a ≤ 2147483647) (hb : 0 ≤ b) (hb1 : b ≤ 2147483647) (h : (four a).data.toList = (four b).data.toList) : a = b := by
  unfold four at h
  rw [strOfNums_data, strOfNums_data] at h
  simp only [List.map_cons, List.map_nil, List.cons.injEq, and_true] at h
  obtain ⟨h1, h2, h3, h4⟩ := h
  have q : ∀ x y : Int, 0 ≤ x → x < 256 → 0 ≤ y → y < 256 → UInt8.ofNat x.toNat = UInt8.ofNat y.toNat → x = y := by
    intro x y h0 h1 h2 h3 h
    have := congrArg UInt8.toNat h
    rw [UInt8.toNat_ofNat', UInt8.toNat_ofNat'] at this
    omega
  have r1 := q _ _ (by omega) (by omega) (by omega) (by omega) h1
  have r2 := q _ _ (by omega) (by omega) (by omega) (by omega) h2
  have r3 := q _ _ (by omega) (by omega) (by omega) (by omega) h3
  have r4 := q _ _ (by omega) (by omega) (by omega) (by omega) h4
  omega
theorem xor_inj (x y s : UInt8) (h : x ^^^ s = y ^^^ s) : x = y := by
  have := congrArg (· ^^^ s) h
  simpa [UInt8.xor_assoc] using this
theorem xl_set : ∀ (a b : List UInt8) (j : Nat) (x : UInt8) (hb : j < b.length), xl (a.set j x) b = (xl a b).set j (x ^^^ b[j])
  | [], b, j, x, hb => by simp [xl]
  | c :: a, [], j, x, hb => by simp at hb
  | c :: a, d :: b, 0, x, hb => by simp [xl]
  | c :: a, d :: b, j + 1, x, hb => by
    have := xl_set a b j x (by simpa using hb)
    unfold xl at this ⊢
    simp only [List.set_cons_succ, List.zipWith_cons_cons, List.getElem_cons_succ]
    rw [this]
theorem sum6 (T : ByteArray) (h : T.size ≤ 400000) : sumOf T 6 = sumL 7 T.data.toList := by unfold sumOf; rw [if_neg (by omega)]; rfl
theorem set_parts (l : List UInt8) (j : Nat) (y : UInt8) (hj : j < l.length) : l.set j y = l.take j ++ y :: l.drop (j + 1) := by rw [List.set_eq_take_append_cons_drop, if_pos hj]
theorem opn_turned (dk data : ByteArray) (nonce : Int) (hk : keyP dk) (hd : data.size ≤ 100000) (j : Nat) (x : UInt8) (hj : j < (dtL dk nonce data).length) (hx : x ≠ (dtL dk nonce data)[j]) :
    opnD dk (ofL ((dtL dk nonce data).set j x)) nonce = bsV 12 ⟨#[]⟩ := by
  have k2 := hk.2
  have hD : xrL (dtL dk nonce data) dk nonce = data.data.toList ++ (four (sumOf (dk ++ data) 6)).data.toList := by unfold dtL; rw [xrL_xrL]
  have hlen : (dtL dk nonce data).length = data.size + 4 := by unfold dtL; rw [xrL_len, List.length_append, baL, four_len]
  generalize hDD : dtL dk nonce data = D at hD hlen hj hx
  have hS : j < (stmL dk nonce D.length).length := by unfold stmL; rw [stB_len]; exact hj
  have hX : xrL (D.set j x) dk nonce = (data.data.toList ++ (four (sumOf (dk ++ data) 6)).data.toList).set j (x ^^^ (stmL dk nonce D.length)[j]) := by
    rw [← hD]
    unfold xrL
    rw [List.length_set]
    exact xl_set D _ j x hS
  have hy : ∀ h : j < (data.data.toList ++ (four (sumOf (dk ++ data) 6)).data.toList).length, x ^^^ (stmL dk nonce D.length)[j] ≠ (data.data.toList ++ (four (sumOf (dk ++ data) 6)).data.toList)[j] := by
    intro h q
    have e : (data.data.toList ++ (four (sumOf (dk ++ data) 6)).data.toList)[j] = D[j] ^^^ (stmL dk nonce D.length)[j] := by
      have : (xrL D dk nonce)[j]'(by rw [xrL_len]; exact hj) = D[j] ^^^ (stmL dk nonce D.length)[j] := by
        unfold xrL xl
        rw [List.getElem_zipWith]
      simp only [hD] at this
      exact this
    rw [e] at q
    exact hx (xor_inj _ _ _ q)
  generalize x ^^^ (stmL dk nonce D.length)[j] = y at hX hy
  have SB := sum_bd (dk ++ data) 6
  by_cases hjd : j < data.size
  · have hjl : j < data.data.toList.length := by rw [baL]; exact hjd
    rw [List.set_append_left _ _ hjl] at hX
    rw [opn_at hX (four_len _), if_neg]
    intro q
    have SB2 := sum_bd (dk ++ ofL (data.data.toList.set j y)) 6
    have := four_inj SB2.1 SB2.2 SB.1 SB.2 q
    have z1 : (dk ++ ofL (data.data.toList.set j y)).size ≤ 400000 := by rw [← baL, appL, List.length_append, ofL_l, List.length_set, baL, baL]; omega
    have z2 : (dk ++ data).size ≤ 400000 := by rw [← baL, appL, List.length_append, baL, baL]; omega
    rw [sum6 _ z1, sum6 _ z2, appL, appL, ofL_l] at this
    have hne : y ≠ data.data.toList[j] := by
      have := hy (by rw [List.length_append]; omega)
      rw [List.getElem_append_left hjl] at this
      exact this
    have e1 : dk.data.toList ++ data.data.toList.set j y = (dk.data.toList ++ data.data.toList.take j) ++ y :: data.data.toList.drop (j + 1) := by rw [set_parts _ _ _ hjl]; simp
    have e2 : dk.data.toList ++ data.data.toList = (dk.data.toList ++ data.data.toList.take j) ++ data.data.toList[j] :: data.data.toList.drop (j + 1) := by
      conv => lhs; rw [← List.take_append_drop j data.data.toList, List.drop_eq_getElem_cons hjl]
      simp
    rw [e1, e2] at this
    exact sum_turned 7 _ _ _ _ hne this
  · have hjl : data.data.toList.length ≤ j := by rw [baL]; omega
    rw [List.set_append_right _ _ hjl] at hX
    have e : ofL data.data.toList = data := (ofL_of rfl).symm
    rw [opn_at hX (by rw [List.length_set]; exact four_len _), e, if_neg]
    intro q
    have hj4 : j - data.data.toList.length < (four (sumOf (dk ++ data) 6)).data.toList.length := by rw [four_len, baL]; omega
    have hne := hy (by rw [List.length_append, four_len, baL]; omega)
    rw [List.getElem_append_right hjl] at hne
    have q2 : (four (sumOf (dk ++ data) 6)).data.toList[j - data.data.toList.length]? = ((four (sumOf (dk ++ data) 6)).data.toList.set (j - data.data.toList.length) y)[j - data.data.toList.length]? := by rw [← q]
    rw [List.getElem?_eq_getElem hj4, List.getElem?_set_self hj4] at q2
    exact hne (Option.some.inj q2).symm
end Go.Proofs.Ytccokbfbkeknnaa
