import Derived.Test.YtjeahllaajpddaaSumMath
import Derived.Test.YtjeahllaajpddaaTurn
import Derived.Test.YtjeahllaajpddaaDrawSum
namespace Go.Proofs.Ytjeahllaajpddaa
open Go.RowKit
theorem turned_size (t : ByteArray) (k : Nat) (d : UInt8) : (⟨(turned t k d).toArray⟩ : ByteArray).size = t.size := by
  show (t.data.toList.set k d).toArray.size = t.size
  rw [List.size_toArray, List.length_set]; simp
theorem sum_other (t : ByteArray) (seed : Int) (k : Nat) (d : UInt8) (hk : k < t.size) (hd : d ≠ t[k]) (h0 : 0 ≤ seed) (ht : t.size ≤ 400000) : sumOf ⟨(turned t k d).toArray⟩ seed ≠ sumOf t seed := by
  have hz : (⟨(turned t k d).toArray⟩ : ByteArray).size = t.size := turned_size t k d
  unfold sumOf
  rw [hz, if_neg (by omega), if_neg (by omega)]
  have e1 : t.data.toList = t.data.toList.take k ++ t[k] :: t.data.toList.drop (k + 1) := by
    conv => lhs; rw [← List.take_append_drop k t.data.toList, List.drop_eq_getElem_cons (by simpa using hk)]
    rfl
  have e2 : (⟨(turned t k d).toArray⟩ : ByteArray).data.toList = t.data.toList.take k ++ d :: t.data.toList.drop (k + 1) := by
    show (t.data.toList.set k d).toArray.toList = _
    rw [List.toList_toArray, List.set_eq_take_append_cons_drop, if_pos (by simpa using hk)]
  rw [e2]
  conv => rhs; rw [e1]
  exact sum_turned _ _ _ _ _ hd
set_option maxRecDepth 20000 in
set_option maxHeartbeats 2000000 in
theorem fnSums_small (a0 : Option Addr) (len0 cap0 : Nat) (a1 : Option Addr) (len1 cap1 : Nat) (w : World) (c0 : CodeOk w a0 len0) (l0 : len0 ≤ cap0) (c1 : CodeOk w a1 len1) :
    Calls Try.prog 3 #[.slice a0 len0 cap0, .slice a1 len1 cap1] w fun e w' => e = .returned (.bool true) ∧ Below w.heap.size w w' := by
  have z0 := c0.1
  have z1 := c1.1
  have d0 : decide ((1048576 : Int) < (len0 : Int)) = false := by simp; omega
  have d1 : decide ((1048576 : Int) < (len1 : Int)) = false := by simp; omega
  go_enter Try.func3, Try.ntmps3
  go_wp2_with fail
  refine (drawSumOf_all w a0 len0 cap0 c0 l0).mono ?_
  rintro e w1 ⟨⟨t, seed, rfl, ht, hs0, hs1⟩, hb1⟩
  have c2 := c1.below hb1
  go_wp2_with fail
  refine (isum_all t seed hs1 (by omega) _).mono ?_
  rintro e w2 ⟨rfl, rfl⟩
  go_wp2_with fail
  refine (ssum_all t seed hs1 (by omega) _).mono ?_
  rintro e w3 ⟨rfl, rfl⟩
  by_cases hneg : seed < 0
  · have dn : decide (seed < 0) = true := by simp; omega
    go_wp2
    go_ret
    exact ⟨rfl, hb1⟩
  · have dn : decide (seed < 0) = false := by simp; omega
    by_cases hem : t.size = 0
    · have he : t.toList.isEmpty = true := by
        rw [ByteArray.toList_eq, List.isEmpty_iff]; exact List.eq_nil_of_length_eq_zero (by simpa using hem)
      go_wp2
      go_ret
      exact ⟨rfl, hb1⟩
    · have he : t.toList.isEmpty = false := by
        rw [ByteArray.toList_eq, List.isEmpty_eq_false_iff]; intro h; apply hem; have := congrArg List.length h; simpa using this
      go_wp2_with fail
      refine (lwAt_all _ a1 len1 cap1 0 c2 (by omega)).mono ?_
      rintro e w4 ⟨⟨r0, rfl, hr0⟩, rfl⟩
      go_wp2_with fail
      refine (lwAt_all _ a1 len1 cap1 1 c2 (by omega)).mono ?_
      rintro e w5 ⟨⟨r1, rfl, hr1⟩, rfl⟩
      go_wp2_with fail
      refine (lwAt_all _ a1 len1 cap1 2 c2 (by omega)).mono ?_
      rintro e w6 ⟨⟨r2, rfl, hr2⟩, rfl⟩
      go_wp2_with fail
      have hT := lwTurn_all t (r0 * 256 + r1) r2 (by omega) (by omega) (by omega) hr2 w6
      rw [show ((r0 * 256 + r1 : Nat) : Int) = (r0 : Int) * 256 + (r1 : Int) by omega] at hT
      refine hT.mono ?_
      rintro e w7 ⟨⟨k, d, hk, hd, rfl⟩, hb7⟩
      have hz : (⟨(turned t k d).toArray⟩ : ByteArray).size = t.size := turned_size t k d
      have hne : (sumOf ⟨(turned t k d).toArray⟩ seed != sumOf t seed) = true := by
        rw [bne_iff_ne]; exact sum_other t seed k d hk hd (by omega) (by omega)
      obtain ⟨t', ht'⟩ : ∃ t', t' = (⟨(turned t k d).toArray⟩ : ByteArray) := ⟨_, rfl⟩
      rw [← ht'] at hz hne ⊢
      have hz' : t'.size ≤ 1048576 := by omega
      clear hT ht' hz
      go_wp2_with fail
      refine (isum_all t' seed hs1 hz' _).mono ?_
      rintro e w8 ⟨rfl, rfl⟩
      go_wp2
      go_ret
      exact ⟨rfl, below_trans' hb1 hb7⟩
theorem fnSums_walk {w : World} (a0 : Option Addr) (len0 cap0 : Nat) (z0 : List Int) (h0 : IsRow .u8 w a0 len0 cap0 z0) (a1 : Option Addr) (len1 cap1 : Nat) (z1 : List Int) (h1 : IsRow .u8 w a1 len1 cap1 z1) :
    Calls Try.prog 3 #[.slice a0 len0 cap0, .slice a1 len1 cap1] w fun e w' => e = .returned (.bool true) ∧ Below w.heap.size w w' := by
  have m0 := h0.le
  have m1 := h1.le
  unfold maxLen at m0 m1
  by_cases hl0 : len0 ≤ 1048576
  · by_cases hl1 : len1 ≤ 1048576
    · exact fnSums_small a0 len0 cap0 a1 len1 cap1 w (codeOk_of w a0 len0 cap0 z0 h0 hl0) m0.1 (codeOk_of w a1 len1 cap1 z1 h1 hl1)
    · have d0 : decide ((1048576 : Int) < (len0 : Int)) = false := by simp; omega
      have d1 : decide ((1048576 : Int) < (len1 : Int)) = true := by simp; omega
      go_enter Try.func3, Try.ntmps3
      go_wp2
      go_ret
      exact ⟨rfl, Below.refl _ _⟩
  · have d0 : decide ((1048576 : Int) < (len0 : Int)) = true := by simp; omega
    go_enter Try.func3, Try.ntmps3
    go_wp2
    go_ret
    exact ⟨rfl, Below.refl _ _⟩
end Go.Proofs.Ytjeahllaajpddaa
