import Derived.Test.YteeadhcfippilaaDoorCur
namespace Go.Proofs.YteeadhcfippilaaDoor
open Go.RowKit
theorem rest_get (s : ByteArray) (a k : Nat) (ha : a ≤ s.size) : (restL s a)[k]? = s.data.toList[a + k]? := by
  unfold restL
  rw [if_neg (by omega)]; simp
theorem rest_len (s : ByteArray) (a : Nat) (ha : a ≤ s.size) : (restL s a).length = s.size - a := by
  unfold restL
  rw [if_neg (by omega)]; simp
theorem rest_bad (s : ByteArray) (p : Int) (h : p < 0 ∨ s.size < p) : restL s p = [] := by unfold restL; rw [if_pos h]

theorem or_shift (v b k : Nat) (hk : k < 9) (hv : v < 128 ^ k) (hb : b < 256) :
    bits .or .u64 (v : Int) (IntKind.u64.wrap (IntKind.u64.wrap (bits .and .u8 (b : Int) 127) * 2 ^ (7 * k))) = ((v + 128 ^ k * (b % 128) : Nat) : Int) := by
  have e1 : bits .and .u8 (b : Int) 127 = ((b % 128 : Nat) : Int) := by
    rw [show (127 : Int) = ((127 : Nat) : Int) from rfl, u8_and_nat _ _ hb (by omega), nat_mask7]
  have e2 : ∀ n : Nat, n < 18446744073709551616 → IntKind.u64.wrap (n : Int) = (n : Int) := by
    intro n hn; simp [IntKind.wrap, IntKind.bits, IntKind.signed]; omega
  have e3 : (128 : Nat) ^ k = 2 ^ (7 * k) := by rw [Nat.pow_mul]
  have e5 : 2 ^ (7 * k) ≤ 2 ^ 56 := Nat.pow_le_pow_right (by decide) (by omega)
  have e6 : (b % 128) * 2 ^ (7 * k) ≤ 127 * 2 ^ 56 := Nat.mul_le_mul (by omega) e5
  have e4 : ((b % 128 : Nat) : Int) * 2 ^ (7 * k) = (((b % 128) * 2 ^ (7 * k) : Nat) : Int) := by simp
  rw [e1, e2 _ (by omega), e4, e2 _ (by omega), u64_or_nat _ _ (by omega) (by omega)]
  rw [Nat.or_comm, nat_join (7 * k) _ _ (Nat.mul_mod_left _ _) (by omega), e3, Nat.mul_comm (b % 128), Nat.add_comm]

theorem ret2_int {k : IntKind} {a b : Int} {v : Value} (h : a = b) : Ending.returned (.tuple #[.int k a, v]) = .returned (.tuple #[.int k b, v]) := by rw [h]

theorem take_next (l : List UInt8) (k : Nat) (b : UInt8) (h : l[k]? = some b) : valL (l.take (k + 1)) = valL (l.take k) + 128 ^ k * (b.toNat % 128) := by
  have hk : k < l.length := by
    rcases Nat.lt_or_ge k l.length with h1 | h1
    · exact h1
    · rw [List.getElem?_eq_none h1] at h; cases h
  have hb : l[k] = b := by rw [List.getElem?_eq_getElem hk] at h; exact Option.some.inj h
  rw [List.take_succ_eq_append_getElem hk, valL_snoc, hb, List.length_take, Nat.min_eq_left (by omega)]
theorem take_lt (l : List UInt8) (k : Nat) : valL (l.take k) < 128 ^ k := by
  refine Nat.lt_of_lt_of_le (valL_lt _) (Nat.pow_le_pow_right (by decide) (List.length_take_le _ _))
theorem data_get (s : ByteArray) (k : Nat) (h : k < s.size) : s.data.toList[k]? = some s[k] := by
  rw [List.getElem?_eq_getElem (by simpa using h)]; rfl
theorem getNum_none (s : ByteArray) (p : Int) (h : cnt 9 (restL s p) = none) : getNum s p = none := by unfold getNum; rw [h]
theorem getNum_some (s : ByteArray) (p : Int) (n : Nat) (h : cnt 9 (restL s p) = some n) : getNum s p = if n = 1 ∨ (restL s p).getD (n - 1) 0 ≠ 0 then some (valL ((restL s p).take n), n) else none := by unfold getNum; rw [h]
/-- A byte is there. -/
theorem left_pos (s : ByteArray) (p : Int) (k : Nat) (hall : ∀ j, j < k → ∃ x, (restL s p)[j]? = some x ∧ 128 ≤ x.toNat) (h : leftI s (p + k) ≠ 0) : ∃ a : Nat, p = a ∧ a + k < s.size := by
  have h1 : ¬ (p + k < 0 ∨ s.size < p + k) := by intro h2; exact h (by unfold leftI; rw [if_pos h2])
  have h2 : leftI s (p + k) = s.size - (p + k) := by unfold leftI; rw [if_neg h1]
  have h3 : 0 ≤ p := by
    rcases Int.lt_or_le p 0 with h4 | h4
    · by_cases hk : k = 0
      · omega
      · obtain ⟨x, hx, _⟩ := hall 0 (by omega)
        rw [rest_bad s p (Or.inl h4)] at hx; simp at hx
    · exact h4
  obtain ⟨a, rfl⟩ := Int.eq_ofNat_of_zero_le h3
  exact ⟨a, rfl, by omega⟩
/-- No byte is there. -/
theorem left_zero (s : ByteArray) (p : Int) (k : Nat) (hk : k ≤ 9) (hall : ∀ j, j < k → ∃ x, (restL s p)[j]? = some x ∧ 128 ≤ x.toNat) (h : leftI s (p + k) = 0) : cnt 9 (restL s p) = none := by
  refine cnt_end 9 k _ hall (Or.inr ⟨?_, hk⟩)
  have hge : k ≤ (restL s p).length := by
    rcases Nat.lt_or_ge (restL s p).length k with h1 | h1
    · obtain ⟨x, hx, _⟩ := hall _ h1
      rw [List.getElem?_eq_none (Nat.le_refl _)] at hx; cases hx
    · exact h1
  by_cases hp : p < 0 ∨ s.size < p
  · rw [rest_bad s p hp] at hge ⊢; simp at hge ⊢; omega
  · obtain ⟨a, rfl⟩ := Int.eq_ofNat_of_zero_le (show 0 ≤ p by omega)
    rw [rest_len s a (by omega)] at hge ⊢
    unfold leftI at h
    split at h <;> omega

set_option maxRecDepth 20000 in
set_option maxHeartbeats 1000000 in
theorem takeNum_all (c : Nat) (s : ByteArray) (p : Int) (w : World) (hc : CurAt w c s p) (hs : s.size ≤ 1048576) :
    Calls Tryd.prog 39 #[.pointer (some ⟨c, 0, none⟩)] w fun e w' => w.grownBy w' (some c) ∧
      ((∃ v n, getNum s p = some (v, n) ∧ e = .returned (.tuple #[.int .i64 (v : Nat), .bool true]) ∧ CurAt w' c s (p + (n : Nat))) ∨
       (∃ x, getNum s p = none ∧ e = .returned (.tuple #[.int .i64 x, .bool false]))) := by
  go_enter Tryd.func39, Tryd.ntmps39
  go_wp2
  go_loopw [4, 8] (fun n i wr => ∃ k : Nat, k ≤ 9 ∧ i = .int .i64 k ∧ n = .int .u64 (valL ((restL s p).take k)) ∧ (∀ j, j < k → ∃ x, (restL s p)[j]? = some x ∧ 128 ≤ x.toNat) ∧ CurAt wr c s (p + k) ∧ w.grownBy wr (some c))
    (fun _ i _ => 9 - (intOf i).toNat)
  case atStart => exact ⟨0, by omega, rfl, rfl, by intro j hj; omega, by simpa using hc, World.grownBy.refl _ _⟩
  case round =>
    obtain ⟨k, hk, rfl, rfl, hall, hcr, hgr⟩ := hrel
    have HALL : Hid (∀ j, j < k → ∃ x, (restL s p)[j]? = some x ∧ 128 ≤ x.toNat) := hall
    clear hall
    by_cases h9 : k < 9
    · by_cases hleft : leftI s (p + k) = 0
      · have HL : Hid (leftI s (p + k) = 0) := hleft
        clear hleft
        go_wp2_with fail
        refine (byte_no c s _ _ hcr hs HL.out).mono ?_
        rintro e w' ⟨rfl, rfl⟩
        go_wp2
        go_ret2
        refine ⟨hgr, Or.inr ⟨0, ?_, rfl⟩⟩
        exact getNum_none s p (left_zero s p k hk HALL.out HL.out)
      · obtain ⟨a, rfl, hak⟩ := left_pos s p k HALL.out hleft
        clear hleft
        have hcr' : CurAt wr c s ((a + k : Nat) : Int) := by simpa using hcr
        clear hcr
        have hget : (restL s a)[k]? = some s[a + k] := by rw [rest_get s a k (by omega), data_get s (a + k) hak]
        have hb256 : s[a + k].toNat < 256 := s[a + k].toNat_lt
        have HV : Hid (bits .or .u64 (↑(valL ((restL s a).take k)) : Int) (IntKind.u64.wrap (IntKind.u64.wrap (bits .and .u8 (↑s[a + k].toNat) 127) * 2 ^ (7 * k))) = ((valL ((restL s a).take (k + 1)) : Nat) : Int)) := by
          show _ = _; rw [or_shift _ _ k h9 (take_lt _ k) hb256, take_next _ k _ hget]
        have HLT : Hid (valL ((restL s a).take (k + 1)) < 128 ^ 9) := Nat.lt_of_lt_of_le (take_lt _ (k + 1)) (Nat.pow_le_pow_right (by decide) (by omega))
        have HW : Hid (wrap64 (bits .or .u64 (↑(valL ((restL s a).take k)) : Int) (IntKind.u64.wrap (IntKind.u64.wrap (bits .and .u8 (↑s[a + k].toNat) 127) * 2 ^ (7 * k)))) = ((valL ((restL s a).take (k + 1)) : Nat) : Int)) := by
          have := HLT.out
          show _ = _; rw [HV.out]; exact IntWalk.wrap64_in _ ⟨by omega, by omega⟩
        have HG : Hid ((restL s a)[k]? = some s[a + k]) := hget
        clear hget
        go_wp2_with fail
        refine (byte_yes c s (a + k) _ hcr' hs hak).mono ?_
        rintro e w1 ⟨rfl, hc1, hg1⟩
        have hgw := grown_trans hgr hg1
        by_cases hb : s[a + k].toNat < 128
        · have HC : Hid (cnt 9 (restL s a) = some (k + 1)) := cnt_hit 9 k _ _ HALL.out HG.out hb h9
          have HD : Hid ((restL s a).getD k 0 = s[a + k]) := by rw [List.getD_eq_getElem?_getD, HG.out]; rfl
          by_cases hz : s[a + k].toNat = 0
          · have z1 : ((s[a + k].toNat : Int) != 0) = false := by simp [hz]
            by_cases hk0 : k = 0
            · have z2 : ((k : Int) == 0) = true := by simp [hk0]
              have HK : Hid (k = 0) := hk0
              have HZ : Hid (s[a + k].toNat = 0) := hz
              clear hz hk0
              go_wp2
              go_ret2
              refine ⟨hgw, Or.inl ⟨valL ((restL s a).take (k + 1)), k + 1, ?_, ?_, by simpa [Int.add_assoc] using hc1⟩⟩
              · rw [getNum_some s a (k + 1) HC.out, if_pos (Or.inl (by have := HK.out; omega))]
              · exact ret2_int HW.out
            · have z2 : ((k : Int) == 0) = false := by simp [hk0]
              have HK : Hid (k ≠ 0) := hk0
              have HZ : Hid (s[a + k].toNat = 0) := hz
              clear hz hk0
              go_wp2
              go_ret2
              refine ⟨hgw, Or.inr ⟨_, ?_, rfl⟩⟩
              rw [getNum_some s a (k + 1) HC.out, if_neg]
              have := HK.out
              simp only [Nat.add_sub_cancel, HD.out]
              have hz2 := HZ.out
              intro h
              rcases h with h | h
              · omega
              · exact h (UInt8.toNat_inj.1 (by simpa using hz2))
          · have z1 : ((s[a + k].toNat : Int) != 0) = true := by simp [hz]
            have HZ : Hid (s[a + k].toNat ≠ 0) := hz
            clear hz
            go_wp2
            go_ret2
            refine ⟨hgw, Or.inl ⟨valL ((restL s a).take (k + 1)), k + 1, ?_, ?_, by simpa [Int.add_assoc] using hc1⟩⟩
            · rw [getNum_some s a (k + 1) HC.out, if_pos]
              right
              simp only [Nat.add_sub_cancel, HD.out]
              intro h
              exact HZ.out (by rw [h]; rfl)
            · exact ret2_int HW.out
        · go_wp2
          go_roundw
          case rel =>
            refine ⟨k + 1, by omega, by go_num, by rw [HV.out], ?_, by simpa [Int.add_assoc] using hc1, hgw⟩
            intro j hj
            by_cases hjk : j < k
            · exact HALL.out j hjk
            · obtain rfl : j = k := by omega
              exact ⟨_, HG.out, by omega⟩
          case measure => simp [intOf]; omega
    · go_wp2
      go_ret2
      refine ⟨hgr, Or.inr ⟨0, ?_, rfl⟩⟩
      exact getNum_none s p (cnt_end 9 k _ HALL.out (Or.inl (by omega)))
end Go.Proofs.YteeadhcfippilaaDoor
