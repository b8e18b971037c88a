import Derived.Test.YtccokbfbkeknnaaGetNum
import Derived.Test.YtccokbfbkeknnaaNumMath
import Derived.Lib.Strings
namespace Go.Proofs.Ytccokbfbkeknnaa
open Go.RowKit
theorem drop_step (T : List UInt8) (m : Nat) (h : m < T.length) : valL (T.drop m) = T[m].toNat % 128 + 128 * valL (T.drop (m + 1)) := by
  rw [List.drop_eq_getElem_cons h]; rfl
theorem drop_bd (T : List UInt8) (m : Nat) (h9 : T.length ≤ 9) (hm : 0 < m) : valL (T.drop m) < 72057594037927936 := by
  refine Nat.lt_of_lt_of_le (valL_lt _) ?_
  have : (T.drop m).length ≤ 8 := by simp; omega
  exact Nat.pow_le_pow_right (n := 128) (by decide) this
theorem val_bd (T : List UInt8) (h9 : T.length ≤ 9) : valL T < 9223372036854775808 := by
  exact Nat.lt_of_lt_of_le (valL_lt _) (Nat.pow_le_pow_right (n := 128) (by decide) h9)

theorem ext_rest (s : ByteArray) (a k : Nat) (h : a + k < s.size) : (s.extract a (a + (k + 1))).data.toList = (restL s a).take (k + 1) := by
  rw [Lib.extract_data, restL, if_neg (by omega), Int.toNat_natCast, show a + (k + 1) - a = k + 1 by omega]
theorem data_eq (t : ByteArray) (T : List UInt8) (h : t.data.toList = T) (j : Nat) (hj : j < t.size) (hj' : j < T.length) : t[j] = T[j] := by
  subst h; rfl
/-- What GetNum comes to at k + 1 bytes, all but the last with their highest bit. -/
theorem get_at (s : ByteArray) (a k : Nat) (hin : a + k < s.size) (h9 : k < 9) (hall : ∀ j, j < k → ∃ x, (restL s a)[j]? = some x ∧ 128 ≤ x.toNat) (hb : s[a + k].toNat < 128) (t : ByteArray) (ht : t.data.toList = (restL s a).take (k + 1)) :
    ((putNum ((valL ((restL s a).take (k + 1)) : Nat) : Int)).toList == t.toList) = true ∧ getNum s a = some (valL ((restL s a).take (k + 1)), k + 1) ∨
    ((putNum ((valL ((restL s a).take (k + 1)) : Nat) : Int)).toList == t.toList) = false ∧ getNum s a = none := by
  have hget : (restL s a)[k]? = some s[a + k] := by rw [rest_get s a k (by omega), data_get s (a + k) hin]
  have hlen : ((restL s a).take (k + 1)).length = k + 1 := by rw [List.length_take, rest_len s a (by omega)]; omega
  have hget2 : ((restL s a).take (k + 1))[k]? = some s[a + k] := by rw [List.getElem?_take_of_lt (by omega)]; exact hget
  have hF := form_of ((restL s a).take (k + 1)) k hlen (fun j hj => by rw [List.getElem?_take_of_lt (by omega)]; exact hall j hj) ⟨_, hget2, hb⟩
  have hlast : lastB ((restL s a).take (k + 1)) = s[a + k] := by have := hF.2; rw [hget2] at this; exact (Option.some.inj this).symm
  have hiff := put_iff _ hF.1 (by omega)
  have hcnt := cnt_hit 9 k _ _ hall hget hb h9
  have hD : (restL s a).getD k 0 = s[a + k] := by rw [List.getD_eq_getElem?_getD, hget]; rfl
  have hG := getNum_some s a (k + 1) hcnt
  rw [show k + 1 - 1 = k by omega, hD] at hG
  have hP : putNum ((valL ((restL s a).take (k + 1)) : Nat) : Int) = strOfNums (putL 8 (valL ((restL s a).take (k + 1)))) := by
    unfold putNum; rw [if_neg (by omega), Int.toNat_natCast]
  rw [hlen, hlast] at hiff
  have hcond : (k + 1 = 1 ∨ s[a + k] ≠ 0) ↔ ((putNum ((valL ((restL s a).take (k + 1)) : Nat) : Int)).toList == t.toList) = true := by
    rw [← hiff, beq_iff_eq, hP]
    have e1 : (strOfNums (putL 8 (valL ((restL s a).take (k + 1))))).toList = (putL 8 (valL ((restL s a).take (k + 1)))).map fun n => UInt8.ofNat n.toNat := by
      rw [ByteArray.toList_eq]; exact strOfNums_data _
    have e2 : t.toList = (restL s a).take (k + 1) := by rw [ByteArray.toList_eq]; exact ht
    rw [e1, e2]
    constructor
    · intro h; rw [h, ofNat_map]
    · intro h
      refine map_inj (putL_range 8 _ (Nat.lt_of_lt_of_le (valL_lt _) (Nat.pow_le_pow_right (by decide) (by omega)))) ?_ (by rw [h, ofNat_map])
      intro x hx
      obtain ⟨y, _, rfl⟩ := List.mem_map.1 hx
      have := y.toNat_lt
      omega
  by_cases hc : k + 1 = 1 ∨ s[a + k] ≠ 0
  · left; exact ⟨hcond.1 hc, by rw [hG, if_pos hc]⟩
  · right
    refine ⟨?_, by rw [hG, if_neg hc]⟩
    cases h : ((putNum ((valL ((restL s a).take (k + 1)) : Nat) : Int)).toList == t.toList)
    · rfl
    · exact (hc (hcond.2 h)).elim

set_option maxRecDepth 20000 in
set_option maxHeartbeats 2000000 in
theorem sgetNum_in (s : ByteArray) (a : Nat) (hs : s.size ≤ 1048576) (ha : a < s.size) (w : World) :
    Calls Try.prog 58 #[.string s, .int .i64 a] w fun e w' => e = .returned (numV a (getNum s a)) ∧ Below w.heap.size w w' := by
  have d0 : decide ((a : Int) < 0) = false := by simp
  have d1 : decide ((s.size : Int) ≤ (a : Int)) = false := by simp; omega
  go_enter Try.func58, Try.ntmps58
  go_wp2
  go_loop [5] (fun n => ∃ k : Nat, k ≤ 9 ∧ n = .int .i64 (k + 1) ∧ (∀ j, j < k → ∃ x, (restL s a)[j]? = some x ∧ 128 ≤ x.toNat))
    (fun n => 10 - (intOf n).toNat)
  case atStart => exact ⟨0, by omega, by go_num, by intro j hj; omega⟩
  case round =>
    obtain ⟨k, hk, rfl, hall⟩ := hrel
    have HALL : Hid (∀ j, j < k → ∃ x, (restL s a)[j]? = some x ∧ 128 ≤ x.toNat) := hall
    clear hall
    by_cases h9 : k < 9
    · have b0 : decide ((k : Int) + 1 ≤ 9) = true := by simp; omega
      by_cases hin : a + k < s.size
      · have b1 : decide ((a : Int) + ((k : Int) + 1) ≤ (s.size : Int)) = true := by simp; omega
        obtain ⟨t, ht⟩ : ∃ t, t = s.extract a (a + (k + 1)) := ⟨_, rfl⟩
        have hT : t.data.toList = (restL s a).take (k + 1) := by rw [ht]; exact ext_rest s a k hin
        have hsz : t.size = k + 1 := by rw [ht, ByteArray.size_extract]; omega
        have hsl : ∀ wx, (Instr.slice 9 (.string s) (some (.int .i64 a)) (some (.int .i64 ((a : Int) + ((k : Int) + 1)))) none).run Try.prog wx = .ok (.string t) wx := by
          intro wx
          rw [run_slice_string_if _ _ _ _ _ _ _ Try.underlying9, if_pos (by omega), if_pos (by omega), ht]
          rw [show ((a : Int) + ((k : Int) + 1)).toNat = a + (k + 1) by omega, Int.toNat_natCast]
        have HG : Hid ((restL s a)[k]? = some s[a + k]) := by show _ = _; rw [rest_get s a k (by omega), data_get s (a + k) hin]
        have hlen : ((restL s a).take (k + 1)).length = k + 1 := by rw [List.length_take, rest_len s a (by omega)]; omega
        have htk : t[k] = s[a + k] := by
          rw [data_eq t _ hT k (by omega) (by omega)]
          have := HG.out
          rw [← List.getElem?_take_of_lt (show k < k + 1 by omega), List.getElem?_eq_getElem (by omega)] at this
          exact Option.some.inj this
        have HT : Hid (t.data.toList = (restL s a).take (k + 1)) := hT
        clear ht hT
        have i1 : (k : Int) < (t.size : Int) := by omega
        by_cases hb : s[a + k].toNat < 128
        · have HA := hid (get_at s a k hin h9 HALL.out hb t HT.out)
          obtain ⟨T, hTT⟩ : ∃ T, T = (restL s a).take (k + 1) := ⟨_, rfl⟩
          rw [← hTT] at HA HT hlen
          have HL : Hid (T.length = k + 1) := hlen
          have hvb := val_bd T (by omega)
          clear hTT hlen
          go_wp2_with fail
          go_loop [7, 8] (fun v i => ∃ m : Nat, m ≤ k + 1 ∧ i = .int .i64 ((m : Int) - 1) ∧ v = .int .i64 (valL (T.drop m))) (fun _ i => (intOf i + 1).toNat)
          case atStart => exact ⟨k + 1, by omega, by go_num, by rw [List.drop_of_length_le (by have := HL.out; omega)]; rfl⟩
          case round =>
            obtain ⟨m, hm, rfl, rfl⟩ := hrel
            by_cases hm0 : 0 < m
            · obtain ⟨j, rfl⟩ : ∃ j, m = j + 1 := ⟨m - 1, by omega⟩
              have hbd := drop_bd T (j + 1) (by have := HL.out; omega) (by omega)
              have hbyte : t[j].toNat < 256 := t[j].toNat_lt
              have HS : Hid (valL (T.drop j) = t[j].toNat % 128 + 128 * valL (T.drop (j + 1))) := by
                show _ = _
                have := HL.out
                rw [drop_step T j (by omega), data_eq t T HT.out j (by omega) (by omega)]
              have j1 : (j : Int) < (t.size : Int) := by omega
              go_wp2
              go_round
              case rel => exact ⟨j, by omega, by go_num, by rw [HS.out]; go_num⟩
              case measure => simp [intOf]
            · obtain rfl : m = 0 := by omega
              rw [List.drop_zero]
              go_wp2_with fail
              refine (sput_all _ (by omega) _).mono ?_
              rintro e w1 ⟨rfl, hb1⟩
              have hB1 : Blk w1 w.heap.size #[.bool false, .int .i64 0, .int .i64 0] 73 := (hb1.block _ (by simp)).trans (Blk.made w _ _)
              have q0 := hB1.cell 0 _ rfl
              have q1 := hB1.cell 1 _ rfl
              have q2 := hB1.cell 2 _ rfl
              have f0 := hB1.free 0
              have f1 := hB1.free 1
              have f2 := hB1.free 2
              have HB : Hid (Below w.heap.size w w1) := ((Below.refl _ _).alloc (Nat.le_refl _) _).trans (hb1.mono (by simp))
              clear hb1 hB1
              rcases HA.out with ⟨hne, hgn⟩ | ⟨hne, hgn⟩
              · have HN := hid hgn
                clear hgn
                go_wp2
                refine bodyPost_ret (v := .agg #[.bool true, .int .i64 (valL T : Nat), .int .i64 ((a : Int) + ((k : Int) + 1))]) (by simp [results, Try.results58, go_sem, q0, q1, q2]) rfl ⟨by rw [HN.out]; simp [numV], ?_⟩
                exact ((HB.out.setCell (Nat.le_refl _) _).setCell (Nat.le_refl _) _).setCell (Nat.le_refl _) _
              · have HN := hid hgn
                clear hgn
                go_wp2
                refine bodyPost_ret (v := .agg #[.bool false, .int .i64 0, .int .i64 0]) (by simp [results, Try.results58, go_sem, q0, q1, q2]) rfl ⟨by rw [HN.out]; rfl, ?_⟩
                exact ((HB.out.setCell (Nat.le_refl _) _).setCell (Nat.le_refl _) _).setCell (Nat.le_refl _) _
        · go_wp2_with fail
          go_round
          case rel =>
            refine ⟨k + 1, by omega, by go_num, ?_⟩
            intro j hj
            by_cases hjk : j < k
            · exact HALL.out j hjk
            · obtain rfl : j = k := by omega
              exact ⟨_, HG.out, by omega⟩
          case measure => simp [intOf]; omega
      · have b1 : decide ((a : Int) + ((k : Int) + 1) ≤ (s.size : Int)) = false := by simp; omega
        have HN : Hid (getNum s a = none) := getNum_none s a (cnt_end 9 k _ HALL.out (Or.inr ⟨by
          have h1 := rest_len s a (by omega)
          rcases Nat.lt_or_ge (restL s a).length k with h2 | h2
          · obtain ⟨x, hx, _⟩ := HALL.out _ h2
            rw [List.getElem?_eq_none (Nat.le_refl _)] at hx; cases hx
          · omega, by omega⟩))
        go_wp2
        refine bodyPost_ret (v := .agg #[.bool false, .int .i64 0, .int .i64 0]) (by simp [results, Try.results58, go_sem]) rfl ⟨by rw [HN.out]; rfl, ?_⟩
        exact (Below.refl _ _).alloc (Nat.le_refl _) _
    · have b0 : decide ((k : Int) + 1 ≤ 9) = false := by simp; omega
      have HN : Hid (getNum s a = none) := getNum_none s a (cnt_end 9 k _ HALL.out (Or.inl (by omega)))
      go_wp2
      refine bodyPost_ret (v := .agg #[.bool false, .int .i64 0, .int .i64 0]) (by simp [results, Try.results58, go_sem]) rfl ⟨by rw [HN.out]; rfl, ?_⟩
      exact (Below.refl _ _).alloc (Nat.le_refl _) _
end Go.Proofs.Ytccokbfbkeknnaa
