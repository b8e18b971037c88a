import Derived.Test.YtngkiokibldfjaaGreatDoorPD
import Derived.Test.YtngkiokibldfjaaGreatDoorPD
import Derived.Lib.Strings
import Derived.Test.YtngkiokibldfjaaGreatDoorPE
namespace Go.Proofs.YtngkiokibldfjaaGreatDoor
open Go.RowKit
theorem drop_step (T : List UInt8) (m : Nat) (h : m < T.length) : valL (T.drop m) = T[m].toNat % 128 + 128 * valL (T.drop (m + 1)) := by
  rw [List.drop_eq_getElem_cons h]; rfl
theorem drop_bd (T : List UInt8) (m : Nat) (h9 : T.length ≤ 9) (hm : 0 < m) : valL (T.drop m) < 72057594037927936 := by
  refine Nat.lt_of_lt_of_le (valL_lt _) ?_
  have : (T.drop m).length ≤ 8 := by simp; omega
  exact Nat.pow_le_pow_right (n := 128) (by decide) this
theorem val_bd (T : List UInt8) (h9 : T.length ≤ 9) : valL T < 9223372036854775808 := by
  exact Nat.lt_of_lt_of_le (valL_lt _) (Nat.pow_le_pow_right (n := 128) (by decide) h9)

theorem ext_rest (s : ByteArray) (a k : Nat) (h : a + k < s.size) : (s.extract a (a + (k + 1))).data.toList = (restL s a).take (k + 1) := by
  rw [Lib.extract_data, restL, if_neg (by omega), Int.toNat_natCast, show a + (k + 1) - a = k + 1 by omega]
theorem data_eq (t : ByteArray) (T : List UInt8) (h : t.data.toList = T) (j : Nat) (hj : j < t.size) (hj' : j < T.length) : t[j] = T[j] := by
  subst h; rfl
/-- What GetNum comes to at k + 1 bytes, all but the last with their highest bit. -/
theorem get_at (s : ByteArray) (a k : Nat) (hin : a + k < s.size) (h9 : k < 9) (hall : ∀ j, j < k → ∃ x, (restL s a)[j]? = some x ∧ 128 ≤ x.toNat) (hb : s[a + k].toNat < 128) (t : ByteArray) (ht : t.data.toList = (restL s a).take (k + 1)) :
    ((putNum ((valL ((restL s a).take (k + 1)) : Nat) : Int)).toList == t.toList) = true ∧ getNum s a = some (valL ((restL s a).take (k + 1)), k + 1) ∨
    ((putNum ((valL ((restL s a).take (k + 1)) : Nat) : Int)).toList == t.toList) = false ∧ getNum s a = none := by
  have hget : (restL s a)[k]? = some s[a + k] := by rw [rest_get s a k (by omega), data_get s (a + k) hin]
  have hlen : ((restL s a).take (k + 1)).length = k + 1 := by rw [List.length_take, rest_len s a (by omega)]; omega
  have hget2 : ((restL s a).take (k + 1))[k]? = some s[a + k] := by rw [List.getElem?_take_of_lt (by omega)]; exact hget
  have hF := form_of ((restL s a).take (k + 1)) k hlen (fun j hj => by rw [List.getElem?_take_of_lt (by omega)]; exact hall j hj) ⟨_, hget2, hb⟩
  have hlast : lastB ((restL s a).take (k + 1)) = s[a + k] := by have := hF.2; rw [hget2] at this; exact (Option.some.inj this).symm
  have hiff := put_iff _ hF.1 (by omega)
  have hcnt := cnt_hit 9 k _ _ hall hget hb h9
  have hD : (restL s a).getD k 0 = s[a + k] := by rw [List.getD_eq_getElem?_getD, hget]; rfl
  have hG := getNum_some s a (k + 1) hcnt
  rw [show k + 1 - 1 = k by omega, hD] at hG
  have hP : putNum ((valL ((restL s a).take (k + 1)) : Nat) : Int) = strOfNums (putL 8 (valL ((restL s a).take (k + 1)))) := by
    unfold putNum; rw [if_neg (by omega), Int.toNat_natCast]
  rw [hlen, hlast] at hiff
  have hcond : (k + 1 = 1 ∨ s[a + k] ≠ 0) ↔ ((putNum ((valL ((restL s a).take (k + 1)) : Nat) : Int)).toList == t.toList) = true := by
    rw [← hiff, beq_iff_eq, hP]
    have e1 : (strOfNums (putL 8 (valL ((restL s a).take (k + 1))))).toList = (putL 8 (valL ((restL s a).take (k + 1)))).map fun n => UInt8.ofNat n.toNat := by
      rw [ByteArray.toList_eq]; exact strOfNums_data _
    have e2 : t.toList = (restL s a).take (k + 1) := by rw [ByteArray.toList_eq]; exact ht
    rw [e1, e2]
    constructor
    · intro h; rw [h, ofNat_map]
    · intro h
      refine map_inj (putL_range 8 _ (Nat.lt_of_lt_of_le (valL_lt _) (Nat.pow_le_pow_right (by decide) (by omega)))) ?_ (by rw [h, ofNat_map])
      intro x hx
      obtain ⟨y, _, rfl⟩ := List.mem_map.1 hx
      have := y.toNat_lt
      omega
  by_cases hc : k + 1 = 1 ∨ s[a + k] ≠ 0
  · left; exact ⟨hcond.1 hc, by rw [hG, if_pos hc]⟩
  · right
    refine ⟨?_, by rw [hG, if_neg hc]⟩
    cases h : ((putNum ((valL ((restL s a).take (k + 1)) : Nat) : Int)).toList == t.toList)
    · rfl
    · exact (hc (hcond.2 h)).elim

set_option maxRecDepth 20000 in
set_option maxHeartbeats 2000000 in
theorem sgetNum_in (s : ByteArray) (a : Nat) (hs : s.size ≤ 1048576) (ha : a < s.size) (w : World) :
    Calls Tryz.prog 97 #[.string s, .int .i64 a] w fun e w' => e = .returned (numV a (getNum s a)) ∧ Below w.heap.size w w' := by
  have d0 : decide ((a : Int) < 0) = false := by simp
  have d1 : decide ((s.size : Int) ≤ (a : Int)) = false := by simp; omega
  go_enter Tryz.func97, Tryz.ntmps97
  go_wp2
  go_loop [5] (fun n => ∃ k : Nat, k ≤ 9 ∧ n = .int .i64 (k + 1) ∧ (∀ j, j < k → ∃ x, (restL s a)[j]? = some x ∧ 128 ≤ x.toNat))
    (fun n => 10 - (intOf n).toNat)
  case atStart => exact ⟨0, by omega, by go_num, by intro j hj; omega⟩
  case round =>
    obtain ⟨k, hk, rfl, hall⟩ := hrel
    have HALL : Hid (∀ j, j < k → ∃ x, (restL s a)[j]? = some x ∧ 128 ≤ x.toNat) := hall
    clear hall
    by_cases h9 : k < 9
    · have b0 : decide ((k : Int) + 1 ≤ 9) = true := by simp; omega
      by_cases hin : a + k < s.size
      · have b1 : decide ((a : Int) + ((k : Int) + 1) ≤ (s.size : Int)) = true := by simp; omega
        obtain ⟨t, ht⟩ : ∃ t, t = s.extract a (a + (k + 1)) := ⟨_, rfl⟩
        have hT : t.data.toList = (restL s a).take (k + 1) := by rw [ht]; exact ext_rest s a k hin
        have hsz : t.size = k + 1 := by rw [ht, ByteArray.size_extract]; omega
        have hsl : ∀ wx, (Instr.slice 9 (.string s) (some (.int .i64 a)) (some (.int .i64 ((a : Int) + ((k : Int) + 1)))) none).run Tryz.prog wx = .ok (.string t) wx := by
          intro wx
          rw [run_slice_string_if _ _ _ _ _ _ _ Tryz.underlying9, if_pos (by omega), if_pos (by omega), ht]
          rw [show ((a : Int) + ((k : Int) + 1)).toNat = a + (k + 1) by omega, Int.toNat_natCast]
        have HG : Hid ((restL s a)[k]? = some s[a + k]) := by show _ = _; rw [rest_get s a k (by omega), data_get s (a + k) hin]
        have hlen : ((restL s a).take (k + 1)).length = k + 1 := by rw [List.length_take, rest_len s a (by omega)]; omega
        have htk : t[k] = s[a + k] := by
          rw [data_eq t _ hT k (by omega) (by omega)]
          have := HG.out
          rw [← List.getElem?_take_of_lt (show k < k + 1 by omega), List.getElem?_eq_getElem (by omega)] at this
          exact Option.some.inj this
        have HT : Hid (t.data.toList = (restL s a).take (k + 1)) := hT
        clear ht hT
        have i1 : (k : Int) < (t.size : Int) := by omega
        by_cases hb : s[a + k].toNat < 128
        · have HA := hid (get_at s a k hin h9 HALL.out hb t HT.out)
          obtain ⟨T, hTT⟩ : ∃ T, T = (restL s a).take (k + 1) := ⟨_, rfl⟩
          rw [← hTT] at HA HT hlen
          have HL : Hid (T.length = k + 1) := hlen
          have hvb := val_bd T (by omega)
          clear hTT hlen
          go_wp2_with fail
          go_loop [7, 8] (fun v i => ∃ m : Nat, m ≤ k + 1 ∧ i = .int .i64 ((m : Int) - 1) ∧ v = .int .i64 (valL (T.drop m))) (fun _ i => (intOf i + 1).toNat)
          case atStart => exact ⟨k + 1, by omega, by go_num, by rw [List.drop_of_length_le (by have := HL.out; omega)]; rfl⟩
          case round =>
            obtain ⟨m, hm, rfl, rfl⟩ := hrel
            by_cases hm0 : 0 < m
            · obtain ⟨j, rfl⟩ : ∃ j, m = j + 1 := ⟨m - 1, by omega⟩
              have hbd := drop_bd T (j + 1) (by have := HL.out; omega) (by omega)
              have hbyte : t[j].toNat < 256 := t[j].toNat_lt
              have HS : Hid (valL (T.drop j) = t[j].toNat % 128 + 128 * valL (T.drop (j + 1))) := by
                show _ = _
                have := HL.out
                rw [drop_step T j (by omega), data_eq t T HT.out j (by omega) (by omega)]
              have j1 : (j : Int) < (t.size : Int) := by omega
              go_wp2
              go_round
              case rel => exact ⟨j, by omega, by go_num, by rw [HS.out]; go_num⟩
              case measure => simp [intOf]
            · obtain rfl : m = 0 := by omega
              rw [List.drop_zero]
              go_wp2_with fail
              refine (sput_all _ (by omega) _).mono ?_
              rintro e w1 ⟨rfl, hb1⟩
              have hB1 : Blk w1 w.heap.size #[.bool false, .int .i64 0, .int .i64 0] 148 := (hb1.block _ (by simp)).trans (Blk.made w _ _)
              have q0 := hB1.cell 0 _ rfl
              have q1 := hB1.cell 1 _ rfl
              have q2 := hB1.cell 2 _ rfl
              have f0 := hB1.free 0
              have f1 := hB1.free 1
              have f2 := hB1.free 2
              have HB : Hid (Below w.heap.size w w1) := ((Below.refl _ _).alloc (Nat.le_refl _) _).trans (hb1.mono (by simp))
              clear hb1 hB1
              rcases HA.out with ⟨hne, hgn⟩ | ⟨hne, hgn⟩
              · have HN := hid hgn
                clear hgn
                go_wp2
                refine bodyPost_ret (v := .agg #[.bool true, .int .i64 (valL T : Nat), .int .i64 ((a : Int) + ((k : Int) + 1))]) (by simp [results, Tryz.results97, go_sem, q0, q1, q2]) rfl ⟨by rw [HN.out]; simp [numV], ?_⟩
                exact ((HB.out.setCell (Nat.le_refl _) _).setCell (Nat.le_refl _) _).setCell (Nat.le_refl _) _
              · have HN := hid hgn
                clear hgn
                go_wp2
                refine bodyPost_ret (v := .agg #[.bool false, .int .i64 0, .int .i64 0]) (by simp [results, Tryz.results97, go_sem, q0, q1, q2]) rfl ⟨by rw [HN.out]; rfl, ?_⟩
                exact ((HB.out.setCell (Nat.le_refl _) _).setCell (Nat.le_refl _) _).setCell (Nat.le_refl _) _
        · go_wp2_with fail
          go_round
          case rel =>
            refine ⟨k + 1, by omega, by go_num, ?_⟩
            intro j hj
            by_cases hjk : j < k
            · exact HALL.out j hjk
            · obtain rfl : j = k := by omega
              exact ⟨_, HG.out, by omega⟩
          case measure => simp [intOf]; omega
      · have b1 : decide ((a : Int) + ((k : Int) + 1) ≤ (s.size : Int)) = false := by simp; omega
        have HN : Hid (getNum s a = none) := getNum_none s a (cnt_end 9 k _ HALL.out (Or.inr ⟨by
          have h1 := rest_len s a (by omega)
          rcases Nat.lt_or_ge (restL s a).length k with h2 | h2
          · obtain ⟨x, hx, _⟩ := HALL.out _ h2
            rw [List.getElem?_eq_none (Nat.le_refl _)] at hx; cases hx
          · omega, by omega⟩))
        go_wp2
        refine bodyPost_ret (v := .agg #[.bool false, .int .i64 0, .int .i64 0]) (by simp [results, Tryz.results97, go_sem]) rfl ⟨by rw [HN.out]; rfl, ?_⟩
        exact (Below.refl _ _).alloc (Nat.le_refl _) _
    · have b0 : decide ((k : Int) + 1 ≤ 9) = false := by simp; omega
      have HN : Hid (getNum s a = none) := getNum_none s a (cnt_end 9 k _ HALL.out (Or.inl (by omega)))
      go_wp2
      refine bodyPost_ret (v := .agg #[.bool false, .int .i64 0, .int .i64 0]) (by simp [results, Tryz.results97, go_sem]) rfl ⟨by rw [HN.out]; rfl, ?_⟩
      exact (Below.refl _ _).alloc (Nat.le_refl _) _
end Go.Proofs.YtngkiokibldfjaaGreatDoor
namespace Go.Proofs.YtngkiokibldfjaaGreatDoor
open Go.RowKit
theorem getNum_out (s : ByteArray) (p : Int) (h : p < 0 ∨ s.size ≤ p) : getNum s p = none := by
  refine getNum_none s p ?_
  have : restL s p = [] := by
    unfold restL
    split
    · rfl
    · obtain ⟨a, rfl⟩ := Int.eq_ofNat_of_zero_le (show 0 ≤ p by omega)
      rw [List.drop_of_length_le (by simp; omega)]
  rw [this]; rfl
set_option maxHeartbeats 400000 in
theorem sgetNum_out (s : ByteArray) (p : Int) (h : p < 0 ∨ s.size ≤ p) (w : World) :
    Calls Tryz.prog 97 #[.string s, .int .i64 p] w fun e w' => e = .returned (numV p (getNum s p)) ∧ Below w.heap.size w w' := by
  have HN := hid (getNum_out s p h)
  by_cases h0 : p < 0
  · have d0 : decide (p < 0) = true := by simp; omega
    go_enter Tryz.func97, Tryz.ntmps97
    go_wp2
    refine bodyPost_ret (v := .agg #[.bool false, .int .i64 0, .int .i64 0]) (by simp [results, Tryz.results97, go_sem]) rfl ⟨by rw [HN.out]; rfl, ?_⟩
    exact (Below.refl _ _).alloc (Nat.le_refl _) _
  · have d0 : decide (p < 0) = false := by simp; omega
    have d1 : decide ((s.size : Int) ≤ p) = true := by simp; omega
    go_enter Tryz.func97, Tryz.ntmps97
    go_wp2
    refine bodyPost_ret (v := .agg #[.bool false, .int .i64 0, .int .i64 0]) (by simp [results, Tryz.results97, go_sem]) rfl ⟨by rw [HN.out]; rfl, ?_⟩
    exact (Below.refl _ _).alloc (Nat.le_refl _) _
theorem sgetNum_all (s : ByteArray) (p : Int) (hs : s.size ≤ 1048576) (w : World) :
    Calls Tryz.prog 97 #[.string s, .int .i64 p] w fun e w' => e = .returned (numV p (getNum s p)) ∧ Below w.heap.size w w' := by
  by_cases h : p < 0 ∨ s.size ≤ p
  · exact sgetNum_out s p h w
  · obtain ⟨a, rfl⟩ := Int.eq_ofNat_of_zero_le (show 0 ≤ p by omega)
    exact sgetNum_in s a hs (by omega) w
end Go.Proofs.YtngkiokibldfjaaGreatDoor
namespace Go.Proofs.YtngkiokibldfjaaGreatDoor
open Go.RowKit
theorem keep_new {X : World} {c : Array Value} {t : TypeId} {n i : Nat} {v : Value} (hn : n = X.heap.size) (hv : c[i]? = some v) : (X.alloc (.cells c t)).drew.cell? ⟨n, i, none⟩ = some v := by
  show (X.alloc (.cells c t)).cell? ⟨n, i, none⟩ = some v
  rw [World.cell?_alloc_at _ _ _ _ hn]; exact hv

set_option maxRecDepth 20000 in
set_option maxHeartbeats 1000000 in
theorem sgetText_all (s : ByteArray) (p : Int) (hs : s.size ≤ 1048576) (w : World) :
    Calls Tryz.prog 80 #[.string s, .int .i64 p] w fun e w' => e = .returned (textV (getText s p)) ∧ Below w.heap.size w w' := by
  go_enter Tryz.func80, Tryz.ntmps80
  go_wp2_with fail
  refine (sgetNum_all s p hs _).mono ?_
  rintro e w1 ⟨rfl, hb1⟩
  have hz : w.heap.size < w1.heap.size := by have := hb1.size; simp at this; omega
  have hB1 : Blk w1 w.heap.size #[.bool false, .string ⟨#[]⟩, .int .i64 0] 133 := (hb1.block _ (by simp)).trans (Blk.made w _ _)
  have q0 := hB1.cell 0 _ rfl
  have q1 := hB1.cell 1 _ rfl
  have q2 := hB1.cell 2 _ rfl
  have f0 := hB1.free 0
  have f1 := hB1.free 1
  have f2 := hB1.free 2
  have HB : Hid (Below w.heap.size w w1) := ((Below.refl _ _).alloc (Nat.le_refl _) _).trans (hb1.mono (by simp))
  clear hb1 hB1
  cases hn : getNum s p with
  | none =>
    have HT : Hid (getText s p = none) := by show _ = _; unfold getText; rw [hn]
    clear hn
    simp only [numV]
    go_wp2
    refine bodyPost_ret (v := .agg #[.bool false, .string ⟨#[]⟩, .int .i64 0]) (by simp [results, Tryz.results80, go_sem, hz, q0, q1, q2]) rfl ⟨by rw [HT.out]; rfl, ?_⟩
    exact (((HB.out.setCell (Nat.le_refl _) _).setCell (Nat.le_refl _) _).setCell (Nat.le_refl _) _).alloc (by simp; omega) _
  | some vn =>
    obtain ⟨v, n⟩ := vn
    obtain ⟨a, rfl, han, _, _, hv⟩ := getNum_in s p v n hn
    have HT : Hid (getText s a = if 100000 < v ∨ (s.size : Int) - ((a : Int) + n) < v then none else some (s.extract ((a : Int) + n).toNat ((a : Int) + n + v).toNat, (a : Int) + n + v)) := by
      show _ = _; unfold getText; rw [hn]
    clear hn
    simp only [numV]
    by_cases hbig : 100000 < v
    · have d0 : decide (100000 < (v : Int)) = true := by simp; omega
      have HT2 : Hid (getText s a = none) := by show _ = _; rw [HT.out, if_pos (Or.inl hbig)]
      go_wp2
      refine bodyPost_ret (v := .agg #[.bool false, .string ⟨#[]⟩, .int .i64 0]) (by simp [results, Tryz.results80, go_sem, hz, q0, q1, q2]) rfl ⟨by rw [HT2.out]; rfl, ?_⟩
      exact (((HB.out.setCell (Nat.le_refl _) _).setCell (Nat.le_refl _) _).setCell (Nat.le_refl _) _).alloc (by simp; omega) _
    · have d0 : decide (100000 < (v : Int)) = false := by simp; omega
      by_cases hfit : s.size - (a + n) < v
      · have d1 : decide ((s.size : Int) - ((a : Int) + (n : Int)) < (v : Int)) = true := by simp; omega
        have HT2 : Hid (getText s a = none) := by show _ = _; rw [HT.out, if_pos (Or.inr (by omega))]
        go_wp2
        refine bodyPost_ret (v := .agg #[.bool false, .string ⟨#[]⟩, .int .i64 0]) (by simp [results, Tryz.results80, go_sem, hz, q0, q1, q2]) rfl ⟨by rw [HT2.out]; rfl, ?_⟩
        exact (((HB.out.setCell (Nat.le_refl _) _).setCell (Nat.le_refl _) _).setCell (Nat.le_refl _) _).alloc (by simp; omega) _
      · have d1 : decide ((s.size : Int) - ((a : Int) + (n : Int)) < (v : Int)) = false := by simp; omega
        have HT2 : Hid (getText s a = some (s.extract (a + n) (a + n + v), (a : Int) + n + v)) := by
          show _ = _
          rw [HT.out, if_neg (by omega), show ((a : Int) + n).toNat = a + n by omega, show ((a : Int) + n + v).toNat = a + n + v by omega]
        have hsl : ∀ wx, (Instr.slice 9 (.string s) (some (.int .i64 ((a : Int) + (n : Int)))) (some (.int .i64 ((a : Int) + (n : Int) + (v : Int)))) none).run Tryz.prog wx = .ok (.string (s.extract (a + n) (a + n + v))) wx := by
          intro wx
          rw [run_slice_string_if _ _ _ _ _ _ _ Tryz.underlying9, if_pos (by omega), if_pos (by omega)]
          rw [show ((a : Int) + (n : Int) + (v : Int)).toNat = a + n + v by omega, show ((a : Int) + (n : Int)).toNat = a + n by omega]
        have hwr : IntKind.i64.wrap ((a : Int) + (n : Int) + (v : Int)) = (a : Int) + (n : Int) + (v : Int) := by simp [IntKind.wrap, IntKind.bits, IntKind.signed]; omega
        go_wp2_with fail
        go_region_held3 (fun wx => wx.cell? ⟨w1.heap.size, 1, none⟩ = some (.int .i64 v) ∧ wx.cell? ⟨w1.heap.size, 2, none⟩ = some (.int .i64 ((a : Int) + (n : Int)))) (first | (go_keep; done) | exact ⟨keep_new (by simp) rfl, keep_new (by simp) rfl⟩) (fail)
        all_goals go_wp2
        refine bodyPost_ret (v := .agg #[.bool true, .string (s.extract (a + n) (a + n + v)), .int .i64 ((a : Int) + n + v)]) (by simp [results, Tryz.results80, go_sem, hz, q0, q1, q2]) rfl ⟨by rw [HT2.out]; rfl, ?_⟩
        exact ((((HB.out.setCell (Nat.le_refl _) _).setCell (Nat.le_refl _) _).setCell (Nat.le_refl _) _).alloc (by simp; omega) _).drew
end Go.Proofs.YtngkiokibldfjaaGreatDoor
namespace Go.Proofs.YtngkiokibldfjaaGreatDoor
open Go.RowKit
/-! The specification's GetRecord. -/
theorem span_200 (s : ByteArray) (p : Nat) : spanN s p 200 = (spanN s p 100000).bind fun x => if x.2 ≤ 200 then some x else none := by
  unfold spanN
  cases hg : getNum s (p : Nat) with
  | none => rfl
  | some vn =>
    obtain ⟨v, c⟩ := vn
    simp only
    by_cases h1 : v ≤ 100000 ∧ p + c + v ≤ s.size
    · rw [if_pos h1]
      simp only [Option.bind_some]
      by_cases h2 : v ≤ 200
      · rw [if_pos (by omega), if_pos h2]
      · rw [if_neg (by omega), if_neg h2]
    · rw [if_neg h1, if_neg (by omega)]; rfl
theorem getRec_no (s : ByteArray) (p : Int) (h : ¬ Marked s p) : getRec s p = none := by unfold getRec; rw [if_neg h]
def RecC (s : ByteArray) (a ka ks ba bs : Nat) : Prop := 1 ≤ ks ∧ ks ≤ 200 ∧ byteAt s (ka + ks) ≤ 1 ∧ ((byteAt s (ka + ks) == 1) = true → bs = 0) ∧ sumOf (s.extract a (ba + bs)) 5 = sum4 s (ba + bs)
instance (s : ByteArray) (a ka ks ba bs : Nat) : Decidable (RecC s a ka ks ba bs) := inferInstanceAs (Decidable (_ ∧ _ ∧ _ ∧ (_ → _) ∧ _))
theorem getRec_at (s : ByteArray) (a : Nat) (ha : a < s.size) (hm : byteAt s a = 231) : getRec s (a : Nat) =
    match spanN s (a + 1) 100000 with
    | none => none
    | some (ka, ks) => if s.size ≤ ka + ks then none else
      match spanN s (ka + ks + 1) 100000 with
      | none => none
      | some (ba, bs) => if s.size < ba + bs + 4 then none else if RecC s a ka ks ba bs then some ⟨ka, ks, byteAt s (ka + ks) == 1, ba, bs, a, ba + bs + 4⟩ else none := by
  unfold getRec frmN headN
  rw [if_pos ⟨by omega, by omega, by simpa using hm⟩, Int.toNat_natCast, span_200]
  cases h1 : spanN s (a + 1) 100000 with
  | none => rfl
  | some x =>
    obtain ⟨ka, ks⟩ := x
    simp only [Option.bind_some]
    by_cases c1 : s.size ≤ ka + ks
    · rw [if_pos c1]
      by_cases c2 : ks ≤ 200
      · rw [if_pos c2]; simp only; rw [if_pos (Or.inr (Or.inl c1))]
      · rw [if_neg c2]
    · rw [if_neg c1]
      cases h2 : spanN s (ka + ks + 1) 100000 with
      | none =>
        by_cases c2 : ks ≤ 200
        · rw [if_pos c2]; simp only
          by_cases c3 : ks = 0 ∨ s.size ≤ ka + ks ∨ 1 < byteAt s (ka + ks)
          · rw [if_pos c3]
          · rw [if_neg c3]; simp only [h2]
        · rw [if_neg c2]
      | some y =>
        obtain ⟨ba, bs⟩ := y
        simp only
        have j1 := span_in s _ _ _ _ h2
        by_cases c4 : s.size < ba + bs + 4
        · rw [if_pos c4]
          by_cases c2 : ks ≤ 200
          · rw [if_pos c2]; simp only
            by_cases c3 : ks = 0 ∨ s.size ≤ ka + ks ∨ 1 < byteAt s (ka + ks)
            · rw [if_pos c3]
            · rw [if_neg c3]; simp only [h2]; rw [if_pos (Or.inr c4)]
          · rw [if_neg c2]
        · rw [if_neg c4]
          by_cases c : RecC s a ka ks ba bs
          · obtain ⟨o1, o2, o3, o4, o5⟩ := id c
            rw [if_pos c, if_pos o2]; simp only
            rw [if_neg (by omega)]; simp only [h2]
            rw [if_neg (by rintro (q | q); (exact absurd (o4 q.1) (by omega)); exact c4 q)]
            simp only
            rw [show ba + bs + 4 - 4 = ba + bs by omega, if_pos o5]
          · rw [if_neg c]
            by_cases c2 : ks ≤ 200
            · rw [if_pos c2]; simp only
              by_cases c3 : ks = 0 ∨ s.size ≤ ka + ks ∨ 1 < byteAt s (ka + ks)
              · rw [if_pos c3]
              · rw [if_neg c3]; simp only [h2]
                by_cases c5 : (byteAt s (ka + ks) == 1) = true ∧ 0 < bs
                · rw [if_pos (Or.inl c5)]
                · rw [if_neg (by rintro (q | q); (exact c5 q); exact c4 q)]
                  simp only
                  rw [show ba + bs + 4 - 4 = ba + bs by omega, if_neg]
                  intro o5
                  exact c ⟨by omega, c2, by omega, fun q => Classical.byContradiction fun r => c5 ⟨q, by omega⟩, o5⟩
            · rw [if_neg c2]
set_option maxRecDepth 20000 in
set_option maxHeartbeats 2000000 in
theorem sGetRec (s : ByteArray) (p : Int) (hs : s.size ≤ 1048576) (w : World) :
    Calls Tryz.prog 60 #[.string s, .int .i64 p] w fun e w' => e = .returned (recordV s (getRec s p)) ∧ Below w.heap.size w w' := by
  by_cases h0 : p < 0
  · have d0 : decide (p < 0) = true := by simp; omega
    have E : Hid (getRec s p = none) := getRec_no s p (fun q => by have := q.1; omega)
    go_enter Tryz.func60, Tryz.ntmps60
    go_wp2
    refine bodyPost_ret (v := .agg #[.string ⟨#[]⟩, .bool false, .string ⟨#[]⟩, .int .i64 0, .int .i64 0]) (by simp [results, Tryz.results60, go_sem]) rfl ⟨by rw [E.out]; rfl, ?_⟩
    exact (Below.refl _ _).alloc (Nat.le_refl _) _
  have d0 : decide (p < 0) = false := by simp; omega
  by_cases h1 : (s.size : Int) ≤ p
  · have d1 : decide ((s.size : Int) ≤ p) = true := by simp; omega
    have E : Hid (getRec s p = none) := getRec_no s p (fun q => by have := q.2.1; omega)
    go_enter Tryz.func60, Tryz.ntmps60
    go_wp2
    refine bodyPost_ret (v := .agg #[.string ⟨#[]⟩, .bool false, .string ⟨#[]⟩, .int .i64 0, .int .i64 0]) (by simp [results, Tryz.results60, go_sem]) rfl ⟨by rw [E.out]; rfl, ?_⟩
    exact (Below.refl _ _).alloc (Nat.le_refl _) _
  obtain ⟨a, rfl⟩ := Int.eq_ofNat_of_zero_le (show 0 ≤ p by omega)
  have d1 : decide ((s.size : Int) ≤ (a : Int)) = false := by simp; omega
  have ha : a < s.size := by omega
  have i0 : (0 : Int) ≤ (a : Int) := by omega
  have i1 : (a : Int) < (s.size : Int) := by omega
  by_cases hm : byteAt s a = 231
  case neg =>
    have d2 : ((s[a].toNat : Int) != 231) = true := by rw [byteAt_get s a ha] at hm; simp; omega
    have E : Hid (getRec s (a : Nat) = none) := getRec_no s _ (fun q => hm (by simpa using q.2.2))
    clear hm
    go_enter Tryz.func60, Tryz.ntmps60
    go_wp2
    refine bodyPost_ret (v := .agg #[.string ⟨#[]⟩, .bool false, .string ⟨#[]⟩, .int .i64 0, .int .i64 0]) (by simp [results, Tryz.results60, go_sem]) rfl ⟨by rw [E.out]; rfl, ?_⟩
    exact (Below.refl _ _).alloc (Nat.le_refl _) _
  have d2 : ((s[a].toNat : Int) != 231) = false := by rw [byteAt_get s a ha] at hm; simp; omega
  have G1 := fun w => hid (sgetText_all s ((a + 1 : Nat) : Int) hs w)
  have a1 : IntKind.i64.wrap ((a : Int) + 1) = ((a + 1 : Nat) : Int) := by simp [IntKind.wrap, IntKind.bits, IntKind.signed]; omega
  have EA := hid (getRec_at s a ha hm)
  rw [span_text] at G1
  cases h1 : spanN s (a + 1) 100000 with
  | none =>
    rw [h1] at G1 EA
    have E : Hid (getRec s (a : Nat) = none) := EA.out
    clear hm h1 EA
    go_enter Tryz.func60, Tryz.ntmps60
    go_wp2_with fail
    refine (G1 _).out.mono ?_
    rintro e w1 ⟨rfl, hb1⟩
    have hz : w.heap.size < w1.heap.size := by have := hb1.size; simp at this; omega
    have hB1 : Blk w1 w.heap.size #[.string ⟨#[]⟩, .bool false, .string ⟨#[]⟩, .int .i64 0, .int .i64 0] 44 := (hb1.block _ (by simp)).trans (Blk.made w _ _)
    have HB : Hid (Below w.heap.size w w1) := ((Below.refl _ _).alloc (Nat.le_refl _) _).trans (hb1.mono (by simp))
    clear hb1
    have q0 := hB1.cell 0 _ rfl
    have f0 := hB1.free 0
    have q1 := hB1.cell 1 _ rfl
    have f1 := hB1.free 1
    have q2 := hB1.cell 2 _ rfl
    have f2 := hB1.free 2
    have q3 := hB1.cell 3 _ rfl
    have f3 := hB1.free 3
    have q4 := hB1.cell 4 _ rfl
    have f4 := hB1.free 4
    simp only [textV, Option.map_none]
    go_wp2
    refine bodyPost_ret (v := .agg #[.string ⟨#[]⟩, .bool false, .string ⟨#[]⟩, .int .i64 0, .int .i64 0]) (by simp [results, Tryz.results60, go_sem, hz, q0, q1, q2, q3, q4]) rfl ⟨by rw [E.out]; rfl, ?_⟩
    exact ((((((HB.out).setCell (Nat.le_refl _) _).setCell (Nat.le_refl _) _).setCell (Nat.le_refl _) _).setCell (Nat.le_refl _) _).setCell (Nat.le_refl _) _).alloc (by simp; omega) _
  | some x =>
    obtain ⟨ka, ks⟩ := x
    rw [h1] at G1 EA
    simp only [Option.map_some, textV] at G1
    have EA : Hid (getRec s (a : Nat) = if s.size ≤ ka + ks then none else
      match spanN s (ka + ks + 1) 100000 with
      | none => none
      | some (ba, bs) => if s.size < ba + bs + 4 then none else if RecC s a ka ks ba bs then some ⟨ka, ks, byteAt s (ka + ks) == 1, ba, bs, a, ba + bs + 4⟩ else none) := EA.out
    have I1 := hid (span_in s _ _ _ _ h1)
    obtain ⟨q, hq⟩ : ∃ q, q = ka + ks := ⟨_, rfl⟩
    obtain ⟨kt, hkt⟩ : ∃ t, t = s.extract ka (ka + ks) := ⟨_, rfl⟩
    rw [← hkt, ← hq] at G1
    have HQ : Hid (q = ka + ks) := hq
    have HKT : Hid (kt = s.extract ka (ka + ks)) := hkt
    rw [← hq] at EA
    have H1 := hid h1
    have HM := hid hm
    clear hm h1 hq hkt
    by_cases c1 : s.size ≤ q
    · have E : Hid (getRec s (a : Nat) = none) := by show _ = _; rw [EA.out, if_pos c1]
      have d3 : decide ((s.size : Int) ≤ (q : Int)) = true := by simp; omega
      clear EA
      go_enter Tryz.func60, Tryz.ntmps60
      go_wp2_with fail
      refine (G1 _).out.mono ?_
      rintro e w1 ⟨rfl, hb1⟩
      have hz : w.heap.size < w1.heap.size := by have := hb1.size; simp at this; omega
      have hB1 : Blk w1 w.heap.size #[.string ⟨#[]⟩, .bool false, .string ⟨#[]⟩, .int .i64 0, .int .i64 0] 44 := (hb1.block _ (by simp)).trans (Blk.made w _ _)
      have HB : Hid (Below w.heap.size w w1) := ((Below.refl _ _).alloc (Nat.le_refl _) _).trans (hb1.mono (by simp))
      clear hb1
      have q0 := hB1.cell 0 _ rfl
      have f0 := hB1.free 0
      have q1 := hB1.cell 1 _ rfl
      have f1 := hB1.free 1
      have q2 := hB1.cell 2 _ rfl
      have f2 := hB1.free 2
      have q3 := hB1.cell 3 _ rfl
      have f3 := hB1.free 3
      have q4 := hB1.cell 4 _ rfl
      have f4 := hB1.free 4
      go_wp2
      refine bodyPost_ret (v := .agg #[.string ⟨#[]⟩, .bool false, .string ⟨#[]⟩, .int .i64 0, .int .i64 0]) (by simp [results, Tryz.results60, go_sem, hz, q0, q1, q2, q3, q4]) rfl ⟨by rw [E.out]; rfl, ?_⟩
      exact ((((((HB.out).setCell (Nat.le_refl _) _).setCell (Nat.le_refl _) _).setCell (Nat.le_refl _) _).setCell (Nat.le_refl _) _).setCell (Nat.le_refl _) _).alloc (by simp; omega) _
    have EA : Hid (getRec s (a : Nat) = match spanN s (q + 1) 100000 with
      | none => none
      | some (ba, bs) => if s.size < ba + bs + 4 then none else if RecC s a ka ks ba bs then some ⟨ka, ks, byteAt s q == 1, ba, bs, a, ba + bs + 4⟩ else none) := by show _ = _; rw [EA.out, if_neg c1]
    have d3 : decide ((s.size : Int) ≤ (q : Int)) = false := by simp; omega
    have a2 : IntKind.i64.wrap ((q : Int) + 1) = ((q + 1 : Nat) : Int) := by simp [IntKind.wrap, IntKind.bits, IntKind.signed]; omega
    have G2 := fun w => hid (sgetText_all s ((q + 1 : Nat) : Int) hs w)
    rw [span_text] at G2
    go_enter Tryz.func60, Tryz.ntmps60
    go_wp2_with fail
    refine (G1 _).out.mono ?_
    rintro e w1 ⟨rfl, hb1⟩
    have hz : w.heap.size < w1.heap.size := by have := hb1.size; simp at this; omega
    have hB1 : Blk w1 w.heap.size #[.string ⟨#[]⟩, .bool false, .string ⟨#[]⟩, .int .i64 0, .int .i64 0] 44 := (hb1.block _ (by simp)).trans (Blk.made w _ _)
    have HB : Hid (Below w.heap.size w w1) := ((Below.refl _ _).alloc (Nat.le_refl _) _).trans (hb1.mono (by simp))
    clear hb1
    go_wp2_with fail
    refine (G2 _).out.mono ?_
    rintro e w2 ⟨rfl, hb2⟩
    have hzk : w1.heap.size < w2.heap.size := by have := hb2.size; simp at this; omega
    have hB2 : Blk w2 w.heap.size #[.string ⟨#[]⟩, .bool false, .string ⟨#[]⟩, .int .i64 0, .int .i64 0] 44 := (hb2.block _ (by simp; omega)).trans (hB1.past hz _)
    have hK2 : Blk w2 w1.heap.size #[.bool true, .string kt, .int .i64 q] 133 := (hb2.block _ (by simp)).trans (Blk.made w1 _ _)
    have HB2 : Hid (Below w.heap.size w w2) := (HB.out.alloc (by omega) _).trans (hb2.mono (by simp; omega))
    have hz2 : w.heap.size < w2.heap.size := by omega
    clear hb2 hB1 HB
    have q0 := hB2.cell 0 _ rfl
    have f0 := hB2.free 0
    have q1 := hB2.cell 1 _ rfl
    have f1 := hB2.free 1
    have q2 := hB2.cell 2 _ rfl
    have f2 := hB2.free 2
    have q3 := hB2.cell 3 _ rfl
    have f3 := hB2.free 3
    have q4 := hB2.cell 4 _ rfl
    have f4 := hB2.free 4
    have k0 := hK2.cell 0 _ rfl
    have k1 := hK2.cell 1 _ rfl
    have k2 := hK2.cell 2 _ rfl
    cases h2 : spanN s (q + 1) 100000 with
    | none =>
      rw [h2] at EA
      have E : Hid (getRec s (a : Nat) = none) := EA.out
      clear h2 EA
      simp only [textV, Option.map_none]
      go_wp2
      refine bodyPost_ret (v := .agg #[.string ⟨#[]⟩, .bool false, .string ⟨#[]⟩, .int .i64 0, .int .i64 0]) (by simp [results, Tryz.results60, go_sem, hz2, q0, q1, q2, q3, q4]) rfl ⟨by rw [E.out]; rfl, ?_⟩
      exact ((((((HB2.out).setCell (Nat.le_refl _) _).setCell (Nat.le_refl _) _).setCell (Nat.le_refl _) _).setCell (Nat.le_refl _) _).setCell (Nat.le_refl _) _).alloc (by simp; omega) _
    | some y =>
      obtain ⟨ba, bs⟩ := y
      rw [h2] at EA
      simp only [Option.map_some, textV]
      have EA : Hid (getRec s (a : Nat) = if s.size < ba + bs + 4 then none else if RecC s a ka ks ba bs then some ⟨ka, ks, byteAt s q == 1, ba, bs, a, ba + bs + 4⟩ else none) := EA.out
      have I2 := hid (span_in s _ _ _ _ h2)
      obtain ⟨e', he⟩ : ∃ q, q = ba + bs := ⟨_, rfl⟩
      obtain ⟨dt, hdt⟩ : ∃ t, t = s.extract ba (ba + bs) := ⟨_, rfl⟩
      rw [← hdt, ← he]
      rw [← he] at EA
      have HE : Hid (e' = ba + bs) := he
      have HDT : Hid (dt = s.extract ba (ba + bs)) := hdt
      have H2 := hid h2
      have he2 : e' ≤ s.size := by have := I2.out.2.1; omega
      clear h2 he hdt
      have a3 : IntKind.i64.wrap ((e' : Int) + 4) = (e' : Int) + 4 := by simp [IntKind.wrap, IntKind.bits, IntKind.signed]; omega
      by_cases c4 : s.size < e' + 4
      · have E : Hid (getRec s (a : Nat) = none) := by show _ = _; rw [EA.out, if_pos c4]
        have d4 : decide ((s.size : Int) < (e' : Int) + 4) = true := by simp; omega
        clear EA
        go_wp2
        refine bodyPost_ret (v := .agg #[.string ⟨#[]⟩, .bool false, .string ⟨#[]⟩, .int .i64 0, .int .i64 0]) (by simp [results, Tryz.results60, go_sem, hz2, q0, q1, q2, q3, q4]) rfl ⟨by rw [E.out]; rfl, ?_⟩
        exact ((((((HB2.out).setCell (Nat.le_refl _) _).setCell (Nat.le_refl _) _).setCell (Nat.le_refl _) _).setCell (Nat.le_refl _) _).setCell (Nat.le_refl _) _).alloc (by simp; omega) _
      have EA : Hid (getRec s (a : Nat) = if RecC s a ka ks ba bs then some ⟨ka, ks, byteAt s q == 1, ba, bs, a, e' + 4⟩ else none) := by show _ = _; rw [EA.out, if_neg c4]
      have d4 : decide ((s.size : Int) < (e' : Int) + 4) = false := by simp; omega
      have hq : q < s.size := by omega
      have j0 : (0 : Int) ≤ (q : Int) := by omega
      have j1 : (q : Int) < (s.size : Int) := by omega
      have bq : (byteAt s q == 1) = (((s[q].toNat : Nat) : Int) == 1) := by
        rw [byteAt_get s q hq, Bool.eq_iff_iff]; simp only [beq_iff_eq]; omega
      obtain ⟨g, hg⟩ : ∃ g, g = (((s[q].toNat : Nat) : Int) == 1) := ⟨_, rfl⟩
      have kz : kt.size ≤ 1048576 := by rw [HKT.out]; have := I1.out.2.1; rw [ex_size s _ _ (by omega)]; omega
      have dz : dt.size ≤ 1048576 := by rw [HDT.out]; have := I2.out.2.1; rw [ex_size s _ _ (by omega)]; omega
      have PR := fun w => hid (sPutRec kt g dt kz dz w)
      have IFF : Hid ((RecOk kt g dt ∧ recV kt g dt = s.extract a (e' + 4)) ↔ RecC s a ka ks ba bs) := by
        have hQ := HQ.out
        have hE := HE.out
        have := rec_iff s a ka ks ba bs ha HM.out H1.out (by omega) (by rw [← hQ]; exact H2.out) (by omega) g (by rw [hg, ← bq, hQ])
        rw [← HKT.out, ← HDT.out, ← hE] at this
        show _ ↔ _
        unfold RecC
        rw [this, ← hE, show (byteAt s (ka + ks) == 1) = g by rw [hg, ← bq, hQ]]
      rw [bq] at EA
      rw [← hg] at EA
      have HG := hid hg
      clear hg bq
      go_wp2_with fail
      go_region_held3 (fun wx => (wx.cell? ⟨w1.heap.size, 1, none⟩ = some (.string kt) ∧ wx.cell? ⟨w1.heap.size, 2, none⟩ = some (.int .i64 q)) ∧ wx.cell? ⟨w2.heap.size, 1, none⟩ = some (.string dt) ∧ wx.cell? ⟨w2.heap.size, 2, none⟩ = some (.int .i64 e')) (first | (go_keep; done) | exact ⟨⟨by simp [hzk, k1], by simp [hzk, k2]⟩, keep_new (by simp) rfl, keep_new (by simp) rfl⟩ | trace_state) (fail)
      all_goals go_wp2_with fail
      all_goals (rw [← HG.out])
      all_goals (
        refine (PR _).out.mono ?_
        rintro e w3 ⟨rfl, hb3⟩
        have hz3 : w2.heap.size + 1 < w3.heap.size := by have := hb3.size; simp at this; omega
        have hB3 : Blk w3 w.heap.size #[.string ⟨#[]⟩, .bool false, .string ⟨#[]⟩, .int .i64 0, .int .i64 0] 44 := (hb3.block _ (by simp; omega)).trans ((hB2.past hz2 _).past (by simp; omega) _)
        have HR0 := Blk.made (w2.alloc (.cells #[.bool true, .string dt, .int .i64 e'] 133)) #[.string kt, .bool g, .string dt, .int .i64 a, .int .i64 ((e' : Int) + 4)] 44
        rw [World.size_alloc] at HR0
        have HR1 : Blk (((w2.alloc (.cells #[.bool true, .string dt, .int .i64 e'] 133)).alloc (.cells #[.string kt, .bool (((s[q].toNat : Nat) : Int) == 1), .string dt, .int .i64 a, .int .i64 ((e' : Int) + 4)] 44)).drew) (w2.heap.size + 1) #[.string kt, .bool g, .string dt, .int .i64 a, .int .i64 ((e' : Int) + 4)] 44 := by rw [← HG.out]; exact HR0
        have hR3 : Blk w3 (w2.heap.size + 1) #[.string kt, .bool g, .string dt, .int .i64 a, .int .i64 ((e' : Int) + 4)] 44 := (hb3.block _ (by simp)).trans (by first | exact HR1 | exact HR0)
        clear HR0 HR1
        have HB3 : Hid (Below w.heap.size w w3) := (((HB2.out.alloc (by omega) _).alloc (by simp; omega) _).drew).trans (hb3.mono (by simp; omega))
        have hz4 : w.heap.size < w3.heap.size := by omega
        clear hb3 hB2 HB2 q0 q1 q2 q3 q4 f0 f1 f2 f3 f4
        have q0 := hB3.cell 0 _ rfl
        have q1 := hB3.cell 1 _ rfl
        have q2 := hB3.cell 2 _ rfl
        have q3 := hB3.cell 3 _ rfl
        have q4 := hB3.cell 4 _ rfl
        have f0 := hB3.free 0
        have f1 := hB3.free 1
        have f2 := hB3.free 2
        have f3 := hB3.free 3
        have f4 := hB3.free 4
        have r0 := hR3.cell 0 _ rfl
        have r1 := hR3.cell 1 _ rfl
        have r2 := hR3.cell 2 _ rfl
        have r3 := hR3.cell 3 _ rfl
        have r4 := hR3.cell 4 _ rfl
        clear hB3 hR3
        have sl : ∀ wx, (Instr.slice 9 (.string s) (some (.int .i64 (a : Int))) (some (.int .i64 ((e' : Int) + 4))) none).run Tryz.prog wx = .ok (.string (s.extract a (e' + 4))) wx := by
          intro wx
          have := HE.out; have := HQ.out; have := I1.out.1; have := I2.out.1
          rw [run_slice_string_if _ _ _ _ _ _ _ Tryz.underlying9, if_pos (by omega), if_pos (by omega)]
          rw [show ((e' : Int) + 4).toNat = e' + 4 by omega, Int.toNat_natCast]
        by_cases hc : RecC s a ka ks ba bs
        · obtain ⟨hok, hv⟩ := IFF.out.2 hc
          have E : Hid (getRec s (a : Nat) = some ⟨ka, ks, g, ba, bs, a, e' + 4⟩) := by show _ = _; rw [EA.out, if_pos hc]
          have nz : (s.extract a (e' + 4)).toList.isEmpty = false := ba_some _ (by have := HE.out; have := HQ.out; have := I1.out.1; have := I2.out.1; rw [ex_size s _ _ (by omega)]; omega)
          obtain ⟨X, hX⟩ : ∃ X, X = s.extract a (e' + 4) := ⟨_, rfl⟩
          rw [← hX] at nz sl hv
          rw [hv]
          clear hv hok EA IFF hX
          go_wp2
          refine bodyPost_ret (v := .agg #[.string kt, .bool g, .string dt, .int .i64 a, .int .i64 ((e' : Int) + 4)]) (by simp [results, Tryz.results60, go_sem, q0, q1, q2, q3, q4]) rfl ⟨?_, ?_⟩
          · rw [E.out, HKT.out, HDT.out]; rfl
          · exact (((((HB3.out.setCell (Nat.le_refl _) _).setCell (Nat.le_refl _) _).setCell (Nat.le_refl _) _).setCell (Nat.le_refl _) _).setCell (Nat.le_refl _) _)
        · have E : Hid (getRec s (a : Nat) = none) := by show _ = _; rw [EA.out, if_neg hc]
          by_cases hok : RecOk kt g dt
          · have hv : recV kt g dt ≠ s.extract a (e' + 4) := fun q => hc (IFF.out.1 ⟨hok, q⟩)
            have nz : (recV kt g dt).toList.isEmpty = false := ba_some _ (by unfold recV; rw [if_pos hok, ByteArray.size_append, four_size]; omega)
            obtain ⟨X, hX⟩ : ∃ X, X = s.extract a (e' + 4) := ⟨_, rfl⟩
            obtain ⟨Y, hY⟩ : ∃ X, X = recV kt g dt := ⟨_, rfl⟩
            rw [← hX] at sl hv
            rw [← hY] at nz hv ⊢
            clear EA IFF hX hY hok hc
            have n1 : (Y.toList == X.toList) = false := beq_eq_false_iff_ne.2 fun q => hv (ba_ext (by rw [← ByteArray.toList_eq, ← ByteArray.toList_eq]; exact q))
            clear hv
            go_wp2
            refine bodyPost_ret (v := .agg #[.string ⟨#[]⟩, .bool false, .string ⟨#[]⟩, .int .i64 0, .int .i64 0]) (by simp [results, Tryz.results60, go_sem, q0, q1, q2, q3, q4]) rfl ⟨by rw [E.out]; rfl, ?_⟩
            exact (((((HB3.out.setCell (Nat.le_refl _) _).setCell (Nat.le_refl _) _).setCell (Nat.le_refl _) _).setCell (Nat.le_refl _) _).setCell (Nat.le_refl _) _)
          · have hv : recV kt g dt = ⟨#[]⟩ := if_neg hok
            rw [hv]
            clear EA IFF hv hok hc
            go_wp2
            refine bodyPost_ret (v := .agg #[.string ⟨#[]⟩, .bool false, .string ⟨#[]⟩, .int .i64 0, .int .i64 0]) (by simp [results, Tryz.results60, go_sem, q0, q1, q2, q3, q4]) rfl ⟨by rw [E.out]; rfl, ?_⟩
            exact (((((HB3.out.setCell (Nat.le_refl _) _).setCell (Nat.le_refl _) _).setCell (Nat.le_refl _) _).setCell (Nat.le_refl _) _).setCell (Nat.le_refl _) _)
      )
end Go.Proofs.YtngkiokibldfjaaGreatDoor
