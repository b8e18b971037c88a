import Derived.Test.YtccokbfbkeknnaaTakeNum
import Derived.Test.YtccokbfbkeknnaaGetNum
import Derived.Test.YtccokbfbkeknnaaClone
import Derived.Lib.Strings
namespace Go.Proofs.Ytccokbfbkeknnaa
open Go.RowKit
theorem CurAt.below {w w' : World} {c : Nat} {s : ByteArray} {p : Int} (h : CurAt w c s p) (hb : Below w.heap.size w w') : CurAt w' c s p := (hb.block c h.lt).trans h

set_option maxRecDepth 20000 in
set_option maxHeartbeats 1000000 in
theorem bytes_no (c : Nat) (s : ByteArray) (q n : Nat) (w : World) (hc : CurAt w c s q) (hs : s.size ≤ 1048576) (hq : q ≤ s.size) (h : s.size - q < n) :
    Calls Try.prog 61 #[.pointer (some ⟨c, 0, none⟩), .int .i64 n] w fun e w' => e = .returned (.tuple #[.string ByteArray.empty, .bool false]) ∧ w' = w := by
  have d0 : decide ((n : Int) < 0) = false := by simp
  have d1 : decide (leftI s q < (n : Int)) = true := by simp [leftI]; omega
  go_enter Try.func61, Try.ntmps61
  go_wp2_with fail
  refine (left_all c s q _ hc hs).mono ?_
  rintro e w' ⟨rfl, rfl⟩
  go_wp2
  go_ret2
  exact ⟨rfl, rfl⟩
set_option maxRecDepth 20000 in
set_option maxHeartbeats 1000000 in
theorem bytes_zero (c : Nat) (s : ByteArray) (q : Nat) (w : World) (hc : CurAt w c s q) (hs : s.size ≤ 1048576) (hq : q ≤ s.size) :
    Calls Try.prog 61 #[.pointer (some ⟨c, 0, none⟩), .int .i64 0] w fun e w' => e = .returned (.tuple #[.string ByteArray.empty, .bool true]) ∧ w' = w := by
  have d1 : decide (leftI s q < 0) = false := by simp [leftI]; omega
  go_enter Try.func61, Try.ntmps61
  go_wp2_with fail
  refine (left_all c s q _ hc hs).mono ?_
  rintro e w' ⟨rfl, rfl⟩
  go_wp2
  go_ret2
  exact ⟨rfl, rfl⟩
set_option maxRecDepth 20000 in
set_option maxHeartbeats 1000000 in
theorem bytes_yes (c : Nat) (s : ByteArray) (q n : Nat) (w : World) (hc : CurAt w c s q) (hs : s.size ≤ 1048576) (hn0 : 0 < n) (h : q + n ≤ s.size) :
    Calls Try.prog 61 #[.pointer (some ⟨c, 0, none⟩), .int .i64 n] w fun e w' => e = .returned (.tuple #[.string (s.extract q (q + n)), .bool true]) ∧ CurAt w' c s ((q + n : Nat) : Int) ∧ w.grownBy w' (some c) := by
  have d0 : decide ((n : Int) < 0) = false := by simp
  have d1 : decide (leftI s q < (n : Int)) = false := by simp [leftI]; omega
  have d2 : ((n : Int) == 0) = false := by simp; omega
  have hlt := hc.lt
  have h0 := hc.data
  have h1 := hc.place
  have hsl : ∀ wx, (Instr.slice 9 (.string s) (some (.int .i64 q)) (some (.int .i64 ((q : Int) + (n : Int)))) none).run Try.prog wx = .ok (.string (s.extract q (q + n))) wx := by
    intro wx
    rw [run_slice_string_if _ _ _ _ _ _ _ Try.underlying9, if_pos (by omega), if_pos (by omega)]
    rw [show ((q : Int) + (n : Int)).toNat = q + n by omega, Int.toNat_natCast]
  have hle : (s.extract q (q + n)).size ≤ 281474976710656 := by rw [ByteArray.size_extract]; omega
  have HLE := hid hle
  clear hle
  have hwr : IntKind.i64.wrap ((q : Int) + (n : Int)) = (q : Int) + (n : Int) := by simp [IntKind.wrap, IntKind.bits, IntKind.signed]; omega
  go_enter Try.func61, Try.ntmps61
  go_wp2_with fail
  refine (left_all c s q _ hc hs).mono ?_
  rintro e w' ⟨rfl, rfl⟩
  go_wp2_with fail
  go_region_held3 (fun wx => wx.cell? ⟨c, 0, none⟩ = some (.string s) ∧ wx.cell? ⟨c, 1, none⟩ = some (.int .i64 q)) (first | go_keep | (go_split_ands; refine ⟨(hb.cell (by simpa using hlt)).trans ?_, (hb.cell (by simpa using hlt)).trans ?_⟩ <;> go_keep))
    ((go_at_call 39; refine (clone_any _ _ HLE.out).mono ?_; rintro e w1 ⟨rfl, hb⟩))
  have hb' : Below w'.heap.size w' w1 := ((Below.refl w'.heap.size w').drew).trans hb
  have hc1 := hc.below hb'
  have HG : Hid (w'.grownBy w1 (some c)) := below_grown hb' _
  have p1 := hc1.place
  have f1 := hc1.free
  clear hb hb'
  go_wp2
  go_ret2
  exact ⟨rfl, by simpa using hc1.set (q + n), grown_trans HG.out grown_set⟩

theorem extract_none {s : ByteArray} (k : Nat) : s.extract k (k + 0) = ByteArray.empty := by
  have h : (s.extract k (k + 0)).data.toList = [] := by rw [Lib.extract_data]; simp
  apply ByteArray.ext
  exact Array.toList_inj.1 (by rw [h]; rfl)
/-- The text that begins at a place, and the place behind it. -/
def getText (s : ByteArray) (p : Int) : Option (ByteArray × Int) :=
  match getNum s p with
  | none => none
  | some (v, n) => if 100000 < v ∨ (s.size : Int) - (p + n) < v then none else some (s.extract (p + n).toNat (p + n + v).toNat, p + n + v)
theorem cnt_le : ∀ (f : Nat) (l : List UInt8) (n : Nat), cnt f l = some n → 1 ≤ n ∧ n ≤ f ∧ n ≤ l.length
  | 0, _, _, h => by simp [cnt] at h
  | f + 1, [], _, h => by simp [cnt] at h
  | f + 1, b :: l, n, h => by
    unfold cnt at h
    split at h
    · simp at h; subst h; simp
    · obtain ⟨m, hm, rfl⟩ := Option.map_eq_some_iff.1 h
      have := cnt_le f l m hm
      simp; omega
theorem getNum_in (s : ByteArray) (p : Int) (v n : Nat) (h : getNum s p = some (v, n)) : ∃ a : Nat, p = a ∧ a + n ≤ s.size ∧ 1 ≤ n ∧ n ≤ 9 ∧ v < 9223372036854775808 := by
  unfold getNum at h
  split at h
  · cases h
  · rename_i m hm
    have h1 := cnt_le 9 _ m hm
    split at h
    · have h2 := Option.some.inj h
      obtain ⟨rfl, rfl⟩ := Prod.mk.inj h2
      by_cases hp : p < 0 ∨ s.size < p
      · rw [rest_bad s p hp] at h1; simp at h1; omega
      · obtain ⟨a, rfl⟩ := Int.eq_ofNat_of_zero_le (show 0 ≤ p by omega)
        rw [rest_len s a (by omega)] at h1
        refine ⟨a, rfl, by omega, h1.1, h1.2.1, ?_⟩
        exact Nat.lt_of_lt_of_le (take_lt _ _) (Nat.pow_le_pow_right (n := 128) (by decide) h1.2.1)
    · cases h

set_option maxRecDepth 20000 in
set_option maxHeartbeats 1000000 in
theorem takeText_all (c : Nat) (s : ByteArray) (p : Int) (w : World) (hc : CurAt w c s p) (hs : s.size ≤ 1048576) :
    Calls Try.prog 59 #[.pointer (some ⟨c, 0, none⟩)] w fun e w' => w.grownBy w' (some c) ∧
      ((∃ t q, getText s p = some (t, q) ∧ e = .returned (.tuple #[.string t, .bool true]) ∧ CurAt w' c s q) ∨
       (getText s p = none ∧ e = .returned (.tuple #[.string ByteArray.empty, .bool false]))) := by
  go_enter Try.func59, Try.ntmps59
  go_wp2_with fail
  refine (takeNum_all c s p _ hc hs).mono ?_
  rintro e w1 ⟨hg, h⟩
  have HG := hid hg
  clear hg
  rcases h with ⟨v, n, hn, rfl, hc1⟩ | ⟨x, hn, rfl⟩
  · obtain ⟨a, rfl, han, _, _, hv⟩ := getNum_in s p v n hn
    have hc2 : CurAt w1 c s ((a + n : Nat) : Int) := by simpa using hc1
    have HT : Hid (getText s a = if 100000 < v ∨ (s.size : Int) - ((a : Int) + n) < v then none else some (s.extract ((a : Int) + n).toNat ((a : Int) + n + v).toNat, (a : Int) + n + v)) := by
      show _ = _; unfold getText; rw [hn]
    clear hn hc1
    by_cases hbig : 100000 < v
    · have d0 : decide (100000 < (v : Int)) = true := by simp; omega
      go_wp2
      go_ret2
      exact ⟨HG.out, Or.inr ⟨by rw [HT.out, if_pos (Or.inl hbig)], rfl⟩⟩
    · have d0 : decide (100000 < (v : Int)) = false := by simp; omega
      by_cases hfit : s.size - (a + n) < v
      · go_wp2_with fail
        refine (bytes_no c s (a + n) v _ hc2 hs han hfit).mono ?_
        rintro e w2 ⟨rfl, rfl⟩
        go_wp2
        go_ret2
        exact ⟨HG.out, Or.inr ⟨by rw [HT.out, if_pos (Or.inr (by omega))], rfl⟩⟩
      · have HT2 : Hid (getText s a = some (s.extract (a + n) (a + n + v), (a : Int) + n + v)) := by
          show _ = _
          rw [HT.out, if_neg (by omega), show ((a : Int) + n).toNat = a + n by omega, show ((a : Int) + n + v).toNat = a + n + v by omega]
        by_cases hz : v = 0
        · subst hz
          go_wp2_with fail
          refine (bytes_zero c s (a + n) _ hc2 hs han).mono ?_
          rintro e w2 ⟨rfl, rfl⟩
          go_wp2
          go_ret2
          refine ⟨HG.out, Or.inl ⟨ByteArray.empty, (a : Int) + n, ?_, rfl, by simpa using hc2⟩⟩
          rw [HT2.out, extract_none (a + n)]; simp
        · go_wp2_with fail
          refine (bytes_yes c s (a + n) v _ hc2 hs (by omega) (by omega)).mono ?_
          rintro e w2 ⟨rfl, hc3, hg2⟩
          go_wp2
          go_ret2
          exact ⟨grown_trans HG.out hg2, Or.inl ⟨_, _, HT2.out, rfl, by simpa [Int.add_assoc] using hc3⟩⟩
  · have HT : Hid (getText s p = none) := by show _ = _; unfold getText; rw [hn]
    clear hn
    go_wp2
    go_ret2
    exact ⟨HG.out, Or.inr ⟨HT.out, rfl⟩⟩
end Go.Proofs.Ytccokbfbkeknnaa
