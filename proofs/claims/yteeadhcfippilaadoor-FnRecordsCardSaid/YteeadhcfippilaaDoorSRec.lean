import Derived.Test.YteeadhcfippilaaDoorPutText
import Derived.Test.YteeadhcfippilaaDoorSum
import Derived.Test.YteeadhcfippilaaDoorRows1
import Derived.Lib.ConvBytes
namespace Go.Proofs.YteeadhcfippilaaDoor
open Go.RowKit
/-! Records. -/
/-- a sum in four bytes -/
def four (n : Int) : ByteArray := strOfNums [n / 16777216, n / 65536 % 256, n / 256 % 256, n % 256]
theorem four_size (n : Int) : (four n).size = 4 := by unfold four; rw [strOfNums_size]; rfl
/-- what stands ahead of a record's sum -/
def recT (key : ByteArray) (gone : Bool) (data : ByteArray) : ByteArray := ⟨#[231]⟩ ++ putText key ++ (if gone then ⟨#[1]⟩ else ⟨#[0]⟩) ++ putText data
def RecOk (key : ByteArray) (gone : Bool) (data : ByteArray) : Prop := 1 ≤ key.size ∧ key.size ≤ 200 ∧ (gone = true → data.size = 0) ∧ data.size ≤ 100000
instance (key : ByteArray) (gone : Bool) (data : ByteArray) : Decidable (RecOk key gone data) := inferInstanceAs (Decidable (_ ∧ _ ∧ (_ → _) ∧ _))
def recV (key : ByteArray) (gone : Bool) (data : ByteArray) : ByteArray := if RecOk key gone data then recT key gone data ++ four (sumOf (recT key gone data) 5) else ByteArray.empty
theorem putText_size (s : ByteArray) (h : s.size ≤ 100000) : (putText s).size ≤ 9 + s.size := by
  unfold putText; rw [if_neg (by omega), ByteArray.size_append]; have := putNum_size (s.size : Int); omega
theorem recT_size (key : ByteArray) (gone : Bool) (data : ByteArray) (hk : key.size ≤ 200) (hd : data.size ≤ 100000) : (recT key gone data).size ≤ 100220 := by
  unfold recT
  have h1 := putText_size key (by omega)
  have h2 := putText_size data hd
  have h3 : (if gone then (⟨#[1]⟩ : ByteArray) else ⟨#[0]⟩).size = 1 := by cases gone <;> rfl
  rw [ByteArray.size_append, ByteArray.size_append, ByteArray.size_append, h3]
  have : (⟨#[231]⟩ : ByteArray).size = 1 := rfl
  omega
set_option maxRecDepth 20000 in
set_option maxHeartbeats 1000000 in
theorem sFour (n : Int) (h0 : 0 ≤ n) (h1 : n ≤ 2147483647) (w : World) :
    Calls Tryd.prog 20 #[.int .i64 n] w fun e w' => e = .returned (.string (four n)) ∧ Below w.heap.size w w' := by
  have cv : (convert 22 9 (.slice (some ⟨w.heap.size, 0, none⟩) 4 4)).run Tryd.prog (w.alloc (.cells #[.int .u8 (n / 16777216), .int .u8 (n / 65536 % 256), .int .u8 (n / 256 % 256), .int .u8 (n % 256)] 5)) = .ok (.string (four n)) (w.alloc (.cells #[.int .u8 (n / 16777216), .int .u8 (n / 65536 % 256), .int .u8 (n / 256 % 256), .int .u8 (n % 256)] 5)) :=
    run_convert_bytes_arg (P := Tryd.prog) _ 22 5 Tryd.underlying22 Tryd.underlying5 w.heap.size 0 4 4 [n / 16777216, n / 65536 % 256, n / 256 % 256, n % 256] rfl (fun i hi => by
      have R := RowAt.new w 5 #[.int .u8 (n / 16777216), .int .u8 (n / 65536 % 256), .int .u8 (n / 256 % 256), .int .u8 (n % 256)]
      have hi4 : i < 4 := hi
      rcases (by omega : i = 0 ∨ i = 1 ∨ i = 2 ∨ i = 3) with rfl | rfl | rfl | rfl
      · exact R.cell 0
      · exact R.cell 1
      · exact R.cell 2
      · exact R.cell 3) 9 Tryd.underlying9
  go_enter Tryd.func20, Tryd.ntmps20
  go_wp2
  go_ret
  exact ⟨rfl, (Below.refl _ w).alloc (Nat.le_refl _) _⟩
theorem ba_empty (d : ByteArray) (h : d.size = 0) : d.toList.isEmpty = true := by
  rw [ByteArray.toList_eq, List.isEmpty_iff]; exact List.eq_nil_of_length_eq_zero (by simpa using h)
theorem ba_some (d : ByteArray) (h : d.size ≠ 0) : d.toList.isEmpty = false := by
  rw [ByteArray.toList_eq, List.isEmpty_eq_false_iff]; intro q; apply h; have := congrArg List.length q; simpa using this
set_option maxRecDepth 20000 in
set_option maxHeartbeats 2000000 in
theorem sPutRec (key : ByteArray) (gone : Bool) (data : ByteArray) (hk : key.size ≤ 1048576) (hd : data.size ≤ 1048576) (w : World) :
    Calls Tryd.prog 6 #[.string key, .bool gone, .string data] w fun e w' => e = .returned (.string (recV key gone data)) ∧ Below w.heap.size w w' := by
  by_cases hok : RecOk key gone data
  case neg =>
    have E : Hid (recV key gone data = ByteArray.empty) := if_neg hok
    by_cases h0 : key.size < 1
    · have d0 : decide (((key.size : Nat) : Int) < 1) = true := by simp; omega
      go_enter Tryd.func6, Tryd.ntmps6
      go_wp2
      go_ret
      exact ⟨by rw [E.out]; rfl, Below.refl _ _⟩
    have d0 : decide (((key.size : Nat) : Int) < 1) = false := by simp; omega
    by_cases h1 : 200 < key.size
    · have d1 : decide ((200 : Int) < ((key.size : Nat) : Int)) = true := by simp; omega
      go_enter Tryd.func6, Tryd.ntmps6
      go_wp2
      go_ret
      exact ⟨by rw [E.out]; rfl, Below.refl _ _⟩
    have d1 : decide ((200 : Int) < ((key.size : Nat) : Int)) = false := by simp; omega
    by_cases h2 : gone = true ∧ data.size ≠ 0
    · obtain ⟨rfl, h2⟩ := h2
      have d2 := ba_some data h2
      go_enter Tryd.func6, Tryd.ntmps6
      go_wp2
      go_ret
      exact ⟨by rw [E.out]; rfl, Below.refl _ _⟩
    have h3 : 100000 < data.size := Nat.lt_of_not_le fun q => hok ⟨by omega, by omega, fun e => Classical.byContradiction fun r => h2 ⟨e, r⟩, q⟩
    have d3 : decide ((100000 : Int) < ((data.size : Nat) : Int)) = true := by simp; omega
    cases gone with
    | true => exact absurd ⟨rfl, by omega⟩ h2
    | false =>
      go_enter Tryd.func6, Tryd.ntmps6
      go_wp2
      go_ret
      exact ⟨by rw [E.out]; rfl, Below.refl _ _⟩
  have E : Hid (recV key gone data = recT key gone data ++ four (sumOf (recT key gone data) 5)) := if_pos hok
  have hz := recT_size key gone data hok.2.1 hok.2.2.2
  have d0 : decide (((key.size : Nat) : Int) < 1) = false := by have := hok.1; simp; omega
  have d1 : decide ((200 : Int) < ((key.size : Nat) : Int)) = false := by have := hok.2.1; simp; omega
  have d3 : decide ((100000 : Int) < ((data.size : Nat) : Int)) = false := by have := hok.2.2.2; simp; omega
  have P1 := fun w => hid (sptext_all key (by omega) w)
  have P2 := fun w => hid (sptext_all data (by omega) w)
  have z1 := putText_size key (by have := hok.2.1; omega)
  have z2 := putText_size data hok.2.2.2
  have SS := fun w => hid (ssum_all (recT key gone data) 5 (by decide) (by omega) w)
  cases gone with
  | true =>
    have d2 := ba_empty data (hok.2.2.1 rfl)
    have em : recT key true data = ⟨#[231]⟩ ++ putText key ++ ⟨#[1]⟩ ++ putText data := rfl
    rw [em] at E hz SS
    clear em
    obtain ⟨k1, hk1⟩ : ∃ s, s = putText key := ⟨_, rfl⟩
    obtain ⟨k2, hk2⟩ : ∃ s, s = putText data := ⟨_, rfl⟩
    rw [← hk1] at P1 z1 E hz SS
    rw [← hk2] at P2 z2 E hz SS
    clear hk1 hk2
    have c231 : (⟨#[231]⟩ : ByteArray).size = 1 := rfl
    have cmk : (⟨#[1]⟩ : ByteArray).size = 1 := rfl
    obtain ⟨t1, ht1⟩ : ∃ s, s = (⟨#[231]⟩ : ByteArray) ++ k1 := ⟨_, rfl⟩
    have q1 : (⟨#[231]⟩ : ByteArray) ++ k1 = t1 := ht1.symm
    have y1 : t1.size ≤ 300 := by rw [ht1, ByteArray.size_append, c231]; have := hok.2.1; omega
    rw [q1] at E hz SS
    obtain ⟨t2, ht2⟩ : ∃ s, s = t1 ++ (⟨#[1]⟩ : ByteArray) := ⟨_, rfl⟩
    have q2 : t1 ++ (⟨#[1]⟩ : ByteArray) = t2 := ht2.symm
    have y2 : t2.size ≤ 301 := by rw [ht2, ByteArray.size_append, cmk]; omega
    rw [q2] at E hz SS
    obtain ⟨t3, ht3⟩ : ∃ s, s = t2 ++ k2 := ⟨_, rfl⟩
    have q3 : t2 ++ k2 = t3 := ht3.symm
    rw [q3] at E hz SS
    have w1 : ¬ 9223372036854775807 < (⟨#[231]⟩ : ByteArray).size + k1.size := by rw [c231]; have := hok.2.1; omega
    have w1' : ¬ 9223372036854775807 < 1 + k1.size := by have := hok.2.1; omega
    have w2 : ¬ 9223372036854775807 < t1.size + 1 := by omega
    have w3 : ¬ 9223372036854775807 < t2.size + k2.size := by have := hok.2.2.2; omega
    have sb := sumL_bd t3.data.toList 6 (by decide) (by decide)
    have se : sumOf t3 5 = sumL 6 t3.data.toList := by unfold sumOf; rw [if_neg (by omega)]; rfl
    rw [se] at E SS
    obtain ⟨x, hx⟩ : ∃ x, x = sumL 6 t3.data.toList := ⟨_, rfl⟩
    rw [← hx] at E SS sb
    have FF := fun w => hid (sFour x sb.1 sb.2 w)
    have fz := four_size x
    have w4 : ¬ 9223372036854775807 < t3.size + (four x).size := by rw [fz]; omega
    clear ht1 ht2 ht3 hx se c231 cmk
    go_enter Tryd.func6, Tryd.ntmps6
    go_wp2_with fail
    refine (P1 _).out.mono ?_
    rintro e v1 ⟨rfl, hb1⟩
    go_wp2_with fail
    refine (P2 _).out.mono ?_
    rintro e v2 ⟨rfl, hb2⟩
    go_wp2_with fail
    refine (SS _).out.mono ?_
    rintro e v3 ⟨rfl, rfl⟩
    go_wp2_with fail
    refine (FF _).out.mono ?_
    rintro e v4 ⟨rfl, hb4⟩
    go_wp2
    go_ret
    exact ⟨by rw [E.out]; rfl, (hb1.trans (hb2.mono hb1.size)).trans (hb4.mono (hb1.trans (hb2.mono hb1.size)).size)⟩
  | false =>
    have em : recT key false data = ⟨#[231]⟩ ++ putText key ++ ⟨#[0]⟩ ++ putText data := rfl
    rw [em] at E hz SS
    clear em
    obtain ⟨k1, hk1⟩ : ∃ s, s = putText key := ⟨_, rfl⟩
    obtain ⟨k2, hk2⟩ : ∃ s, s = putText data := ⟨_, rfl⟩
    rw [← hk1] at P1 z1 E hz SS
    rw [← hk2] at P2 z2 E hz SS
    clear hk1 hk2
    have c231 : (⟨#[231]⟩ : ByteArray).size = 1 := rfl
    have cmk : (⟨#[0]⟩ : ByteArray).size = 1 := rfl
    obtain ⟨t1, ht1⟩ : ∃ s, s = (⟨#[231]⟩ : ByteArray) ++ k1 := ⟨_, rfl⟩
    have q1 : (⟨#[231]⟩ : ByteArray) ++ k1 = t1 := ht1.symm
    have y1 : t1.size ≤ 300 := by rw [ht1, ByteArray.size_append, c231]; have := hok.2.1; omega
    rw [q1] at E hz SS
    obtain ⟨t2, ht2⟩ : ∃ s, s = t1 ++ (⟨#[0]⟩ : ByteArray) := ⟨_, rfl⟩
    have q2 : t1 ++ (⟨#[0]⟩ : ByteArray) = t2 := ht2.symm
    have y2 : t2.size ≤ 301 := by rw [ht2, ByteArray.size_append, cmk]; omega
    rw [q2] at E hz SS
    obtain ⟨t3, ht3⟩ : ∃ s, s = t2 ++ k2 := ⟨_, rfl⟩
    have q3 : t2 ++ k2 = t3 := ht3.symm
    rw [q3] at E hz SS
    have w1 : ¬ 9223372036854775807 < (⟨#[231]⟩ : ByteArray).size + k1.size := by rw [c231]; have := hok.2.1; omega
    have w1' : ¬ 9223372036854775807 < 1 + k1.size := by have := hok.2.1; omega
    have w2 : ¬ 9223372036854775807 < t1.size + 1 := by omega
    have w3 : ¬ 9223372036854775807 < t2.size + k2.size := by have := hok.2.2.2; omega
    have sb := sumL_bd t3.data.toList 6 (by decide) (by decide)
    have se : sumOf t3 5 = sumL 6 t3.data.toList := by unfold sumOf; rw [if_neg (by omega)]; rfl
    rw [se] at E SS
    obtain ⟨x, hx⟩ : ∃ x, x = sumL 6 t3.data.toList := ⟨_, rfl⟩
    rw [← hx] at E SS sb
    have FF := fun w => hid (sFour x sb.1 sb.2 w)
    have fz := four_size x
    have w4 : ¬ 9223372036854775807 < t3.size + (four x).size := by rw [fz]; omega
    clear ht1 ht2 ht3 hx se c231 cmk
    go_enter Tryd.func6, Tryd.ntmps6
    go_wp2_with fail
    refine (P1 _).out.mono ?_
    rintro e v1 ⟨rfl, hb1⟩
    go_wp2_with fail
    refine (P2 _).out.mono ?_
    rintro e v2 ⟨rfl, hb2⟩
    go_wp2_with fail
    refine (SS _).out.mono ?_
    rintro e v3 ⟨rfl, rfl⟩
    go_wp2_with fail
    refine (FF _).out.mono ?_
    rintro e v4 ⟨rfl, hb4⟩
    go_wp2
    go_ret
    exact ⟨by rw [E.out]; rfl, (hb1.trans (hb2.mono hb1.size)).trans (hb4.mono (hb1.trans (hb2.mono hb1.size)).size)⟩
end Go.Proofs.YteeadhcfippilaaDoor
