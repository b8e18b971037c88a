import Derived.Test.YteeadhcfippilaaDoorProg
import Derived.Test.YteeadhcfippilaaDoorBase
import Derived.WalkLawsBesides
import Derived.WalkSpells
import Derived.OpenShut
import Derived.Laws.BitsAllLaws
namespace Go.Proofs.YteeadhcfippilaaDoor
open Go.RowKit
theorem Tryd.info5 : (Tryd.prog.info? 5).map (fun i => (i.zero, i.size, i.bytes)) = some (some (.int .u8 0), 1, 1) := by kernel_rfl

set_option maxHeartbeats 400000 in
theorem sput_any (n : Nat) (hn : n < 9223372036854775808) (w : World) :
    Calls Tryd.prog 33 #[.int .i64 n] w fun e w' => e = .returned (.string (strOfNums (putL 8 n))) ∧ Below w.heap.size w w' := by
  have h0 : decide ((n : Int) < 0) = false := by simp
  go_enter Tryd.func33, Tryd.ntmps33
  go_wp2
  go_loopw [0, 3] (fun a v wr => ∃ (f m : Nat) (xs : List Int), m < 128 ^ (f + 1) ∧ m ≤ n ∧ xs.length + f = 8 ∧ a = .int .i64 m ∧ OwnNums wr w.heap.size 5 .u8 v xs ∧ xs ++ putL f m = putL 8 n ∧ Below w.heap.size w wr)
    (fun a _ _ => (intOf a).toNat)
  case atStart =>
    refine ⟨8, n, [], Nat.lt_of_lt_of_le hn (by decide), by omega, rfl, rfl, ?_, rfl, (Below.refl _ _).alloc (Nat.le_refl _) _⟩
    exact OwnNums.empty w 5 .u8
  case round =>
    obtain ⟨f, m, xs, hm, hmn, hl, rfl, hown, hacc, hbel⟩ := hrel
    by_cases hbig : 127 < m
    · go_wp2_with (first | (at_builtin; refine append_num w wr rfl (.tmp 9) (.tmp 14) 22 rfl 5 .u8 1 Tryd.underlying22 Tryd.info5 (by decide) _ xs (128 + (m : Int) % 128) rfl hown hbel rfl ?_ ?_; omega) | go_in)
      intro v' w1 hown' hbel' _
      clear hown hbel
      go_wp2
      go_roundw
      case rel =>
        have hf : f ≠ 0 := by intro h; subst h; omega
        obtain ⟨f, rfl⟩ := Nat.exists_eq_succ_of_ne_zero hf
        refine ⟨f, m / 128, xs ++ [128 + (m : Int) % 128], ?_, by omega, by simp; omega, by go_num, hown', ?_, hbel'⟩
        · rw [Nat.div_lt_iff_lt_mul (by decide)]; rw [Nat.pow_succ] at hm; exact hm
        · rw [← hacc, putL_big f m (by omega)]; simp
      case measure => simp [intOf]; omega
    · go_wp2_with (first | (at_builtin; refine append_num w wr rfl (.tmp 18) (.tmp 21) 22 rfl 5 .u8 1 Tryd.underlying22 Tryd.info5 (by decide) _ xs (m : Int) rfl hown hbel rfl ?_ ?_; omega) | go_in)
      intro v' w1 hown' hbel' _
      have hcv := conv_owned w1 22 5 9 Tryd.underlying22 Tryd.underlying5 Tryd.underlying9 hown'
      clear hown hbel hown'
      go_wp2
      go_ret
      refine ⟨?_, hbel'⟩
      rw [← hacc, putL_small f m (by omega)]; rfl
theorem or128 (m : Nat) : bits .or .u8 ((m : Int) % 256) 128 = 128 + (m : Int) % 128 := by
  have h : ∀ a, a < 256 → a ||| 128 = 128 + a % 128 := by decide +kernel
  have e1 : ((m : Int) % 256) = ((m % 256 : Nat) : Int) := by omega
  rw [e1, show (128 : Int) = ((128 : Nat) : Int) from rfl, u8_or_nat _ _ (by omega) (by omega), h _ (by omega)]; omega

def nine : Array Value := #[.int .u8 0, .int .u8 0, .int .u8 0, .int .u8 0, .int .u8 0, .int .u8 0, .int .u8 0, .int .u8 0, .int .u8 0]

set_option maxRecDepth 20000 in
set_option maxHeartbeats 400000 in
theorem iput_any (n : Nat) (hn : n < 9223372036854775808) (w : World) :
    Calls Tryd.prog 30 #[.int .i64 n] w fun e w' => e = .returned (.string (strOfNums (putL 8 n))) ∧ Below w.heap.size w w' := by
  have h0 : decide ((n : Int) < 0) = false := by simp
  have hmk : ∀ w, (Instr.makeSlice 22 (.int .i64 0) (.int .i64 9)).run Tryd.prog w = .ok (.slice (some ⟨w.heap.size, 0, none⟩) 0 9) (w.alloc (.cells nine 5)) := fun _ => by kernel_rfl
  go_enter Tryd.func30, Tryd.ntmps30
  go_wp2
  go_loopw [4, 3] (fun a v wr => ∃ (f m : Nat) (xs : List Int), m < 128 ^ (f + 1) ∧ m ≤ n ∧ xs.length + f = 8 ∧ a = .int .u64 m ∧ OwnNums wr w.heap.size 5 .u8 v xs ∧ xs ++ putL f m = putL 8 n ∧ Below w.heap.size w wr)
    (fun a _ _ => (intOf a).toNat)
  case atStart =>
    refine ⟨8, n, [], Nat.lt_of_lt_of_le hn (by decide), by omega, rfl, rfl, ?_, rfl, (Below.refl _ _).alloc (Nat.le_refl _) _⟩
    exact World.ownsRow_made w nine 9 (Nat.le_refl _) (by decide) rfl
  case round =>
    obtain ⟨f, m, xs, hm, hmn, hl, rfl, hown, hacc, hbel⟩ := hrel
    clear hmk
    have HM : Hid (m < 128 ^ (f + 1)) := hm
    have HA : Hid (xs ++ putL f m = putL 8 n) := hacc
    clear hm hacc
    by_cases hbig : 127 < m
    · go_wp2_with (first | (at_builtin; (refine append_num w wr rfl (.tmp 12) (.tmp 16) 22 rfl 5 .u8 1 Tryd.underlying22 Tryd.info5 (by decide) _ xs _ rfl hown hbel rfl ?_ ?_; omega)) | go_in)
      intro v' w1 hown' hbel' _
      rw [or128] at hown'
      clear hown hbel
      go_wp2
      go_roundw
      case rel =>
        have hm := HM.out; have hacc := HA.out
        have hf : f ≠ 0 := by intro h; subst h; omega
        obtain ⟨f, rfl⟩ := Nat.exists_eq_succ_of_ne_zero hf
        refine ⟨f, m / 128, xs ++ [128 + (m : Int) % 128], ?_, by omega, by simp; omega, by go_num, hown', ?_, hbel'⟩
        · rw [Nat.div_lt_iff_lt_mul (by decide)]; rw [Nat.pow_succ] at hm; exact hm
        · rw [← hacc, putL_big f m (by omega)]; simp
      case measure => simp [intOf]; omega
    · go_wp2_with (first | (at_builtin; refine append_num w wr rfl (.tmp 20) (.tmp 23) 22 rfl 5 .u8 1 Tryd.underlying22 Tryd.info5 (by decide) _ xs (m : Int) rfl hown hbel rfl ?_ ?_; omega) | go_in)
      intro v' w1 hown' hbel' _
      have hcv := conv_owned w1 22 5 9 Tryd.underlying22 Tryd.underlying5 Tryd.underlying9 hown'
      clear hown hbel hown'
      go_wp2
      go_ret
      refine ⟨?_, hbel'⟩
      rw [← HA.out, putL_small f m (by omega)]; rfl
set_option maxHeartbeats 400000 in
theorem sput_neg (n : Int) (hn : n < 0) (w : World) :
    Calls Tryd.prog 33 #[.int .i64 n] w fun e w' => e = .returned (.string ByteArray.empty) ∧ Below w.heap.size w w' := by
  go_enter Tryd.func33, Tryd.ntmps33
  go_wp2
  go_ret
  exact ⟨rfl, Below.refl _ _⟩
set_option maxHeartbeats 400000 in
theorem iput_neg (n : Int) (hn : n < 0) (w : World) :
    Calls Tryd.prog 30 #[.int .i64 n] w fun e w' => e = .returned (.string ByteArray.empty) ∧ Below w.heap.size w w' := by
  go_enter Tryd.func30, Tryd.ntmps30
  go_wp2
  go_ret
  exact ⟨rfl, Below.refl _ _⟩

/-- What PutNum gives. -/
def putNum (n : Int) : ByteArray := if n < 0 then ByteArray.empty else strOfNums (putL 8 n.toNat)
theorem sput_all (n : Int) (hn : n ≤ 9223372036854775807) (w : World) :
    Calls Tryd.prog 33 #[.int .i64 n] w fun e w' => e = .returned (.string (putNum n)) ∧ Below w.heap.size w w' := by
  unfold putNum
  by_cases h : n < 0
  · rw [if_pos h]; exact sput_neg n h w
  · rw [if_neg h]; obtain ⟨m, rfl⟩ := Int.eq_ofNat_of_zero_le (by omega : 0 ≤ n); exact sput_any m (by omega) w
theorem iput_all (n : Int) (hn : n ≤ 9223372036854775807) (w : World) :
    Calls Tryd.prog 30 #[.int .i64 n] w fun e w' => e = .returned (.string (putNum n)) ∧ Below w.heap.size w w' := by
  unfold putNum
  by_cases h : n < 0
  · rw [if_pos h]; exact iput_neg n h w
  · rw [if_neg h]; obtain ⟨m, rfl⟩ := Int.eq_ofNat_of_zero_le (by omega : 0 ≤ n); exact iput_any m (by omega) w
end Go.Proofs.YteeadhcfippilaaDoor
