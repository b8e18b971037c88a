import Derived.Test.YtngkiokibldfjaaGreatDoorProg
import Derived.Test.YtngkiokibldfjaaGreatDoorBase
import Derived.WalkLawsBesides
import Derived.WalkSpells
import Derived.OpenShut
import Derived.Laws.BitsAllLaws
import Derived.Test.YtngkiokibldfjaaGreatDoorPA
import Derived.Lib.ConvBytes
namespace Go.Proofs.YtngkiokibldfjaaGreatDoor
open Go.RowKit
theorem Tryz.info5 : (Tryz.prog.info? 5).map (fun i => (i.zero, i.size, i.bytes)) = some (some (.int .u8 0), 1, 1) := by kernel_rfl

set_option maxHeartbeats 400000 in
theorem sput_any (n : Nat) (hn : n < 9223372036854775808) (w : World) :
    Calls Tryz.prog 45 #[.int .i64 n] w fun e w' => e = .returned (.string (strOfNums (putL 8 n))) ∧ Below w.heap.size w w' := by
  have h0 : decide ((n : Int) < 0) = false := by simp
  go_enter Tryz.func45, Tryz.ntmps45
  go_wp2
  go_loopw [0, 3] (fun a v wr => ∃ (f m : Nat) (xs : List Int), m < 128 ^ (f + 1) ∧ m ≤ n ∧ xs.length + f = 8 ∧ a = .int .i64 m ∧ OwnNums wr w.heap.size 5 .u8 v xs ∧ xs ++ putL f m = putL 8 n ∧ Below w.heap.size w wr)
    (fun a _ _ => (intOf a).toNat)
  case atStart =>
    refine ⟨8, n, [], Nat.lt_of_lt_of_le hn (by decide), by omega, rfl, rfl, ?_, rfl, (Below.refl _ _).alloc (Nat.le_refl _) _⟩
    exact OwnNums.empty w 5 .u8
  case round =>
    obtain ⟨f, m, xs, hm, hmn, hl, rfl, hown, hacc, hbel⟩ := hrel
    by_cases hbig : 127 < m
    · go_wp2_with (first | (at_builtin; refine append_num w wr rfl (.tmp 9) (.tmp 14) 22 rfl 5 .u8 1 Tryz.underlying22 Tryz.info5 (by decide) _ xs (128 + (m : Int) % 128) rfl hown hbel rfl ?_ ?_; omega) | go_in)
      intro v' w1 hown' hbel' _
      clear hown hbel
      go_wp2
      go_roundw
      case rel =>
        have hf : f ≠ 0 := by intro h; subst h; omega
        obtain ⟨f, rfl⟩ := Nat.exists_eq_succ_of_ne_zero hf
        refine ⟨f, m / 128, xs ++ [128 + (m : Int) % 128], ?_, by omega, by simp; omega, by go_num, hown', ?_, hbel'⟩
        · rw [Nat.div_lt_iff_lt_mul (by decide)]; rw [Nat.pow_succ] at hm; exact hm
        · rw [← hacc, putL_big f m (by omega)]; simp
      case measure => simp [intOf]; omega
    · go_wp2_with (first | (at_builtin; refine append_num w wr rfl (.tmp 18) (.tmp 21) 22 rfl 5 .u8 1 Tryz.underlying22 Tryz.info5 (by decide) _ xs (m : Int) rfl hown hbel rfl ?_ ?_; omega) | go_in)
      intro v' w1 hown' hbel' _
      have hcv := conv_owned w1 22 5 9 Tryz.underlying22 Tryz.underlying5 Tryz.underlying9 hown'
      clear hown hbel hown'
      go_wp2
      go_ret
      refine ⟨?_, hbel'⟩
      rw [← hacc, putL_small f m (by omega)]; rfl
theorem or128 (m : Nat) : bits .or .u8 ((m : Int) % 256) 128 = 128 + (m : Int) % 128 := by
  have h : ∀ a, a < 256 → a ||| 128 = 128 + a % 128 := by decide +kernel
  have e1 : ((m : Int) % 256) = ((m % 256 : Nat) : Int) := by omega
  rw [e1, show (128 : Int) = ((128 : Nat) : Int) from rfl, u8_or_nat _ _ (by omega) (by omega), h _ (by omega)]; omega

def nine : Array Value := #[.int .u8 0, .int .u8 0, .int .u8 0, .int .u8 0, .int .u8 0, .int .u8 0, .int .u8 0, .int .u8 0, .int .u8 0]

set_option maxRecDepth 20000 in
set_option maxHeartbeats 400000 in
theorem iput_any (n : Nat) (hn : n < 9223372036854775808) (w : World) :
    Calls Tryz.prog 103 #[.int .i64 n] w fun e w' => e = .returned (.string (strOfNums (putL 8 n))) ∧ Below w.heap.size w w' := by
  have h0 : decide ((n : Int) < 0) = false := by simp
  have hmk : ∀ w, (Instr.makeSlice 22 (.int .i64 0) (.int .i64 9)).run Tryz.prog w = .ok (.slice (some ⟨w.heap.size, 0, none⟩) 0 9) (w.alloc (.cells nine 5)) := fun _ => by kernel_rfl
  go_enter Tryz.func103, Tryz.ntmps103
  go_wp2
  go_loopw [4, 3] (fun a v wr => ∃ (f m : Nat) (xs : List Int), m < 128 ^ (f + 1) ∧ m ≤ n ∧ xs.length + f = 8 ∧ a = .int .u64 m ∧ OwnNums wr w.heap.size 5 .u8 v xs ∧ xs ++ putL f m = putL 8 n ∧ Below w.heap.size w wr)
    (fun a _ _ => (intOf a).toNat)
  case atStart =>
    refine ⟨8, n, [], Nat.lt_of_lt_of_le hn (by decide), by omega, rfl, rfl, ?_, rfl, (Below.refl _ _).alloc (Nat.le_refl _) _⟩
    exact World.ownsRow_made w nine 9 (Nat.le_refl _) (by decide) rfl
  case round =>
    obtain ⟨f, m, xs, hm, hmn, hl, rfl, hown, hacc, hbel⟩ := hrel
    clear hmk
    have HM : Hid (m < 128 ^ (f + 1)) := hm
    have HA : Hid (xs ++ putL f m = putL 8 n) := hacc
    clear hm hacc
    by_cases hbig : 127 < m
    · go_wp2_with (first | (at_builtin; (refine append_num w wr rfl (.tmp 12) (.tmp 16) 22 rfl 5 .u8 1 Tryz.underlying22 Tryz.info5 (by decide) _ xs _ rfl hown hbel rfl ?_ ?_; omega)) | go_in)
      intro v' w1 hown' hbel' _
      rw [or128] at hown'
      clear hown hbel
      go_wp2
      go_roundw
      case rel =>
        have hm := HM.out; have hacc := HA.out
        have hf : f ≠ 0 := by intro h; subst h; omega
        obtain ⟨f, rfl⟩ := Nat.exists_eq_succ_of_ne_zero hf
        refine ⟨f, m / 128, xs ++ [128 + (m : Int) % 128], ?_, by omega, by simp; omega, by go_num, hown', ?_, hbel'⟩
        · rw [Nat.div_lt_iff_lt_mul (by decide)]; rw [Nat.pow_succ] at hm; exact hm
        · rw [← hacc, putL_big f m (by omega)]; simp
      case measure => simp [intOf]; omega
    · go_wp2_with (first | (at_builtin; refine append_num w wr rfl (.tmp 20) (.tmp 23) 22 rfl 5 .u8 1 Tryz.underlying22 Tryz.info5 (by decide) _ xs (m : Int) rfl hown hbel rfl ?_ ?_; omega) | go_in)
      intro v' w1 hown' hbel' _
      have hcv := conv_owned w1 22 5 9 Tryz.underlying22 Tryz.underlying5 Tryz.underlying9 hown'
      clear hown hbel hown'
      go_wp2
      go_ret
      refine ⟨?_, hbel'⟩
      rw [← HA.out, putL_small f m (by omega)]; rfl
set_option maxHeartbeats 400000 in
theorem sput_neg (n : Int) (hn : n < 0) (w : World) :
    Calls Tryz.prog 45 #[.int .i64 n] w fun e w' => e = .returned (.string ByteArray.empty) ∧ Below w.heap.size w w' := by
  go_enter Tryz.func45, Tryz.ntmps45
  go_wp2
  go_ret
  exact ⟨rfl, Below.refl _ _⟩
set_option maxHeartbeats 400000 in
theorem iput_neg (n : Int) (hn : n < 0) (w : World) :
    Calls Tryz.prog 103 #[.int .i64 n] w fun e w' => e = .returned (.string ByteArray.empty) ∧ Below w.heap.size w w' := by
  go_enter Tryz.func103, Tryz.ntmps103
  go_wp2
  go_ret
  exact ⟨rfl, Below.refl _ _⟩

/-- What PutNum gives. -/
def putNum (n : Int) : ByteArray := if n < 0 then ByteArray.empty else strOfNums (putL 8 n.toNat)
theorem sput_all (n : Int) (hn : n ≤ 9223372036854775807) (w : World) :
    Calls Tryz.prog 45 #[.int .i64 n] w fun e w' => e = .returned (.string (putNum n)) ∧ Below w.heap.size w w' := by
  unfold putNum
  by_cases h : n < 0
  · rw [if_pos h]; exact sput_neg n h w
  · rw [if_neg h]; obtain ⟨m, rfl⟩ := Int.eq_ofNat_of_zero_le (by omega : 0 ≤ n); exact sput_any m (by omega) w
theorem iput_all (n : Int) (hn : n ≤ 9223372036854775807) (w : World) :
    Calls Tryz.prog 103 #[.int .i64 n] w fun e w' => e = .returned (.string (putNum n)) ∧ Below w.heap.size w w' := by
  unfold putNum
  by_cases h : n < 0
  · rw [if_pos h]; exact iput_neg n h w
  · rw [if_neg h]; obtain ⟨m, rfl⟩ := Int.eq_ofNat_of_zero_le (by omega : 0 ≤ n); exact iput_any m (by omega) w
end Go.Proofs.YtngkiokibldfjaaGreatDoor
namespace Go.Proofs.YtngkiokibldfjaaGreatDoor
open Go.RowKit
theorem putNum_size (n : Int) : (putNum n).size ≤ 9 := by
  unfold putNum
  split
  · decide
  · rw [strOfNums_size]; exact putL_length 8 _
def putText (s : ByteArray) : ByteArray := if 100000 < s.size then ByteArray.empty else putNum s.size ++ s

set_option maxHeartbeats 400000 in
theorem sptext_all (s : ByteArray) (hs : s.size ≤ 1048576) (w : World) :
    Calls Tryz.prog 22 #[.string s] w fun e w' => e = .returned (.string (putText s)) ∧ Below w.heap.size w w' := by
  unfold putText
  have hz := putNum_size s.size
  by_cases h : 100000 < s.size
  · rw [if_pos h]
    go_enter Tryz.func22, Tryz.ntmps22
    go_wp2
    go_ret
    exact ⟨rfl, Below.refl _ _⟩
  · rw [if_neg h]
    go_enter Tryz.func22, Tryz.ntmps22
    go_wp2_with fail
    refine (sput_all _ (by omega) _).mono ?_
    rintro e w1 ⟨rfl, hb1⟩
    go_wp2
    go_ret
    exact ⟨rfl, hb1⟩
set_option maxHeartbeats 400000 in
theorem iptext_all (s : ByteArray) (hs : s.size ≤ 1048576) (w : World) :
    Calls Tryz.prog 90 #[.string s] w fun e w' => e = .returned (.string (putText s)) ∧ Below w.heap.size w w' := by
  unfold putText
  have hz := putNum_size s.size
  by_cases h : 100000 < s.size
  · rw [if_pos h]
    go_enter Tryz.func90, Tryz.ntmps90
    go_wp2
    go_ret
    exact ⟨rfl, Below.refl _ _⟩
  · rw [if_neg h]
    go_enter Tryz.func90, Tryz.ntmps90
    go_wp2_with fail
    refine (iput_all _ (by omega) _).mono ?_
    rintro e w1 ⟨rfl, hb1⟩
    go_wp2
    go_ret
    exact ⟨rfl, hb1⟩
end Go.Proofs.YtngkiokibldfjaaGreatDoor
namespace Go.Proofs.YtngkiokibldfjaaGreatDoor
open Go.RowKit
def sumStep (s : Int) (c : UInt8) : Int := (s * 65539 + c.toNat + 1) % 2147483647
def sumL (s0 : Int) (l : List UInt8) : Int := l.foldl sumStep s0
theorem sumL_snoc (s0 : Int) (l : List UInt8) (c : UInt8) : sumL s0 (l ++ [c]) = sumStep (sumL s0 l) c := by simp [sumL]
theorem sumStep_bd (s : Int) (c : UInt8) : 0 ≤ sumStep s c ∧ sumStep s c ≤ 2147483647 := by unfold sumStep; omega
theorem sumL_bd (l : List UInt8) : ∀ s0, 0 ≤ s0 → s0 ≤ 2147483647 → 0 ≤ sumL s0 l ∧ sumL s0 l ≤ 2147483647 := by
  induction l with
  | nil => intro s0 h1 h2; exact ⟨h1, h2⟩
  | cons c l ih => intro s0 h1 h2; exact ih _ (sumStep_bd s0 c).1 (sumStep_bd s0 c).2
def sumOf (s : ByteArray) (seed : Int) : Int := if seed < 0 ∨ 400000 < s.size then 0 else sumL (seed % 2147483647 + 1) s.data.toList
theorem take_snoc (s : ByteArray) (k : Nat) (h : k < s.size) : s.data.toList.take (k + 1) = s.data.toList.take k ++ [s[k]] := by
  rw [List.take_succ_eq_append_getElem (by simpa using h)]; rfl
theorem byte_bd (s : ByteArray) (k : Nat) (h : k < s.size) : 0 ≤ (s[k].toNat : Int) ∧ (s[k].toNat : Int) < 256 := by
  have := s[k].toNat_lt; omega
theorem ret_int {k : IntKind} {a b : Int} (h : a = b) : Ending.returned (.int k a) = .returned (.int k b) := by rw [h]

set_option maxRecDepth 20000 in
set_option maxHeartbeats 400000 in
theorem ssum_any (s : ByteArray) (seed : Int) (h0 : 0 ≤ seed) (h1 : seed ≤ 9223372036854775807) (hs : s.size ≤ 400000) (w : World) :
    Calls Tryz.prog 24 #[.string s, .int .i64 seed] w fun e w' => e = .returned (.int .i64 (sumL (seed % 2147483647 + 1) s.data.toList)) ∧ w' = w := by
  have d0 : decide (seed < 0) = false := by simp; omega
  have d1 : decide (400000 < (s.size : Int)) = false := by simp; omega
  go_enter Tryz.func24, Tryz.ntmps24
  go_wp2
  go_loop [5, 6] (fun t i => ∃ k : Nat, k ≤ s.size ∧ i = .int .i64 k ∧ t = .int .i64 (sumL (seed % 2147483647 + 1) (s.data.toList.take k))) (fun _ i => s.size - (intOf i).toNat)
  case atStart => exact ⟨0, Nat.zero_le _, rfl, rfl⟩
  case round =>
    obtain ⟨k, hk, rfl, rfl⟩ := hrel
    have hb := sumL_bd (s.data.toList.take k) (seed % 2147483647 + 1) (by omega) (by omega)
    by_cases hlt : k < s.size
    · have hc := byte_bd s k hlt
      have HS : Hid (sumL (seed % 2147483647 + 1) (s.data.toList.take (k + 1)) = sumStep (sumL (seed % 2147483647 + 1) (s.data.toList.take k)) s[k]) := by
        rw [take_snoc s k hlt]; exact sumL_snoc _ _ _
      go_wp2
      go_round
      case rel => exact ⟨k + 1, by omega, by go_num, by rw [HS.out]; rfl⟩
      case measure => simp [intOf]; omega
    · go_wp2
      go_ret
      exact ⟨ret_int (by rw [List.take_of_length_le (by simp; omega)]), rfl⟩
set_option maxRecDepth 20000 in
set_option maxHeartbeats 400000 in
theorem isumOn (s0 : Int) (s : ByteArray) (h0 : 0 ≤ s0) (h1 : s0 ≤ 2147483647) (hs : s.size ≤ 400000) (w : World) :
    Calls Tryz.prog 104 #[.int .i64 s0, .string s] w fun e w' => e = .returned (.int .i64 (sumL s0 s.data.toList)) ∧ w' = w := by
  go_enter Tryz.func104, Tryz.ntmps104
  go_wp2
  go_loop [0, 8] (fun t i => ∃ k : Nat, k ≤ s.size ∧ i = .int .i64 k ∧ t = .int .i64 (sumL s0 (s.data.toList.take k))) (fun _ i => s.size - (intOf i).toNat)
  case atStart => exact ⟨0, Nat.zero_le _, rfl, rfl⟩
  case round =>
    obtain ⟨k, hk, rfl, rfl⟩ := hrel
    have hb := sumL_bd (s.data.toList.take k) s0 h0 h1
    by_cases hlt : k < s.size
    · have hc := byte_bd s k hlt
      have HS : Hid (sumL s0 (s.data.toList.take (k + 1)) = sumStep (sumL s0 (s.data.toList.take k)) s[k]) := by
        rw [take_snoc s k hlt]; exact sumL_snoc _ _ _
      go_wp2
      go_round
      case rel => exact ⟨k + 1, by omega, by go_num, by rw [HS.out]; rfl⟩
      case measure => simp [intOf]; omega
    · go_wp2
      go_ret
      exact ⟨ret_int (by rw [List.take_of_length_le (by simp; omega)]), rfl⟩
theorem ifirstSum (seed : Int) (h0 : 0 ≤ seed) (h1 : seed ≤ 9223372036854775807) (w : World) :
    Calls Tryz.prog 105 #[.int .i64 seed] w fun e w' => e = .returned (.int .i64 (seed % 2147483647 + 1)) ∧ w' = w := by
  go_enter Tryz.func105, Tryz.ntmps105
  go_wp2
  go_ret
  exact ⟨rfl, rfl⟩
set_option maxRecDepth 20000 in
set_option maxHeartbeats 400000 in
theorem isum_any (s : ByteArray) (seed : Int) (h0 : 0 ≤ seed) (h1 : seed ≤ 9223372036854775807) (hs : s.size ≤ 400000) (w : World) :
    Calls Tryz.prog 91 #[.string s, .int .i64 seed] w fun e w' => e = .returned (.int .i64 (sumL (seed % 2147483647 + 1) s.data.toList)) ∧ w' = w := by
  have d0 : decide (seed < 0) = false := by simp; omega
  have d1 : decide (400000 < (s.size : Int)) = false := by simp; omega
  have F := fun w => hid (ifirstSum seed h0 h1 w)
  have S := fun w => hid (isumOn (seed % 2147483647 + 1) s (by omega) (by omega) hs w)
  obtain ⟨f, hf⟩ : ∃ f, f = seed % 2147483647 + 1 := ⟨_, rfl⟩
  rw [← hf] at F S ⊢
  clear hf
  go_enter Tryz.func91, Tryz.ntmps91
  go_wp2_with fail
  refine (F _).out.mono ?_
  rintro e w1 ⟨rfl, rfl⟩
  go_wp2_with fail
  refine (S _).out.mono ?_
  rintro e w2 ⟨rfl, rfl⟩
  go_wp2
  go_ret
  exact ⟨rfl, rfl⟩
set_option maxHeartbeats 400000 in
theorem ssum_no (s : ByteArray) (seed : Int) (h : seed < 0 ∨ 400000 < s.size) (hs : s.size ≤ 1048576) (w : World) :
    Calls Tryz.prog 24 #[.string s, .int .i64 seed] w fun e w' => e = .returned (.int .i64 0) ∧ w' = w := by
  by_cases h0 : seed < 0
  · have d0 : decide (seed < 0) = true := by simp; omega
    go_enter Tryz.func24, Tryz.ntmps24
    go_wp2
    go_ret
    exact ⟨rfl, rfl⟩
  · have d0 : decide (seed < 0) = false := by simp; omega
    have d1 : decide (400000 < (s.size : Int)) = true := by simp; omega
    go_enter Tryz.func24, Tryz.ntmps24
    go_wp2
    go_ret
    exact ⟨rfl, rfl⟩
theorem ssum_all (s : ByteArray) (seed : Int) (h1 : seed ≤ 9223372036854775807) (hs : s.size ≤ 1048576) (w : World) :
    Calls Tryz.prog 24 #[.string s, .int .i64 seed] w fun e w' => e = .returned (.int .i64 (sumOf s seed)) ∧ w' = w := by
  unfold sumOf
  by_cases h : seed < 0 ∨ 400000 < s.size
  · rw [if_pos h]; exact ssum_no s seed h hs w
  · rw [if_neg h]; exact ssum_any s seed (by omega) h1 (by omega) w
set_option maxHeartbeats 400000 in
theorem isum_no (s : ByteArray) (seed : Int) (h : seed < 0 ∨ 400000 < s.size) (hs : s.size ≤ 1048576) (w : World) :
    Calls Tryz.prog 91 #[.string s, .int .i64 seed] w fun e w' => e = .returned (.int .i64 0) ∧ w' = w := by
  by_cases h0 : seed < 0
  · have d0 : decide (seed < 0) = true := by simp; omega
    go_enter Tryz.func91, Tryz.ntmps91
    go_wp2
    go_ret
    exact ⟨rfl, rfl⟩
  · have d0 : decide (seed < 0) = false := by simp; omega
    have d1 : decide (400000 < (s.size : Int)) = true := by simp; omega
    go_enter Tryz.func91, Tryz.ntmps91
    go_wp2
    go_ret
    exact ⟨rfl, rfl⟩
theorem isum_all (s : ByteArray) (seed : Int) (h1 : seed ≤ 9223372036854775807) (hs : s.size ≤ 1048576) (w : World) :
    Calls Tryz.prog 91 #[.string s, .int .i64 seed] w fun e w' => e = .returned (.int .i64 (sumOf s seed)) ∧ w' = w := by
  unfold sumOf
  by_cases h : seed < 0 ∨ 400000 < s.size
  · rw [if_pos h]; exact isum_no s seed h hs w
  · rw [if_neg h]; exact isum_any s seed (by omega) h1 (by omega) w
end Go.Proofs.YtngkiokibldfjaaGreatDoor
namespace Go.Proofs.YtngkiokibldfjaaGreatDoor
open Go.RowKit
/-! Records. -/
/-- a sum in four bytes -/
def four (n : Int) : ByteArray := strOfNums [n / 16777216, n / 65536 % 256, n / 256 % 256, n % 256]
theorem four_size (n : Int) : (four n).size = 4 := by unfold four; rw [strOfNums_size]; rfl
/-- what stands ahead of a record's sum -/
def recT (key : ByteArray) (gone : Bool) (data : ByteArray) : ByteArray := ⟨#[231]⟩ ++ putText key ++ (if gone then ⟨#[1]⟩ else ⟨#[0]⟩) ++ putText data
def RecOk (key : ByteArray) (gone : Bool) (data : ByteArray) : Prop := 1 ≤ key.size ∧ key.size ≤ 200 ∧ (gone = true → data.size = 0) ∧ data.size ≤ 100000
instance (key : ByteArray) (gone : Bool) (data : ByteArray) : Decidable (RecOk key gone data) := inferInstanceAs (Decidable (_ ∧ _ ∧ (_ → _) ∧ _))
def recV (key : ByteArray) (gone : Bool) (data : ByteArray) : ByteArray := if RecOk key gone data then recT key gone data ++ four (sumOf (recT key gone data) 5) else ByteArray.empty
theorem putText_size (s : ByteArray) (h : s.size ≤ 100000) : (putText s).size ≤ 9 + s.size := by
  unfold putText; rw [if_neg (by omega), ByteArray.size_append]; have := putNum_size (s.size : Int); omega
theorem recT_size (key : ByteArray) (gone : Bool) (data : ByteArray) (hk : key.size ≤ 200) (hd : data.size ≤ 100000) : (recT key gone data).size ≤ 100220 := by
  unfold recT
  have h1 := putText_size key (by omega)
  have h2 := putText_size data hd
  have h3 : (if gone then (⟨#[1]⟩ : ByteArray) else ⟨#[0]⟩).size = 1 := by cases gone <;> rfl
  rw [ByteArray.size_append, ByteArray.size_append, ByteArray.size_append, h3]
  have : (⟨#[231]⟩ : ByteArray).size = 1 := rfl
  omega
set_option maxRecDepth 20000 in
set_option maxHeartbeats 1000000 in
theorem sFour (n : Int) (h0 : 0 ≤ n) (h1 : n ≤ 2147483647) (w : World) :
    Calls Tryz.prog 23 #[.int .i64 n] w fun e w' => e = .returned (.string (four n)) ∧ Below w.heap.size w w' := by
  have cv : (convert 22 9 (.slice (some ⟨w.heap.size, 0, none⟩) 4 4)).run Tryz.prog (w.alloc (.cells #[.int .u8 (n / 16777216), .int .u8 (n / 65536 % 256), .int .u8 (n / 256 % 256), .int .u8 (n % 256)] 5)) = .ok (.string (four n)) (w.alloc (.cells #[.int .u8 (n / 16777216), .int .u8 (n / 65536 % 256), .int .u8 (n / 256 % 256), .int .u8 (n % 256)] 5)) :=
    run_convert_bytes_arg (P := Tryz.prog) _ 22 5 Tryz.underlying22 Tryz.underlying5 w.heap.size 0 4 4 [n / 16777216, n / 65536 % 256, n / 256 % 256, n % 256] rfl (fun i hi => by
      have R := RowAt.new w 5 #[.int .u8 (n / 16777216), .int .u8 (n / 65536 % 256), .int .u8 (n / 256 % 256), .int .u8 (n % 256)]
      have hi4 : i < 4 := hi
      rcases (by omega : i = 0 ∨ i = 1 ∨ i = 2 ∨ i = 3) with rfl | rfl | rfl | rfl
      · exact R.cell 0
      · exact R.cell 1
      · exact R.cell 2
      · exact R.cell 3) 9 Tryz.underlying9
  go_enter Tryz.func23, Tryz.ntmps23
  go_wp2
  go_ret
  exact ⟨rfl, (Below.refl _ w).alloc (Nat.le_refl _) _⟩
theorem ba_empty (d : ByteArray) (h : d.size = 0) : d.toList.isEmpty = true := by
  rw [ByteArray.toList_eq, List.isEmpty_iff]; exact List.eq_nil_of_length_eq_zero (by simpa using h)
theorem ba_some (d : ByteArray) (h : d.size ≠ 0) : d.toList.isEmpty = false := by
  rw [ByteArray.toList_eq, List.isEmpty_eq_false_iff]; intro q; apply h; have := congrArg List.length q; simpa using this
set_option maxRecDepth 20000 in
set_option maxHeartbeats 2000000 in
theorem sPutRec (key : ByteArray) (gone : Bool) (data : ByteArray) (hk : key.size ≤ 1048576) (hd : data.size ≤ 1048576) (w : World) :
    Calls Tryz.prog 7 #[.string key, .bool gone, .string data] w fun e w' => e = .returned (.string (recV key gone data)) ∧ Below w.heap.size w w' := by
  by_cases hok : RecOk key gone data
  case neg =>
    have E : Hid (recV key gone data = ByteArray.empty) := if_neg hok
    by_cases h0 : key.size < 1
    · have d0 : decide (((key.size : Nat) : Int) < 1) = true := by simp; omega
      go_enter Tryz.func7, Tryz.ntmps7
      go_wp2
      go_ret
      exact ⟨by rw [E.out]; rfl, Below.refl _ _⟩
    have d0 : decide (((key.size : Nat) : Int) < 1) = false := by simp; omega
    by_cases h1 : 200 < key.size
    · have d1 : decide ((200 : Int) < ((key.size : Nat) : Int)) = true := by simp; omega
      go_enter Tryz.func7, Tryz.ntmps7
      go_wp2
      go_ret
      exact ⟨by rw [E.out]; rfl, Below.refl _ _⟩
    have d1 : decide ((200 : Int) < ((key.size : Nat) : Int)) = false := by simp; omega
    by_cases h2 : gone = true ∧ data.size ≠ 0
    · obtain ⟨rfl, h2⟩ := h2
      have d2 := ba_some data h2
      go_enter Tryz.func7, Tryz.ntmps7
      go_wp2
      go_ret
      exact ⟨by rw [E.out]; rfl, Below.refl _ _⟩
    have h3 : 100000 < data.size := Nat.lt_of_not_le fun q => hok ⟨by omega, by omega, fun e => Classical.byContradiction fun r => h2 ⟨e, r⟩, q⟩
    have d3 : decide ((100000 : Int) < ((data.size : Nat) : Int)) = true := by simp; omega
    cases gone with
    | true => exact absurd ⟨rfl, by omega⟩ h2
    | false =>
      go_enter Tryz.func7, Tryz.ntmps7
      go_wp2
      go_ret
      exact ⟨by rw [E.out]; rfl, Below.refl _ _⟩
  have E : Hid (recV key gone data = recT key gone data ++ four (sumOf (recT key gone data) 5)) := if_pos hok
  have hz := recT_size key gone data hok.2.1 hok.2.2.2
  have d0 : decide (((key.size : Nat) : Int) < 1) = false := by have := hok.1; simp; omega
  have d1 : decide ((200 : Int) < ((key.size : Nat) : Int)) = false := by have := hok.2.1; simp; omega
  have d3 : decide ((100000 : Int) < ((data.size : Nat) : Int)) = false := by have := hok.2.2.2; simp; omega
  have P1 := fun w => hid (sptext_all key (by omega) w)
  have P2 := fun w => hid (sptext_all data (by omega) w)
  have z1 := putText_size key (by have := hok.2.1; omega)
  have z2 := putText_size data hok.2.2.2
  have SS := fun w => hid (ssum_all (recT key gone data) 5 (by decide) (by omega) w)
  cases gone with
  | true =>
    have d2 := ba_empty data (hok.2.2.1 rfl)
    have em : recT key true data = ⟨#[231]⟩ ++ putText key ++ ⟨#[1]⟩ ++ putText data := rfl
    rw [em] at E hz SS
    clear em
    obtain ⟨k1, hk1⟩ : ∃ s, s = putText key := ⟨_, rfl⟩
    obtain ⟨k2, hk2⟩ : ∃ s, s = putText data := ⟨_, rfl⟩
    rw [← hk1] at P1 z1 E hz SS
    rw [← hk2] at P2 z2 E hz SS
    clear hk1 hk2
    have c231 : (⟨#[231]⟩ : ByteArray).size = 1 := rfl
    have cmk : (⟨#[1]⟩ : ByteArray).size = 1 := rfl
    obtain ⟨t1, ht1⟩ : ∃ s, s = (⟨#[231]⟩ : ByteArray) ++ k1 := ⟨_, rfl⟩
    have q1 : (⟨#[231]⟩ : ByteArray) ++ k1 = t1 := ht1.symm
    have y1 : t1.size ≤ 300 := by rw [ht1, ByteArray.size_append, c231]; have := hok.2.1; omega
    rw [q1] at E hz SS
    obtain ⟨t2, ht2⟩ : ∃ s, s = t1 ++ (⟨#[1]⟩ : ByteArray) := ⟨_, rfl⟩
    have q2 : t1 ++ (⟨#[1]⟩ : ByteArray) = t2 := ht2.symm
    have y2 : t2.size ≤ 301 := by rw [ht2, ByteArray.size_append, cmk]; omega
    rw [q2] at E hz SS
    obtain ⟨t3, ht3⟩ : ∃ s, s = t2 ++ k2 := ⟨_, rfl⟩
    have q3 : t2 ++ k2 = t3 := ht3.symm
    rw [q3] at E hz SS
    have w1 : ¬ 9223372036854775807 < (⟨#[231]⟩ : ByteArray).size + k1.size := by rw [c231]; have := hok.2.1; omega
    have w1' : ¬ 9223372036854775807 < 1 + k1.size := by have := hok.2.1; omega
    have w2 : ¬ 9223372036854775807 < t1.size + 1 := by omega
    have w3 : ¬ 9223372036854775807 < t2.size + k2.size := by have := hok.2.2.2; omega
    have sb := sumL_bd t3.data.toList 6 (by decide) (by decide)
    have se : sumOf t3 5 = sumL 6 t3.data.toList := by unfold sumOf; rw [if_neg (by omega)]; rfl
    rw [se] at E SS
    obtain ⟨x, hx⟩ : ∃ x, x = sumL 6 t3.data.toList := ⟨_, rfl⟩
    rw [← hx] at E SS sb
    have FF := fun w => hid (sFour x sb.1 sb.2 w)
    have fz := four_size x
    have w4 : ¬ 9223372036854775807 < t3.size + (four x).size := by rw [fz]; omega
    clear ht1 ht2 ht3 hx se c231 cmk
    go_enter Tryz.func7, Tryz.ntmps7
    go_wp2_with fail
    refine (P1 _).out.mono ?_
    rintro e v1 ⟨rfl, hb1⟩
    go_wp2_with fail
    refine (P2 _).out.mono ?_
    rintro e v2 ⟨rfl, hb2⟩
    go_wp2_with fail
    refine (SS _).out.mono ?_
    rintro e v3 ⟨rfl, rfl⟩
    go_wp2_with fail
    refine (FF _).out.mono ?_
    rintro e v4 ⟨rfl, hb4⟩
    go_wp2
    go_ret
    exact ⟨by rw [E.out]; rfl, (hb1.trans (hb2.mono hb1.size)).trans (hb4.mono (hb1.trans (hb2.mono hb1.size)).size)⟩
  | false =>
    have em : recT key false data = ⟨#[231]⟩ ++ putText key ++ ⟨#[0]⟩ ++ putText data := rfl
    rw [em] at E hz SS
    clear em
    obtain ⟨k1, hk1⟩ : ∃ s, s = putText key := ⟨_, rfl⟩
    obtain ⟨k2, hk2⟩ : ∃ s, s = putText data := ⟨_, rfl⟩
    rw [← hk1] at P1 z1 E hz SS
    rw [← hk2] at P2 z2 E hz SS
    clear hk1 hk2
    have c231 : (⟨#[231]⟩ : ByteArray).size = 1 := rfl
    have cmk : (⟨#[0]⟩ : ByteArray).size = 1 := rfl
    obtain ⟨t1, ht1⟩ : ∃ s, s = (⟨#[231]⟩ : ByteArray) ++ k1 := ⟨_, rfl⟩
    have q1 : (⟨#[231]⟩ : ByteArray) ++ k1 = t1 := ht1.symm
    have y1 : t1.size ≤ 300 := by rw [ht1, ByteArray.size_append, c231]; have := hok.2.1; omega
    rw [q1] at E hz SS
    obtain ⟨t2, ht2⟩ : ∃ s, s = t1 ++ (⟨#[0]⟩ : ByteArray) := ⟨_, rfl⟩
    have q2 : t1 ++ (⟨#[0]⟩ : ByteArray) = t2 := ht2.symm
    have y2 : t2.size ≤ 301 := by rw [ht2, ByteArray.size_append, cmk]; omega
    rw [q2] at E hz SS
    obtain ⟨t3, ht3⟩ : ∃ s, s = t2 ++ k2 := ⟨_, rfl⟩
    have q3 : t2 ++ k2 = t3 := ht3.symm
    rw [q3] at E hz SS
    have w1 : ¬ 9223372036854775807 < (⟨#[231]⟩ : ByteArray).size + k1.size := by rw [c231]; have := hok.2.1; omega
    have w1' : ¬ 9223372036854775807 < 1 + k1.size := by have := hok.2.1; omega
    have w2 : ¬ 9223372036854775807 < t1.size + 1 := by omega
    have w3 : ¬ 9223372036854775807 < t2.size + k2.size := by have := hok.2.2.2; omega
    have sb := sumL_bd t3.data.toList 6 (by decide) (by decide)
    have se : sumOf t3 5 = sumL 6 t3.data.toList := by unfold sumOf; rw [if_neg (by omega)]; rfl
    rw [se] at E SS
    obtain ⟨x, hx⟩ : ∃ x, x = sumL 6 t3.data.toList := ⟨_, rfl⟩
    rw [← hx] at E SS sb
    have FF := fun w => hid (sFour x sb.1 sb.2 w)
    have fz := four_size x
    have w4 : ¬ 9223372036854775807 < t3.size + (four x).size := by rw [fz]; omega
    clear ht1 ht2 ht3 hx se c231 cmk
    go_enter Tryz.func7, Tryz.ntmps7
    go_wp2_with fail
    refine (P1 _).out.mono ?_
    rintro e v1 ⟨rfl, hb1⟩
    go_wp2_with fail
    refine (P2 _).out.mono ?_
    rintro e v2 ⟨rfl, hb2⟩
    go_wp2_with fail
    refine (SS _).out.mono ?_
    rintro e v3 ⟨rfl, rfl⟩
    go_wp2_with fail
    refine (FF _).out.mono ?_
    rintro e v4 ⟨rfl, hb4⟩
    go_wp2
    go_ret
    exact ⟨by rw [E.out]; rfl, (hb1.trans (hb2.mono hb1.size)).trans (hb4.mono (hb1.trans (hb2.mono hb1.size)).size)⟩
end Go.Proofs.YtngkiokibldfjaaGreatDoor
