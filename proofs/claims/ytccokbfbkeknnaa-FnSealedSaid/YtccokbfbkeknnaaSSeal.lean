import Derived.Test.YtccokbfbkeknnaaSealM
import Derived.Test.YtccokbfbkeknnaaPb
import Derived.Deep.RegionLaw
namespace Go.Proofs.Ytccokbfbkeknnaa
open Go.RowKit
/-! The specification's streams and seals. -/
set_option maxRecDepth 20000 in
theorem sKey (k : ByteArray) (w : World) : Calls Try.prog 32 #[.string k] w fun e w' => e = .returned (.bool (pb (keyP k))) ∧ w' = w := by
  by_cases h1 : 1 ≤ k.size
  · have d1 : (1 : Int) ≤ (k.size : Int) := by omega
    by_cases h2 : k.size ≤ 200
    · have d2 : decide ((k.size : Int) ≤ 200) = true := by simp; omega
      have E : Hid (pb (keyP k) = true) := pb_t ⟨h1, h2⟩
      go_enter Try.func32, Try.ntmps32
      go_wp2
      go_ret
      exact ⟨by rw [E.out]; rfl, rfl⟩
    · have d2 : decide ((k.size : Int) ≤ 200) = false := by simp; omega
      have E : Hid (pb (keyP k) = false) := pb_f fun q => h2 q.2
      go_enter Try.func32, Try.ntmps32
      go_wp2
      go_ret
      exact ⟨by rw [E.out]; rfl, rfl⟩
  · have d1 : ¬ (1 : Int) ≤ (k.size : Int) := by omega
    have E : Hid (pb (keyP k) = false) := pb_f fun q => h1 q.1
    go_enter Try.func32, Try.ntmps32
    go_wp2
    go_ret
    exact ⟨by rw [E.out]; rfl, rfl⟩
set_option maxRecDepth 20000 in
set_option maxHeartbeats 1000000 in
theorem sStm (key : ByteArray) (nonce size : Int) (hn1 : nonce ≤ 9223372036854775807) (w : World) :
    Calls Try.prog 15 #[.string key, .int .i64 nonce, .int .i64 size] w fun e w' => e = .returned (.string (ofL (stmV key nonce size))) ∧ Below w.heap.size w w' := by
  have K := fun wx => hid (sKey key wx)
  by_cases h1 : keyP key
  case neg =>
    have E : Hid (stmV key nonce size = []) := if_neg fun q => h1 q.1
    rw [pb_f h1] at K
    clear h1
    go_enter Try.func15, Try.ntmps15
    go_wp2_with fail
    refine (K _).out.mono ?_
    rintro e w1 ⟨rfl, hw⟩
    obtain rfl := hw.symm
    go_wp2
    go_ret
    exact ⟨by rw [E.out]; rfl, Below.refl _ _⟩
  rw [pb_t h1] at K
  by_cases h2 : 0 ≤ nonce
  case neg =>
    have E : Hid (stmV key nonce size = []) := if_neg fun q => h2 q.2.1
    have d2 : decide (nonce < 0) = true := by simp; omega
    clear h1 h2
    go_enter Try.func15, Try.ntmps15
    go_wp2_with fail
    refine (K _).out.mono ?_
    rintro e w1 ⟨rfl, hw⟩
    obtain rfl := hw.symm
    go_wp2
    go_ret
    exact ⟨by rw [E.out]; rfl, Below.refl _ _⟩
  have d2 : decide (nonce < 0) = false := by simp; omega
  by_cases h3 : 0 ≤ size
  case neg =>
    have E : Hid (stmV key nonce size = []) := if_neg fun q => h3 q.2.2.1
    have d3 : decide (size < 0) = true := by simp; omega
    clear h1 h2 h3
    go_enter Try.func15, Try.ntmps15
    go_wp2_with fail
    refine (K _).out.mono ?_
    rintro e w1 ⟨rfl, hw⟩
    obtain rfl := hw.symm
    go_wp2
    go_ret
    exact ⟨by rw [E.out]; rfl, Below.refl _ _⟩
  have d3 : decide (size < 0) = false := by simp; omega
  by_cases h4 : size ≤ 200000
  case neg =>
    have E : Hid (stmV key nonce size = []) := if_neg fun q => h4 q.2.2.2
    have d4 : decide (200000 < size) = true := by simp; omega
    clear h1 h2 h3 h4
    go_enter Try.func15, Try.ntmps15
    go_wp2_with fail
    refine (K _).out.mono ?_
    rintro e w1 ⟨rfl, hw⟩
    obtain rfl := hw.symm
    go_wp2
    go_ret
    exact ⟨by rw [E.out]; rfl, Below.refl _ _⟩
  have d4 : decide (200000 < size) = false := by simp; omega
  have E : Hid (stmV key nonce size = stB (sx0 key nonce) size.toNat) := if_pos ⟨h1, h2, h3, h4⟩
  obtain ⟨n, rfl⟩ := Int.eq_ofNat_of_zero_le h3
  have HX := sx0_bd key nonce
  have KP := fun wx => hid (sput_all nonce hn1 wx)
  have hz := putNum_size nonce
  have k2 := h1.2
  have KS := fun wx => hid (ssum_all (key ++ putNum nonce) 7 (by decide) (by rw [sizeApp]; omega) wx)
  have e7 : sumOf (key ++ putNum nonce) 7 = sx0 key nonce := rfl
  rw [e7] at KS
  obtain ⟨P, hP⟩ : ∃ P, P = putNum nonce := ⟨_, rfl⟩
  rw [← hP] at KP KS hz
  obtain ⟨X, hX⟩ : ∃ X, X = sx0 key nonce := ⟨_, rfl⟩
  rw [← hX] at KS HX E
  clear hP hX e7
  have zz : ¬ 9223372036854775807 < key.size + P.size := by omega
  have HXa := HX.1
  have HXb := HX.2
  clear h1 HX
  go_enter Try.func15, Try.ntmps15
  go_wp2_with fail
  refine (K _).out.mono ?_
  rintro e w1 ⟨rfl, hw⟩
  obtain rfl := hw.symm
  go_wp2_with fail
  refine (KP _).out.mono ?_
  rintro e w1 ⟨rfl, hb1⟩
  have B1 := hid hb1
  clear hb1
  go_wp2_with fail
  refine (KS _).out.mono ?_
  rintro e w2 ⟨rfl, hw⟩
  obtain rfl := hw.symm
  go_wp2_with fail
  clear d2 d3 d4 zz
  go_loopw [7, 8, 9] (fun x v i wr => ∃ k : Nat, k ≤ n ∧ x = .int .i64 (sX X k) ∧ i = .int .i64 (k : Int) ∧ OwnNums wr w1.heap.size 5 .u8 v (ni (stB X k)) ∧ Below w1.heap.size w1 wr) (fun _ _ i _ => n - (intOf i).toNat)
  case atStart => exact ⟨0, Nat.zero_le _, rfl, rfl, OwnNums.empty w1 5 .u8, (Below.refl _ _).alloc (Nat.le_refl _) _⟩
  case round =>
    obtain ⟨k, hk, rfl, rfl, hown, hbel⟩ := hrel
    have bd := sX_bd X HXa HXb k
    have ba := bd.1
    have bb := bd.2
    clear bd
    by_cases hlt : k < n
    · have hlt' : (k : Int) < (n : Int) := by omega
      have NX := hid (ni_stB X k)
      have SX : Hid (sX X (k + 1) = sX X k * 48271 % 2147483647) := rfl
      rw [SX.out] at NX
      have hl : (ni (stB X k)).length ≤ 200000 := by rw [ni_len, stB_len]; omega
      obtain ⟨x, hx⟩ : ∃ x, x = sX X k := ⟨_, rfl⟩
      rw [← hx] at ba bb NX SX ⊢
      have HXk := hid hx
      clear hx
      go_wp2_with (first | (at_builtin; refine append_num w1 wr rfl (.tmp 39) (.tmp 44) 22 rfl 5 .u8 1 Try.underlying22 Try.info5 (by decide) _ _ (x * 48271 % 2147483647 / 256 % 256) rfl hown hbel rfl (by omega) ?_) | go_in)
      intro v' w3 hown3 hbel3 _
      rw [← NX.out] at hown3
      go_wp2
      go_roundw
      case rel => exact ⟨k + 1, by omega, by rw [SX.out], by go_num, hown3, hbel3⟩
      case measure => simp [intOf]; omega
    · have hkn : k = n := by omega
      subst hkn
      have hlt' : ¬ (k : Int) < (k : Int) := by omega
      have hcv := conv_owned wr 22 5 9 Try.underlying22 Try.underlying5 Try.underlying9 hown
      rw [ni_str] at hcv
      have B2 := hid (B1.out.trans (hbel.mono B1.out.size))
      go_wp2
      go_ret
      exact ⟨by rw [E.out]; rfl, B2.out⟩
end Go.Proofs.Ytccokbfbkeknnaa
