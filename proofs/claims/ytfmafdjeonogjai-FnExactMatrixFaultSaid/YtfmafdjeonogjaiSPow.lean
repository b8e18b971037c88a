import Derived.Test.YtfmafdjeonogjaiSField
namespace Go.Proofs.Ytfmafdjeonogjai
open Go.RowKit
/-! The specification's powers and inverses. -/
theorem inT_of {T A : Nat} (h : A < T) : inT T A = true := by unfold inT; simp; omega
theorem mulI_nat {W lo A B : Nat} (hA : A < 2 ^ W) (hB : B < 2 ^ W) : mulI W lo A B = (gm W lo A B : Nat) := by
  unfold mulI; rw [inT_of hA, inT_of hB]; rfl
theorem smul8n (A B : Nat) (hA : A < 256) (hB : B < 256) (w : World) :
    Calls Try.prog 9 #[.int .i64 A, .int .i64 B] w fun e w' => e = .returned (.int .i64 (gm 8 29 A B : Nat)) ∧ w' = w := by
  have := smul8 A B w; rw [mulI_nat (W := 8) hA hB] at this; exact this
theorem smul16n (A B : Nat) (hA : A < 65536) (hB : B < 65536) (w : World) :
    Calls Try.prog 15 #[.int .i64 A, .int .i64 B] w fun e w' => e = .returned (.int .i64 (gm 16 4107 A B : Nat)) ∧ w' = w := by
  have := smul16 A B w; rw [mulI_nat (W := 16) hA hB] at this; exact this
section
variable {w lo : Nat}
theorem gp_two (F : Fld w lo) {a : Nat} (ha : a < 2 ^ w) : gp w lo a 2 = gm w lo a a := by
  show gm w lo (gp w lo a 1) a = _; rw [gp_one F ha]
theorem gp_even (F : Fld w lo) {a n : Nat} (ha : a < 2 ^ w) (h : ¬ n % 2 = 1) : gp w lo a n = gp w lo (gm w lo a a) (n / 2) := by
  have e : n = 2 * (n / 2) := by omega
  conv => lhs; rw [e]
  rw [gp_mul F ha, gp_two F ha]
theorem gp_odd (F : Fld w lo) {a n : Nat} (ha : a < 2 ^ w) (h : n % 2 = 1) : gp w lo a n = gm w lo a (gp w lo (gm w lo a a) (n / 2)) := by
  have e : n = 2 * (n / 2) + 1 := by omega
  conv => lhs; rw [e]
  show gm w lo (gp w lo a (2 * (n / 2))) a = _
  rw [gp_mul F ha, gp_two F ha, gm_comm F (gp_lt F (gm_lt F a ha) _) ha]
end
/-- Powers and inverses of numbers of any size. -/
def powI (W lo : Nat) (a n : Int) : Int := if inT (2 ^ W : Nat) a && decide (0 ≤ n) then (gp W lo a.toNat n.toNat : Nat) else -1
def invI (W lo : Nat) (a : Int) : Int := if inT (2 ^ W : Nat) a then (gp W lo a.toNat (2 ^ W - 2) : Nat) else -1
set_option maxRecDepth 20000 in
set_option maxHeartbeats 1000000 in
theorem spow8n (a n : Nat) (ha : a < 256) (hn : n < 9223372036854775808) (w : World) :
    Calls Try.prog 13 #[.int .i64 a, .int .i64 n] w fun e w' => e = .returned (.int .i64 (gp 8 29 a n : Nat)) ∧ w' = w := by
  have F : Fld 8 29 := fld8.toFld
  have hin : inT 256 a = true := inT_of (T := 256) ha
  have d0 : decide ((n : Int) < 0) = false := by simp
  go_enter Try.func13, Try.ntmps13
  go_wp2_with fail
  refine (sin a 256 _).mono ?_
  rintro e w1 ⟨rfl, rfl⟩
  go_wp2
  go_loop [0, 1, 5] (fun x y z => ∃ A N p : Nat, A < 256 ∧ N ≤ n ∧ p < 256 ∧ gm 8 29 p (gp 8 29 A N) = gp 8 29 a n ∧ x = .int .i64 A ∧ y = .int .i64 N ∧ z = .int .i64 p) (fun _ y _ => (intOf y).toNat)
  case atStart => exact ⟨a, n, 1, ha, Nat.le_refl _, by decide, one_gm F (gp_lt F ha n), rfl, rfl, rfl⟩
  case round =>
    obtain ⟨A, N, p, hA, hN, hp, hacc, rfl, rfl, rfl⟩ := hrel
    have HA : Hid (gm 8 29 p (gp 8 29 A N) = gp 8 29 a n) := hacc
    clear hacc
    have hq : gm 8 29 A A < 256 := gm_lt F A hA
    by_cases h0 : 0 < N
    · by_cases ho : N % 2 = 1
      · have hr : gm 8 29 p A < 256 := gm_lt F A hp
        have HS : Hid (gm 8 29 (gm 8 29 p A) (gp 8 29 (gm 8 29 A A) (N / 2)) = gp 8 29 a n) := by
          have := HA.out; rw [gp_odd F hA ho] at this; show _ = _; rw [gm_assoc F hp hA (gp_lt F hq _)]; exact this
        go_wp2_with fail
        refine (smul8n p A hp hA _).mono ?_
        rintro e w2 ⟨rfl, rfl⟩
        go_wp2_with fail
        refine (smul8n A A hA hA _).mono ?_
        rintro e w2 ⟨rfl, rfl⟩
        go_wp2
        go_round
        case rel => exact ⟨gm 8 29 A A, N / 2, gm 8 29 p A, hq, by omega, hr, HS.out, rfl, by go_num, rfl⟩
        case measure => simp [intOf]; omega
      · have HS : Hid (gm 8 29 p (gp 8 29 (gm 8 29 A A) (N / 2)) = gp 8 29 a n) := by
          have := HA.out; rw [gp_even F hA ho] at this; exact this
        go_wp2_with fail
        refine (smul8n A A hA hA _).mono ?_
        rintro e w2 ⟨rfl, rfl⟩
        go_wp2
        go_round
        case rel => exact ⟨gm 8 29 A A, N / 2, p, hq, by omega, hp, HS.out, rfl, by go_num, rfl⟩
        case measure => simp [intOf]; omega
    · have hN0 : N = 0 := by omega
      subst hN0
      have HE : Hid (p = gp 8 29 a n) := by have := HA.out; rw [show gp 8 29 A 0 = 1 from rfl, gm_one F] at this; exact this
      go_wp2
      go_ret
      exact ⟨congrArg (fun x : Nat => Ending.returned (.int .i64 (x : Int))) HE.out, rfl⟩
set_option maxRecDepth 20000 in
set_option maxHeartbeats 400000 in
theorem spow8 (a n : Int) (hn : n ≤ 9223372036854775807) (w : World) :
    Calls Try.prog 13 #[.int .i64 a, .int .i64 n] w fun e w' => e = .returned (.int .i64 (powI 8 29 a n)) ∧ w' = w := by
  unfold powI
  have e8 : ((2 ^ 8 : Nat) : Int) = 256 := rfl
  rw [e8]
  cases hA : inT 256 a with
  | false =>
    rw [Bool.false_and, if_neg (by decide)]
    go_enter Try.func13, Try.ntmps13
    go_wp2_with fail
    refine (sin a 256 _).mono ?_
    rintro e w1 ⟨rfl, rfl⟩
    go_wp2
    go_ret
    exact ⟨rfl, rfl⟩
  | true =>
    by_cases h : 0 ≤ n
    · obtain ⟨A, rfl, hA2⟩ := inT_nat (T := 256) hA
      obtain ⟨N, rfl⟩ := Int.eq_ofNat_of_zero_le h
      rw [decide_eq_true h, Bool.and_true, if_pos rfl]
      exact spow8n A N hA2 (by omega) w
    · have d0 : decide (n < 0) = true := by simp; omega
      rw [decide_eq_false h, Bool.and_false, if_neg (by decide)]
      go_enter Try.func13, Try.ntmps13
      go_wp2_with fail
      refine (sin a 256 _).mono ?_
      rintro e w1 ⟨rfl, rfl⟩
      go_wp2
      go_ret
      exact ⟨rfl, rfl⟩
set_option maxRecDepth 20000 in
set_option maxHeartbeats 1000000 in
theorem sinv8 (a : Int) (w : World) :
    Calls Try.prog 11 #[.int .i64 a] w fun e w' => e = .returned (.int .i64 (invI 8 29 a)) ∧ w' = w := by
  unfold invI
  have e8 : ((2 ^ 8 : Nat) : Int) = 256 := rfl
  rw [e8]
  cases hA : inT 256 a with
  | false =>
    rw [if_neg (by decide)]
    go_enter Try.func11, Try.ntmps11
    go_wp2_with fail
    refine (sin a 256 _).mono ?_
    rintro e w1 ⟨rfl, rfl⟩
    go_wp2
    go_ret
    exact ⟨rfl, rfl⟩
  | true =>
    rw [if_pos rfl]
    obtain ⟨A, rfl, hA2⟩ := inT_nat (T := 256) hA
    have F : Fld 8 29 := fld8.toFld
    go_enter Try.func11, Try.ntmps11
    go_wp2_with fail
    refine (sin A 256 _).mono ?_
    rintro e w1 ⟨rfl, rfl⟩
    go_wp2
    go_loop [3] (fun x => ∃ X : Nat, 1 ≤ X ∧ X ≤ 256 ∧ (∀ y, y < X → gm 8 29 A y ≠ 1) ∧ x = .int .i64 X) (fun x => 256 - (intOf x).toNat)
    case atStart => exact ⟨1, Nat.le_refl _, by decide, fun y hy => by have : y = 0 := by omega
                                                                       subst this; rw [gm_zero]; decide, rfl⟩
    case round =>
      obtain ⟨X, hX1, hX2, hno, rfl⟩ := hrel
      have HN : Hid (∀ y, y < X → gm 8 29 A y ≠ 1) := hno
      clear hno
      by_cases hlt : X < 256
      · by_cases hone : gm 8 29 A X = 1
        · have d1 : ((gm 8 29 A X : Nat) : Int) = 1 := by omega
          have HI : Hid (X = gp 8 29 A 254) := inv8_one hA2 hlt hone
          go_wp2_with fail
          refine (smul8n A X hA2 hlt _).mono ?_
          rintro e w2 ⟨rfl, rfl⟩
          go_wp2
          go_ret
          exact ⟨congrArg (fun x : Nat => Ending.returned (.int .i64 (x : Int))) HI.out, rfl⟩
        · have d1 : (((gm 8 29 A X : Nat) : Int) == 1) = false := by simp; omega
          have HN' : Hid (∀ y, y < X + 1 → gm 8 29 A y ≠ 1) := fun y hy => by
            rcases Nat.lt_or_ge y X with h | h
            · exact HN.out y h
            · have : y = X := by omega
              subst this; exact hone
          clear hone
          go_wp2_with fail
          refine (smul8n A X hA2 hlt _).mono ?_
          rintro e w2 ⟨rfl, rfl⟩
          go_wp2
          go_round
          case rel => exact ⟨X + 1, by omega, by omega, HN'.out, by go_num⟩
          case measure => simp [intOf]; omega
      · have HZ : Hid (0 = gp 8 29 A 254) := by
          by_cases hz : A = 0
          · subst hz; exact (gp_zero (w := 8) (lo := 29) (by decide)).symm
          · have hg : gp 8 29 A 254 < 256 := gp_lt F hA2 254
            exact absurd (inv8 hA2 hz) (HN.out _ (by omega))
        go_wp2
        go_ret
        exact ⟨congrArg (fun x : Nat => Ending.returned (.int .i64 (x : Int))) HZ.out, rfl⟩
set_option maxRecDepth 20000 in
set_option maxHeartbeats 1000000 in
theorem sinv16n (a G : Nat) (ha : a < 65536) (hz : ¬ a = 0) (HG : Hid (gp 16 4107 a 65534 = G)) (w : World) :
    Calls Try.prog 17 #[.int .i64 a] w fun e w' => e = .returned (.int .i64 (G : Nat)) ∧ w' = w := by
  have F : Fld 16 4107 := fld16.toFld
  have hin : inT 65536 a = true := inT_of (T := 65536) ha
  have d0 : ((a : Int) == 0) = false := by simp; omega
  go_enter Try.func17, Try.ntmps17
  go_wp2_with fail
  refine (sin a 65536 _).mono ?_
  rintro e w1 ⟨rfl, rfl⟩
  go_wp2
  go_loop [0, 3, 4] (fun x z y => ∃ A N p : Nat, A < 65536 ∧ N < 65536 ∧ p < 65536 ∧ gm 16 4107 p (gp 16 4107 A N) = G ∧ x = .int .i64 A ∧ y = .int .i64 N ∧ z = .int .i64 p) (fun _ _ y => (intOf y).toNat)
  case atStart => exact ⟨a, 65534, 1, ha, by decide, by decide, by rw [one_gm F (gp_lt F ha 65534)]; exact HG.out, rfl, rfl, rfl⟩
  case round =>
    obtain ⟨A, N, p, hA, hN, hp, hacc, rfl, rfl, rfl⟩ := hrel
    have HA : Hid (gm 16 4107 p (gp 16 4107 A N) = G) := hacc
    clear hacc HG hin d0
    have hq : gm 16 4107 A A < 65536 := gm_lt F A hA
    by_cases h0 : 0 < N
    · by_cases ho : N % 2 = 1
      · have hr : gm 16 4107 p A < 65536 := gm_lt F A hp
        have HS : Hid (gm 16 4107 (gm 16 4107 p A) (gp 16 4107 (gm 16 4107 A A) (N / 2)) = G) := by
          have := HA.out; rw [gp_odd F hA ho] at this; show _ = _; rw [gm_assoc F hp hA (gp_lt F hq _)]; exact this
        go_wp2_with fail
        refine (smul16n p A hp hA _).mono ?_
        rintro e w2 ⟨rfl, rfl⟩
        go_wp2_with fail
        refine (smul16n A A hA hA _).mono ?_
        rintro e w2 ⟨rfl, rfl⟩
        go_wp2
        go_round
        case rel => exact ⟨gm 16 4107 A A, N / 2, gm 16 4107 p A, hq, by omega, hr, HS.out, rfl, by go_num, rfl⟩
        case measure => simp [intOf]; omega
      · have HS : Hid (gm 16 4107 p (gp 16 4107 (gm 16 4107 A A) (N / 2)) = G) := by
          have := HA.out; rw [gp_even F hA ho] at this; exact this
        go_wp2_with fail
        refine (smul16n A A hA hA _).mono ?_
        rintro e w2 ⟨rfl, rfl⟩
        go_wp2
        go_round
        case rel => exact ⟨gm 16 4107 A A, N / 2, p, hq, by omega, hp, HS.out, rfl, by go_num, rfl⟩
        case measure => simp [intOf]; omega
    · have hN0 : N = 0 := by omega
      subst hN0
      have HE : Hid (p = G) := by have := HA.out; rw [show gp 16 4107 A 0 = 1 from rfl, gm_one F] at this; exact this
      go_wp2
      go_ret
      exact ⟨congrArg (fun x : Nat => Ending.returned (.int .i64 (x : Int))) HE.out, rfl⟩
set_option maxRecDepth 20000 in
set_option maxHeartbeats 1000000 in
theorem sinv16 (a : Int) (w : World) :
    Calls Try.prog 17 #[.int .i64 a] w fun e w' => e = .returned (.int .i64 (invI 16 4107 a)) ∧ w' = w := by
  unfold invI
  have e8 : ((2 ^ 16 : Nat) : Int) = 65536 := rfl
  rw [e8]
  cases hA : inT 65536 a with
  | false =>
    rw [if_neg (by decide)]
    go_enter Try.func17, Try.ntmps17
    go_wp2_with fail
    refine (sin a 65536 _).mono ?_
    rintro e w1 ⟨rfl, rfl⟩
    go_wp2
    go_ret
    exact ⟨rfl, rfl⟩
  | true =>
    rw [if_pos rfl]
    obtain ⟨a, rfl, ha⟩ := inT_nat (T := 65536) hA
    have F : Fld 16 4107 := fld16.toFld
    by_cases hz : a = 0
    · subst hz
      have HZ : Hid (0 = gp 16 4107 0 65534) := (gp_zero (w := 16) (lo := 4107) (by decide)).symm
      go_enter Try.func17, Try.ntmps17
      go_wp2_with fail
      refine (sin 0 65536 _).mono ?_
      rintro e w1 ⟨rfl, rfl⟩
      go_wp2
      go_ret
      exact ⟨congrArg (fun x : Nat => Ending.returned (.int .i64 (x : Int))) HZ.out, rfl⟩
    · exact sinv16n a _ ha hz rfl w
end Go.Proofs.Ytfmafdjeonogjai
