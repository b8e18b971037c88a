import Derived.Test.YtjacjcbcccbjoaaDoorSField
namespace Go.Proofs.YtjacjcbcccbjoaaDoor
open Go.RowKit
/-! The specification's powers and inverses. -/
theorem inT_of {T A : Nat} (h : A < T) : inT T A = true := by unfold inT; simp; omega
theorem mulI_nat {W lo A B : Nat} (hA : A < 2 ^ W) (hB : B < 2 ^ W) : mulI W lo A B = (gm W lo A B : Nat) := by
  unfold mulI; rw [inT_of hA, inT_of hB]; rfl
theorem smul8n (A B : Nat) (hA : A < 256) (hB : B < 256) (w : World) :
    Calls Tryd.prog 52 #[.int .i64 A, .int .i64 B] w fun e w' => e = .returned (.int .i64 (gm 8 29 A B : Nat)) ∧ w' = w := by
  have := smul8 A B w; rw [mulI_nat (W := 8) hA hB] at this; exact this
section
variable {w lo : Nat}
theorem gp_two (F : Fld w lo) {a : Nat} (ha : a < 2 ^ w) : gp w lo a 2 = gm w lo a a := by
  show gm w lo (gp w lo a 1) a = _; rw [gp_one F ha]
theorem gp_even (F : Fld w lo) {a n : Nat} (ha : a < 2 ^ w) (h : ¬ n % 2 = 1) : gp w lo a n = gp w lo (gm w lo a a) (n / 2) := by
  have e : n = 2 * (n / 2) := by omega
  conv => lhs; rw [e]
  rw [gp_mul F ha, gp_two F ha]
theorem gp_odd (F : Fld w lo) {a n : Nat} (ha : a < 2 ^ w) (h : n % 2 = 1) : gp w lo a n = gm w lo a (gp w lo (gm w lo a a) (n / 2)) := by
  have e : n = 2 * (n / 2) + 1 := by omega
  conv => lhs; rw [e]
  show gm w lo (gp w lo a (2 * (n / 2))) a = _
  rw [gp_mul F ha, gp_two F ha, gm_comm F (gp_lt F (gm_lt F a ha) _) ha]
end
/-- Powers and inverses of numbers of any size. -/
def powI (W lo : Nat) (a n : Int) : Int := if inT (2 ^ W : Nat) a && decide (0 ≤ n) then (gp W lo a.toNat n.toNat : Nat) else -1
def invI (W lo : Nat) (a : Int) : Int := if inT (2 ^ W : Nat) a then (gp W lo a.toNat (2 ^ W - 2) : Nat) else -1
set_option maxRecDepth 20000 in
set_option maxHeartbeats 1000000 in
theorem sinv8 (a : Int) (w : World) :
    Calls Tryd.prog 53 #[.int .i64 a] w fun e w' => e = .returned (.int .i64 (invI 8 29 a)) ∧ w' = w := by
  unfold invI
  have e8 : ((2 ^ 8 : Nat) : Int) = 256 := rfl
  rw [e8]
  cases hA : inT 256 a with
  | false =>
    rw [if_neg (by decide)]
    go_enter Tryd.func53, Tryd.ntmps53
    go_wp2_with fail
    refine (sin a 256 _).mono ?_
    rintro e w1 ⟨rfl, rfl⟩
    go_wp2
    go_ret
    exact ⟨rfl, rfl⟩
  | true =>
    rw [if_pos rfl]
    obtain ⟨A, rfl, hA2⟩ := inT_nat (T := 256) hA
    have F : Fld 8 29 := fld8.toFld
    go_enter Tryd.func53, Tryd.ntmps53
    go_wp2_with fail
    refine (sin A 256 _).mono ?_
    rintro e w1 ⟨rfl, rfl⟩
    go_wp2
    go_loop [3] (fun x => ∃ X : Nat, 1 ≤ X ∧ X ≤ 256 ∧ (∀ y, y < X → gm 8 29 A y ≠ 1) ∧ x = .int .i64 X) (fun x => 256 - (intOf x).toNat)
    case atStart => exact ⟨1, Nat.le_refl _, by decide, fun y hy => by have : y = 0 := by omega
                                                                       subst this; rw [gm_zero]; decide, rfl⟩
    case round =>
      obtain ⟨X, hX1, hX2, hno, rfl⟩ := hrel
      have HN : Hid (∀ y, y < X → gm 8 29 A y ≠ 1) := hno
      clear hno
      by_cases hlt : X < 256
      · by_cases hone : gm 8 29 A X = 1
        · have d1 : ((gm 8 29 A X : Nat) : Int) = 1 := by omega
          have HI : Hid (X = gp 8 29 A 254) := inv8_one hA2 hlt hone
          go_wp2_with fail
          refine (smul8n A X hA2 hlt _).mono ?_
          rintro e w2 ⟨rfl, rfl⟩
          go_wp2
          go_ret
          exact ⟨congrArg (fun x : Nat => Ending.returned (.int .i64 (x : Int))) HI.out, rfl⟩
        · have d1 : (((gm 8 29 A X : Nat) : Int) == 1) = false := by simp; omega
          have HN' : Hid (∀ y, y < X + 1 → gm 8 29 A y ≠ 1) := fun y hy => by
            rcases Nat.lt_or_ge y X with h | h
            · exact HN.out y h
            · have : y = X := by omega
              subst this; exact hone
          clear hone
          go_wp2_with fail
          refine (smul8n A X hA2 hlt _).mono ?_
          rintro e w2 ⟨rfl, rfl⟩
          go_wp2
          go_round
          case rel => exact ⟨X + 1, by omega, by omega, HN'.out, by go_num⟩
          case measure => simp [intOf]; omega
      · have HZ : Hid (0 = gp 8 29 A 254) := by
          by_cases hz : A = 0
          · subst hz; exact (gp_zero (w := 8) (lo := 29) (by decide)).symm
          · have hg : gp 8 29 A 254 < 256 := gp_lt F hA2 254
            exact absurd (inv8 hA2 hz) (HN.out _ (by omega))
        go_wp2
        go_ret
        exact ⟨congrArg (fun x : Nat => Ending.returned (.int .i64 (x : Int))) HZ.out, rfl⟩
end Go.Proofs.YtjacjcbcccbjoaaDoor
