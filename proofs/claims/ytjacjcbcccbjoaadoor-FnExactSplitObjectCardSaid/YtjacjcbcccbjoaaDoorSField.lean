import Derived.Test.YtjacjcbcccbjoaaDoorProg
import Derived.Test.YtjacjcbcccbjoaaDoorBase
import Derived.Test.YtjacjcbcccbjoaaDoorFieldBits
import Derived.WalkLawsBesides
import Derived.WalkSpells
import Derived.OpenShut
namespace Go.Proofs.YtjacjcbcccbjoaaDoor
open Go.RowKit
/-! The specification's products. -/
theorem mulR_fuel (w lo : Nat) : ∀ (n k a b : Nat), b < 2 ^ n → mulR w lo (n + k) a b = mulR w lo n a b
  | 0, k, a, b, h => by have : b = 0 := by simpa using h
                        subst this; rw [mulR_zero, mulR_zero]
  | n + 1, k, a, b, h => by
    rw [show n + 1 + k = (n + k) + 1 by omega]
    unfold mulR
    rw [mulR_fuel w lo n k _ _ (by rw [Nat.pow_succ] at h; omega)]
set_option maxRecDepth 20000 in
set_option maxHeartbeats 1000000 in
theorem stimes (W lo T P a b : Nat) (hw : 1 ≤ W) (hT : T = 2 ^ W) (hP : P = 2 ^ W + lo) (hl : lo < T) (hm : T ≤ 65536) (ha : a < T) (hb : b < T) (w : World) :
    Calls Tryd.prog 63 #[.int .i64 a, .int .i64 b, .int .i64 P, .int .i64 T] w fun e w' => e = .returned (.int .i64 (gm W lo a b : Nat)) ∧ w' = w := by
  go_enter Tryd.func63, Tryd.ntmps63
  go_wp2
  go_loop [0, 1, 9] (fun x y z => ∃ n A B p : Nat, B < 2 ^ n ∧ A < T ∧ B < T ∧ p < T ∧ p ^^^ mulR W lo n A B = gm W lo a b ∧ x = .int .i64 A ∧ y = .int .i64 B ∧ z = .int .i64 p) (fun _ y _ => (intOf y).toNat)
  case atStart => exact ⟨W, a, b, 0, by omega, ha, hb, by omega, by rw [Nat.zero_xor]; rfl, rfl, rfl, rfl⟩
  case round =>
    obtain ⟨n, A, B, p, hB, hA, hB2, hp, hacc, rfl, rfl, rfl⟩ := hrel
    have HB : Hid (B < 2 ^ n) := hB
    have HA : Hid (p ^^^ mulR W lo n A B = gm W lo a b) := hacc
    have HT : Hid (T = 2 ^ W) := hT
    have HP : Hid (P = 2 ^ W + lo) := hP
    have hP2 : P < 131072 := by omega
    clear hB hacc hT hP
    by_cases h0 : 0 < B
    · have hn : n ≠ 0 := by rintro rfl; have := HB.out; simp at this; omega
      obtain ⟨m, rfl⟩ := Nat.exists_eq_succ_of_ne_zero hn
      have HB' : Hid (B / 2 < 2 ^ m) := by have := HB.out; rw [Nat.pow_succ] at this; show B / 2 < 2 ^ m; omega
      have hx : xt W lo A < T := by rw [HT.out]; exact xt_lt W lo A (by rw [← HT.out]; exact hl)
      have hpx : p ^^^ A < T := by have h := HT.out; rw [h] at hp hA ⊢; exact Nat.xor_lt_two_pow hp hA
      have e1 : bits .xor .i64 (p : Int) (A : Int) = ((p ^^^ A : Nat) : Int) := i64_xor_nat p A (by omega) (by omega)
      have HX : Hid (2 * A < T → xt W lo A = 2 * A) := fun h => xt_small W lo A hw (by rw [← HT.out]; exact h)
      have HY : Hid (T ≤ 2 * A → xt W lo A = (2 * A) ^^^ P) := fun h => by rw [HP.out]; exact xt_poly W lo A hw (by rw [← HT.out]; exact hA) (by rw [← HT.out]; exact hl) (by rw [← HT.out]; exact h)
      have e2 : bits .xor .i64 ((A : Int) * 2) (P : Int) = (((2 * A) ^^^ P : Nat) : Int) := by
        have := i64_xor_nat (2 * A) P (by omega) (by omega)
        rw [← this]; congr 1; omega
      by_cases ho : B % 2 = 1
      · have HS : Hid ((p ^^^ A) ^^^ mulR W lo m (xt W lo A) (B / 2) = gm W lo a b) := by
          have := HA.out; unfold mulR at this; rw [if_pos ho] at this; show _ = _; rw [Nat.xor_assoc]; exact this
        by_cases ht : 2 * A < T
        · go_wp2
          go_round
          case rel => exact ⟨m, xt W lo A, B / 2, p ^^^ A, HB'.out, hx, by omega, hpx, HS.out, by rw [HX.out ht]; go_num, by go_num, by go_num⟩
          case measure => simp [intOf]; omega
        · go_wp2
          go_round
          case rel => exact ⟨m, xt W lo A, B / 2, p ^^^ A, HB'.out, hx, by omega, hpx, HS.out, by rw [HY.out (by omega)], by go_num, by go_num⟩
          case measure => simp [intOf]; omega
      · have HS : Hid (p ^^^ mulR W lo m (xt W lo A) (B / 2) = gm W lo a b) := by
          have := HA.out; unfold mulR at this; rw [if_neg ho, Nat.zero_xor] at this; exact this
        by_cases ht : 2 * A < T
        · go_wp2
          go_round
          case rel => exact ⟨m, xt W lo A, B / 2, p, HB'.out, hx, by omega, hp, HS.out, by rw [HX.out ht]; go_num, by go_num, by go_num⟩
          case measure => simp [intOf]; omega
        · go_wp2
          go_round
          case rel => exact ⟨m, xt W lo A, B / 2, p, HB'.out, hx, by omega, hp, HS.out, by rw [HY.out (by omega)], by go_num, by go_num⟩
          case measure => simp [intOf]; omega
    · have hB0 : B = 0 := by omega
      subst hB0
      have HE : Hid (p = gm W lo a b) := by have := HA.out; rw [mulR_zero, Nat.xor_zero] at this; exact this
      go_wp2
      go_ret
      exact ⟨congrArg (fun x : Nat => Ending.returned (.int .i64 (x : Int))) HE.out, rfl⟩

def inT (T : Int) (a : Int) : Bool := decide (0 ≤ a ∧ a < T)
set_option maxHeartbeats 400000 in
theorem sin (a T : Int) (w : World) :
    Calls Tryd.prog 62 #[.int .i64 a, .int .i64 T] w fun e w' => e = .returned (.bool (inT T a)) ∧ w' = w := by
  by_cases h0 : 0 ≤ a
  · by_cases h1 : a < T
    · have d0 : decide (0 ≤ a) = true := by simp; omega
      have d1 : decide (a < T) = true := by simp; omega
      have d2 : inT T a = true := by unfold inT; simp; omega
      rw [d2]
      go_enter Tryd.func62, Tryd.ntmps62
      go_wp2
      go_ret
      exact ⟨rfl, rfl⟩
    · have d0 : decide (0 ≤ a) = true := by simp; omega
      have d1 : decide (a < T) = false := by simp; omega
      have d2 : inT T a = false := by unfold inT; simp; omega
      rw [d2]
      go_enter Tryd.func62, Tryd.ntmps62
      go_wp2
      go_ret
      exact ⟨rfl, rfl⟩
  · have d0 : decide (0 ≤ a) = false := by simp; omega
    have d2 : inT T a = false := by unfold inT; simp; omega
    rw [d2]
    go_enter Tryd.func62, Tryd.ntmps62
    go_wp2
    go_ret
    exact ⟨rfl, rfl⟩
/-- A product of numbers of any size. -/
def mulI (W lo : Nat) (a b : Int) : Int := if inT (2 ^ W : Nat) a && inT (2 ^ W : Nat) b then (gm W lo a.toNat b.toNat : Nat) else -1
theorem inT_nat {T : Nat} {a : Int} (h : inT T a = true) : ∃ A : Nat, a = A ∧ A < T := by
  unfold inT at h; simp at h; exact ⟨a.toNat, by omega, by omega⟩
set_option maxRecDepth 20000 in
set_option maxHeartbeats 400000 in
theorem smul8 (a b : Int) (w : World) :
    Calls Tryd.prog 52 #[.int .i64 a, .int .i64 b] w fun e w' => e = .returned (.int .i64 (mulI 8 29 a b)) ∧ w' = w := by
  unfold mulI
  have e8 : ((2 ^ 8 : Nat) : Int) = 256 := rfl
  rw [e8]
  cases hA : inT 256 a with
  | false =>
    rw [Bool.false_and, if_neg (by decide)]
    go_enter Tryd.func52, Tryd.ntmps52
    go_wp2_with fail
    refine (sin a 256 _).mono ?_
    rintro e w1 ⟨rfl, rfl⟩
    go_wp2
    go_ret
    exact ⟨rfl, rfl⟩
  | true =>
    cases hB : inT 256 b with
    | false =>
      rw [Bool.and_false, if_neg (by decide)]
      go_enter Tryd.func52, Tryd.ntmps52
      go_wp2_with fail
      refine (sin a 256 _).mono ?_
      rintro e w1 ⟨rfl, rfl⟩
      go_wp2_with fail
      refine (sin b 256 _).mono ?_
      rintro e w1 ⟨rfl, rfl⟩
      go_wp2
      go_ret
      exact ⟨rfl, rfl⟩
    | true =>
      obtain ⟨A, rfl, hA2⟩ := inT_nat (T := 256) hA
      obtain ⟨B, rfl, hB2⟩ := inT_nat (T := 256) hB
      rw [Bool.and_true, if_pos rfl]
      go_enter Tryd.func52, Tryd.ntmps52
      go_wp2_with fail
      refine (sin A 256 _).mono ?_
      rintro e w1 ⟨rfl, rfl⟩
      go_wp2_with fail
      refine (sin B 256 _).mono ?_
      rintro e w1 ⟨rfl, rfl⟩
      go_wp2_with fail
      refine (stimes 8 29 256 285 A B (by decide) (by decide) (by decide) (by decide) (by decide) hA2 hB2 _).mono ?_
      rintro e w1 ⟨rfl, rfl⟩
      go_wp2
      go_ret
      exact ⟨rfl, rfl⟩
end Go.Proofs.YtjacjcbcccbjoaaDoor
