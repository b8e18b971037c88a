import Derived.Test.YthdmaamocejodaaSStripe
namespace Go.Proofs.Ythdmaamocejodaa
open Go.RowKit
/-! The program's own count of stripes. -/
abbrev lyv (k m g u : Int) : Value := .agg #[.int .i64 k, .int .i64 m, .int .i64 g, .int .i64 u]
abbrev lya (k m g u : Int) : Array Value := #[.int .i64 k, .int .i64 m, .int .i64 g, .int .i64 u]
set_option maxRecDepth 20000 in
set_option maxHeartbeats 2000000 in
theorem isb (K M G U Z : Nat) (hz : (K : Int) * (U : Int) = (Z : Int)) (hZ : Z ≤ 131072) (w : World) :
    Calls Try.prog 15 #[lyv K M G U] w fun e w' => e = .returned (.int .i64 (Z : Int)) ∧ w' = w.alloc (.cells (lya K M G U) 37) := by
  go_enter Try.func15, Try.ntmps15
  go_wp2
  go_ret
  exact ⟨rfl, rfl⟩
set_option maxRecDepth 20000 in
set_option maxHeartbeats 2000000 in
theorem iStripe (k m g u s : Int) (w : World) :
    Calls Try.prog 7 #[cdv k m g, .int .i64 u, .int .i64 s] w fun e w' => e = .returned (.int .i64 (stripeN k m g u s)) ∧ Below w.heap.size w w' := by
  go_enter Try.func7, Try.ntmps7
  go_wp2_with fail
  refine (iCfault _ _ _ _).mono ?_
  rintro e w1 ⟨rfl, hw1⟩
  rcases cfault_01 k m g with hf | hf
  · rw [hf]
    obtain ⟨K, M, G, rfl, rfl, rfl, h1, h2, h3, h4, h5⟩ := cfault_ok hf
    have HF := hid hf
    have C1 : Hid (RowAt w1 w.heap.size 25 (cda K M G)) := by rw [hw1]; exact (RowAt.new w _ _).alloc _
    have HW : Hid (Below w.heap.size w w1) := by rw [hw1]; exact bal (bal (Below.refl _ _) (.cells (cda _ _ _) 25) (Nat.le_refl _)) (.cells (cda _ _ _) 25) (Nat.le_refl _)
    have Z1 := hid hw1
    clear hf hw1
    by_cases u0 : u < 1
    · have E : Hid (stripeN K M G u s = -1) := if_neg (by omega)
      have d0 : decide (u < 1) = true := by simp; omega
      go_wp2
      go_ret
      exact ⟨by rw [E.out]; rfl, HW.out⟩
    have d0 : decide (u < 1) = false := by simp; omega
    by_cases u1 : 4096 < u
    · have E : Hid (stripeN K M G u s = -1) := if_neg (by omega)
      have d1 : decide (4096 < u) = true := by simp; omega
      go_wp2
      go_ret
      exact ⟨by rw [E.out]; rfl, HW.out⟩
    have d1 : decide (4096 < u) = false := by simp; omega
    by_cases u2 : s < 0
    · have E : Hid (stripeN K M G u s = -1) := if_neg (by omega)
      have d2 : decide (s < 0) = true := by simp; omega
      go_wp2
      go_ret
      exact ⟨by rw [E.out]; rfl, HW.out⟩
    have d2 : decide (s < 0) = false := by simp; omega
    by_cases u3 : 100000 < s
    · have E : Hid (stripeN K M G u s = -1) := if_neg (by omega)
      have d3 : decide (100000 < s) = true := by simp; omega
      go_wp2
      go_ret
      exact ⟨by rw [E.out]; rfl, HW.out⟩
    have d3 : decide (100000 < s) = false := by simp; omega
    obtain ⟨U, rfl⟩ := Int.eq_ofNat_of_zero_le (show 0 ≤ u by omega)
    obtain ⟨S, rfl⟩ := Int.eq_ofNat_of_zero_le (show 0 ≤ s by omega)
    have E : Hid _ := stripe_nat h1 h2 h3 h4 h5 (show 1 ≤ U by omega) (show U ≤ 4096 by omega) (show S ≤ 100000 by omega)
    have hp1 : 1 ≤ K * U := Nat.mul_pos (by omega) (by omega)
    have hp2 : K * U ≤ 32 * 4096 := Nat.mul_le_mul h2 (by omega)
    have eP : ((K : Int) * (U : Int)) = ((K * U : Nat) : Int) := by rw [Int.natCast_mul]
    obtain ⟨Z, hZ⟩ : ∃ Z, Z = K * U := ⟨_, rfl⟩
    rw [← hZ] at E hp1 hp2 eP
    obtain ⟨N, hN⟩ : ∃ N, N = (S + Z - 1) / Z := ⟨_, rfl⟩
    rw [← hN] at E
    have eD : ((S : Int) + (Z : Int) - 1).tdiv (Z : Int) = (N : Int) := by
      rw [Int.tdiv_eq_ediv_of_nonneg (by omega), hN, Int.natCast_ediv, Int.natCast_sub (by omega), Int.natCast_add]; rfl
    have eD' : ((S : Int) + (Z : Int) - 1) / (Z : Int) = (N : Int) := by
      rw [hN, Int.natCast_ediv, Int.natCast_sub (by omega), Int.natCast_add]; rfl
    have hNS : N ≤ 100000 := by
      rw [hN]
      have h9 : (S + Z - 1) / Z < S + 1 := by
        rw [Nat.div_lt_iff_lt_mul (by omega)]
        have := Nat.mul_le_mul_left S hp1
        rw [Nat.add_mul]; omega
      omega
    have hS1 : S ≤ 100000 := by omega
    have hZ1 : Z ≤ 131072 := by omega
    have HZ := hid hZ
    have HN := hid hN
    have d0 := C1.out.cell 0
    have d1 := C1.out.cell 1
    have d2 := C1.out.cell 2
    clear hZ hN u0 u1 u2 u3 C1 Z1
    by_cases hn : 200 < N
    · have d5 : (200 : Int) < (N : Int) := by omega
      have E2 : Hid (stripeN K M G U S = -1) := by rw [E.out]; exact if_neg (by omega)
      clear E
      go_wp2_with fail
      go_region_with ((go_at_call 15; refine (isb K M G U Z eP hZ1 _).mono ?_; rintro e w2 ⟨rfl, rfl⟩))
      all_goals go_wp2
      all_goals go_ret
      all_goals exact ⟨by rw [E2.out]; rfl, (bal (bal (bal HW.out _ (Nat.le_refl _)) _ (Nat.le_refl _)) _ (Nat.le_refl _)).drew⟩
    · have d5 : ¬ (200 : Int) < (N : Int) := by omega
      have E2 : Hid (stripeN K M G U S = (N : Int)) := by rw [E.out]; exact if_pos (by omega)
      clear E
      go_wp2_with fail
      go_region_with ((go_at_call 15; refine (isb K M G U Z eP hZ1 _).mono ?_; rintro e w2 ⟨rfl, rfl⟩))
      all_goals go_wp2
      all_goals go_ret
      all_goals exact ⟨by rw [E2.out]; rfl, (bal (bal (bal HW.out _ (Nat.le_refl _)) _ (Nat.le_refl _)) _ (Nat.le_refl _)).drew⟩
  · rw [hf]
    have E : Hid (stripeN k m g u s = -1) := if_neg (fun h => by rw [hf] at h; exact absurd h.1 (by decide))
    have HW : Hid (Below w.heap.size w w1) := by rw [hw1]; exact bal (bal (Below.refl _ _) (.cells (cda _ _ _) 25) (Nat.le_refl _)) (.cells (cda _ _ _) 25) (Nat.le_refl _)
    have Z1 := hid hw1
    clear hf hw1
    go_wp2
    go_ret
    exact ⟨by rw [E.out]; rfl, HW.out⟩
end Go.Proofs.Ythdmaamocejodaa
