import Derived.Test.YthdmaamocejodaaCodeF
namespace Go.Proofs.Ythdmaamocejodaa
open Go.RowKit
/-! How many stripes an object has. -/
def stripeN (k m g u s : Int) : Int := if cfault k m g = 0 ∧ 1 ≤ u ∧ u ≤ 4096 ∧ 0 ≤ s ∧ s ≤ 100000 ∧ (s + k * u - 1) / (k * u) ≤ 200 then (s + k * u - 1) / (k * u) else -1
/-- what there is where there is a count -/
theorem stripe_ok {k m g u s : Int} (h : stripeN k m g u s ≠ -1) : ∃ K M G U S : Nat, k = K ∧ m = M ∧ g = G ∧ u = U ∧ s = S ∧ 1 ≤ K ∧ K ≤ 32 ∧ M ≤ 16 ∧ G ≤ K ∧ K + M + G ≤ 64 ∧ 1 ≤ U ∧ U ≤ 4096 ∧ S ≤ 100000 ∧ (S + K * U - 1) / (K * U) ≤ 200 ∧ stripeN k m g u s = (((S + K * U - 1) / (K * U) : Nat) : Int) := by
  unfold stripeN at h ⊢
  by_cases q : cfault k m g = 0 ∧ 1 ≤ u ∧ u ≤ 4096 ∧ 0 ≤ s ∧ s ≤ 100000 ∧ (s + k * u - 1) / (k * u) ≤ 200
  · obtain ⟨q0, q1, q2, q3, q4, q5⟩ := q
    obtain ⟨K, M, G, rfl, rfl, rfl, h1, h2, h3, h4, h5⟩ := cfault_ok q0
    obtain ⟨U, rfl⟩ := Int.eq_ofNat_of_zero_le (show 0 ≤ u by omega)
    obtain ⟨S, rfl⟩ := Int.eq_ofNat_of_zero_le q3
    have hp : 1 ≤ K * U := Nat.mul_pos (by omega) (by omega)
    have e : ((S : Int) + K * U - 1) / (K * U) = (((S + K * U - 1) / (K * U) : Nat) : Int) := by
      rw [Int.natCast_ediv, Int.natCast_sub (by omega), Int.natCast_add, Int.natCast_mul]; rfl
    rw [if_pos ⟨q0, q1, q2, q3, q4, q5⟩]
    exact ⟨K, M, G, U, S, rfl, rfl, rfl, rfl, rfl, h1, h2, h3, h4, h5, by omega, by omega, by omega, by omega, e⟩
  · rw [if_neg q] at h; exact absurd rfl h
theorem stripe_nat {K M G U S : Nat} (h1 : 1 ≤ K) (h2 : K ≤ 32) (h3 : M ≤ 16) (h4 : G ≤ K) (h5 : K + M + G ≤ 64) (h6 : 1 ≤ U) (h7 : U ≤ 4096) (h8 : S ≤ 100000) :
    stripeN K M G U S = if (S + K * U - 1) / (K * U) ≤ 200 then (((S + K * U - 1) / (K * U) : Nat) : Int) else -1 := by
  have hp : 1 ≤ K * U := Nat.mul_pos (by omega) (by omega)
  have e : ((S : Int) + K * U - 1) / (K * U) = (((S + K * U - 1) / (K * U) : Nat) : Int) := by
    rw [Int.natCast_ediv, Int.natCast_sub (by omega), Int.natCast_add, Int.natCast_mul]; rfl
  unfold stripeN
  rw [e, cfault_of h1 h2 h3 h4 h5]
  by_cases q : (S + K * U - 1) / (K * U) ≤ 200
  · rw [if_pos q, if_pos ⟨rfl, by omega, by omega, by omega, by omega, by omega⟩]
  · rw [if_neg q, if_neg (fun h => q (by have := h.2.2.2.2.2; omega))]
theorem stripe_lo (k m g u s : Int) : stripeN k m g u s = -1 ∨ (0 ≤ stripeN k m g u s ∧ stripeN k m g u s ≤ 200) := by
  by_cases h : stripeN k m g u s = -1
  · exact Or.inl h
  · obtain ⟨K, M, G, U, S, _, _, _, _, _, _, _, _, _, _, _, _, _, hn, e⟩ := stripe_ok h
    rw [e]; exact Or.inr ⟨Int.natCast_nonneg _, (Int.ofNat_le.2 hn : _ ≤ ((200 : Nat) : Int))⟩
set_option maxRecDepth 20000 in
set_option maxHeartbeats 2000000 in
theorem sStripe (k m g u s : Int) (w : World) :
    Calls Try.prog 5 #[cdv k m g, .int .i64 u, .int .i64 s] w fun e w' => e = .returned (.int .i64 (stripeN k m g u s)) ∧ w' = (w.alloc (.cells (cda k m g) 25)).alloc (.cells (cda k m g) 25) := by
  go_enter Try.func5, Try.ntmps5
  go_wp2_with fail
  refine (sCfault _ _ _ _).mono ?_
  rintro e w1 ⟨rfl, hw1⟩
  rcases cfault_01 k m g with hf | hf
  · rw [hf]
    obtain ⟨K, M, G, rfl, rfl, rfl, h1, h2, h3, h4, h5⟩ := cfault_ok hf
    have HF := hid hf
    have C1 : Hid (RowAt w1 w.heap.size 25 (cda K M G)) := by rw [hw1]; exact (RowAt.new w _ _).alloc _
    have HW := hid hw1
    clear hf hw1
    by_cases u0 : u < 1
    · have E : Hid (stripeN K M G u s = -1) := if_neg (by omega)
      have d0 : decide (u < 1) = true := by simp; omega
      go_wp2
      go_ret
      exact ⟨by rw [E.out]; rfl, HW.out⟩
    have d0 : decide (u < 1) = false := by simp; omega
    by_cases u1 : 4096 < u
    · have E : Hid (stripeN K M G u s = -1) := if_neg (by omega)
      have d1 : decide (4096 < u) = true := by simp; omega
      go_wp2
      go_ret
      exact ⟨by rw [E.out]; rfl, HW.out⟩
    have d1 : decide (4096 < u) = false := by simp; omega
    by_cases u2 : s < 0
    · have E : Hid (stripeN K M G u s = -1) := if_neg (by omega)
      have d2 : decide (s < 0) = true := by simp; omega
      go_wp2
      go_ret
      exact ⟨by rw [E.out]; rfl, HW.out⟩
    have d2 : decide (s < 0) = false := by simp; omega
    by_cases u3 : 100000 < s
    · have E : Hid (stripeN K M G u s = -1) := if_neg (by omega)
      have d3 : decide (100000 < s) = true := by simp; omega
      go_wp2
      go_ret
      exact ⟨by rw [E.out]; rfl, HW.out⟩
    have d3 : decide (100000 < s) = false := by simp; omega
    obtain ⟨U, rfl⟩ := Int.eq_ofNat_of_zero_le (show 0 ≤ u by omega)
    obtain ⟨S, rfl⟩ := Int.eq_ofNat_of_zero_le (show 0 ≤ s by omega)
    have E : Hid _ := stripe_nat h1 h2 h3 h4 h5 (show 1 ≤ U by omega) (show U ≤ 4096 by omega) (show S ≤ 100000 by omega)
    have hp1 : 1 ≤ K * U := Nat.mul_pos (by omega) (by omega)
    have hp2 : K * U ≤ 32 * 4096 := Nat.mul_le_mul h2 (by omega)
    have eP : ((K : Int) * (U : Int)) = ((K * U : Nat) : Int) := by rw [Int.natCast_mul]
    obtain ⟨Z, hZ⟩ : ∃ Z, Z = K * U := ⟨_, rfl⟩
    rw [← hZ] at E hp1 hp2 eP
    obtain ⟨N, hN⟩ : ∃ N, N = (S + Z - 1) / Z := ⟨_, rfl⟩
    rw [← hN] at E
    have eD : ((S : Int) + (Z : Int) - 1).tdiv (Z : Int) = (N : Int) := by
      rw [Int.tdiv_eq_ediv_of_nonneg (by omega), hN, Int.natCast_ediv, Int.natCast_sub (by omega), Int.natCast_add]; rfl
    have eD' : ((S : Int) + (Z : Int) - 1) / (Z : Int) = (N : Int) := by
      rw [hN, Int.natCast_ediv, Int.natCast_sub (by omega), Int.natCast_add]; rfl
    have hNS : N ≤ 100000 := by
      rw [hN]
      have h9 : (S + Z - 1) / Z < S + 1 := by
        rw [Nat.div_lt_iff_lt_mul (by omega)]
        have := Nat.mul_le_mul_left S hp1
        rw [Nat.add_mul]; omega
      omega
    have hS1 : S ≤ 100000 := by omega
    have hZ1 : Z ≤ 131072 := by omega
    have HZ := hid hZ
    have HN := hid hN
    have c0 : w1.cell? ⟨w.heap.size, 0, none⟩ = some (.int .i64 K) := C1.out.cell 0
    clear hZ hN u0 u1 u2 u3 C1
    by_cases hn : 200 < N
    · have d5 : (200 : Int) < (N : Int) := by omega
      have E2 : Hid (stripeN K M G U S = -1) := by rw [E.out]; exact if_neg (by omega)
      clear E
      go_wp2
      go_ret
      exact ⟨by rw [E2.out]; rfl, HW.out⟩
    · have d5 : ¬ (200 : Int) < (N : Int) := by omega
      have E2 : Hid (stripeN K M G U S = (N : Int)) := by rw [E.out]; exact if_pos (by omega)
      clear E
      go_wp2
      go_ret
      exact ⟨by rw [E2.out]; rfl, HW.out⟩
  · rw [hf]
    have E : Hid (stripeN k m g u s = -1) := if_neg (fun h => by rw [hf] at h; exact absurd h.1 (by decide))
    have HW := hid hw1
    clear hf hw1
    go_wp2
    go_ret
    exact ⟨by rw [E.out]; rfl, HW.out⟩
end Go.Proofs.Ythdmaamocejodaa
