import Derived.Test.YtfmafdjeonogjajAnsKit
import Derived.Test.YtfmafdjeonogjajSCauNo
import Derived.Test.YtfmafdjeonogjajICau
namespace Go.Proofs.Ytfmafdjeonogjaj
open Go.RowKit
set_option maxRecDepth 20000 in
set_option maxHeartbeats 4000000 in
theorem fnExactCauchy_core (k R C : Int) (xs : List Int) (r c : Int) (hxl : xs.length ≤ 1048576) (w : World)
    (HS : ∀ w, Calls Try.prog 4 #[.int .i64 r, .int .i64 c] w fun e w' => Ans k R C xs w e w')
    (HI : ∀ w, Calls Try.prog 5 #[.int .i64 r, .int .i64 c] w fun e w' => Ans k R C xs w e w') :
    Calls Try.prog 3 #[.int .i64 r, .int .i64 c] w fun e w' => e = .returned (.bool true) ∧ Below w.heap.size w w' := by
  have HS' := hid HS
  have HI' := hid HI
  clear HS HI
  go_enter Try.func3, Try.ntmps3
  go_wp2_with fail
  refine (HS'.out _).mono ?_
  rintro e w1 ⟨a0, l0, c0, rfl, ho0, hb0⟩
  have hl0 := ho0.1
  have O0 := hid (Own.of ho0)
  have L1 := hid hb0
  clear ho0 hb0
  go_wp2_with fail
  refine (HI'.out _).mono ?_
  rintro e w2 ⟨a1, l1, c1, rfl, ho1, hb1⟩
  have hl1 := ho1.1
  rw [size_al] at ho1
  have O1 := hid (Own.of ho1)
  have hs12 := hb1.size
  rw [size_al] at hs12
  have P0 := hid ((RowAt.new w1 26 #[.int .i64 k, .int .i64 R, .int .i64 C, .slice a0 l0 c0]).below hb1 (by rw [size_al]; omega))
  have O0' := hid ((O0.out.alloc _).below hb1 (by rw [size_al]; omega))
  have L2 : Hid (Below w.heap.size w w2) := (L1.out.alloc L1.out.size _).trans (hb1.mono (by rw [size_al]; exact Nat.le_succ_of_le L1.out.size))
  have h01 := L1.out.size
  clear ho1 hb1 O0 L1
  obtain ⟨M, hM⟩ : ∃ M, M = 1 + l1 := ⟨_, rfl⟩
  have P0a := hid (P0.out.alloc (.cells #[.int .i64 k, .int .i64 R, .int .i64 C, .slice a1 l1 c1] 26))
  have P1a := hid (RowAt.new w2 26 #[.int .i64 k, .int .i64 R, .int .i64 C, .slice a1 l1 c1])
  have O0a := hid (O0'.out.alloc (.cells #[.int .i64 k, .int .i64 R, .int .i64 C, .slice a1 l1 c1] 26))
  have O1a := hid (O1.out.alloc (.cells #[.int .i64 k, .int .i64 R, .int .i64 C, .slice a1 l1 c1] 26))
  have L2a := hid (L2.out.alloc L2.out.size (.cells #[.int .i64 k, .int .i64 R, .int .i64 C, .slice a1 l1 c1] 26))
  clear P0 O0' O1 L2
  have r0 := P0a.out
  have r1 := P1a.out
  go_wp2_with (first
    | refine wpList_load_row rfl 26 (.tmp 6) rfl w2.heap.size rfl _ _ _ _ r1 Try.underlying26 rfl (by kernel_rfl) ?_
    | refine wpList_load_row rfl 26 (.tmp 5) rfl w1.heap.size rfl _ _ _ _ r0 Try.underlying26 rfl (by kernel_rfl) ?_)
  refine (eqMr k R C a1 l1 c1 a0 l0 c0 xs _ O1a.out.ints O0a.out.ints hxl).mono ?_
  rintro e w3 ⟨rfl, hb3⟩
  rw [size_al] at hb3
  have P03 := hid (P0a.out.below hb3 (by omega))
  have P13 := hid (P1a.out.below hb3 (by omega))
  have O03 := hid (O0a.out.below hb3 (by omega))
  have O13 := hid (O1a.out.below hb3 (by omega))
  have L3 := hid (L2a.out.trans (hb3.mono (by omega)))
  have hs3 := hb3.size
  rw [size_al] at hs3
  clear P0a P1a O0a O1a L2a hb3 r0 r1
  have r1 := P13.out
  go_wp2_with (refine wpList_load_row rfl 26 (.tmp 6) rfl w2.heap.size rfl _ _ _ _ r1 Try.underlying26 rfl (by kernel_rfl) ?_)
  refine (markMr1 k R C (w1.heap.size + 1) w2.heap.size a1 l1 c1 xs M hM _ O13.out (by omega)).mono ?_
  rintro e w4 ⟨rfl, ho4, ht4⟩
  have P04 := hid (P03.out.turned ht4 (by omega))
  have P14 := hid (P13.out.turned ht4 (by omega))
  have O04 := hid (O03.out.turned ht4 (by omega))
  have O14 := hid ho4
  have L4 := hid (ht4.below L3.out (by omega) (by omega))
  have hs4 := ht4.size
  clear P03 P13 O03 O13 L3 ho4 ht4 r1
  have r1 := P14.out
  go_wp2_with (refine wpList_load_row rfl 26 (.tmp 6) rfl w2.heap.size rfl _ _ _ _ r1 Try.underlying26 rfl (by kernel_rfl) ?_)
  refine (heldMr1 k R C (w1.heap.size + 1) w2.heap.size a1 l1 c1 M hM _ O14.out (by omega)).mono ?_
  rintro e w5 ⟨rfl, hb5⟩
  have P05 := hid (P04.out.below hb5 P04.out.lt)
  have P15 := hid (P14.out.below hb5 P14.out.lt)
  have O05 := hid (O04.out.below hb5 (by omega))
  have O15 := hid (O14.out.below hb5 (by omega))
  have L5 := hid (L4.out.trans (hb5.mono L4.out.size))
  have hs5 := hb5.size
  clear P04 P14 O04 O14 L4 hb5 r1
  have dM : decide ((M : Int) < 0) = false := by first | (simp; done) | (simp; omega)
  have dE : ((M : Int) != (M : Int)) = false := by simp
  go_wp2_with fail
  refine (HI'.out _).mono ?_
  rintro e w6 ⟨a2, l2, c2, rfl, ho6, hb6⟩
  have hl2 := ho6.1
  have O26 := hid (Own.of ho6)
  have P06 := hid (P05.out.below hb6 P05.out.lt)
  have P16 := hid (P15.out.below hb6 P15.out.lt)
  have O06 := hid (O05.out.below hb6 (by omega))
  have O16 := hid (O15.out.below hb6 (by omega))
  have L6 := hid (L5.out.trans (hb6.mono L5.out.size))
  have hs6 := hb6.size
  clear P05 P15 O05 O15 L5 ho6 hb6
  have r0 := P06.out.alloc (.cells #[.int .i64 k, .int .i64 R, .int .i64 C, .slice a2 l2 c2] 26)
  have r2 := RowAt.new w6 26 #[.int .i64 k, .int .i64 R, .int .i64 C, .slice a2 l2 c2]
  go_wp2_with (first
    | refine wpList_load_row rfl 26 (.tmp 9) rfl w6.heap.size rfl _ _ _ _ r2 Try.underlying26 rfl (by kernel_rfl) ?_
    | refine wpList_load_row rfl 26 (.tmp 5) rfl w1.heap.size rfl _ _ _ _ r0 Try.underlying26 rfl (by kernel_rfl) ?_)
  refine (eqMr k R C a2 l2 c2 a0 l0 c0 xs _ (O26.out.alloc _).ints (O06.out.alloc _).ints hxl).mono ?_
  rintro e w7 ⟨rfl, hb7⟩
  rw [size_al] at hb7
  have P17 := hid ((P16.out.alloc _).below hb7 (by omega))
  have O17 := hid ((O16.out.alloc _).below hb7 (by omega))
  have L7 := hid ((L6.out.alloc L6.out.size _).trans (hb7.mono (by have := L6.out.size; omega)))
  clear hb7 r0 r2 P16 O16 L6 P06 O06 O26
  have r1 := P17.out
  go_wp2_with (refine wpList_load_row rfl 26 (.tmp 6) rfl w2.heap.size rfl _ _ _ _ r1 Try.underlying26 rfl (by kernel_rfl) ?_)
  refine (heldMr1 k R C (w1.heap.size + 1) w2.heap.size a1 l1 c1 M hM _ O17.out (by omega)).mono ?_
  rintro e w8 ⟨rfl, hb8⟩
  have L8 := hid (L7.out.trans (hb8.mono L7.out.size))
  clear hb8 r1
  go_wp2
  go_ret
  exact ⟨rfl, L8.out⟩
theorem fnExactCauchy_walk {w : World} (r : Int) (_wr : (Lit.int .i64 r).wf = true) (c : Int) (_wc : (Lit.int .i64 c).wf = true) :
    Calls Try.prog 3 #[.int .i64 r, .int .i64 c] w fun e w' => e = .returned (.bool true) ∧ Below w.heap.size w w' := by
  by_cases h : 1 ≤ r ∧ r ≤ 64 ∧ 1 ≤ c ∧ c ≤ 64
  · obtain ⟨R, rfl⟩ := Int.eq_ofNat_of_zero_le (show 0 ≤ r by omega)
    obtain ⟨C, rfl⟩ := Int.eq_ofNat_of_zero_le (show 0 ≤ c by omega)
    have hq : R * C ≤ 64 * 64 := Nat.mul_le_mul (by omega) (by omega)
    refine fnExactCauchy_core 0 R C (nl (cauL R C)) R C (by rw [nl_len, cauL_len]; omega) w (fun w => ?_) (fun w => ?_)
    · refine (scauchy_ok R C (by omega) (by omega) (by omega) (by omega) w).mono ?_
      rintro e w' ⟨g, he, h1, h2, h3⟩
      exact Ans.yes he h1 h2 (by rw [nl_len, cauL_len]) h3
    · refine (icauchy_ok R C _ (by omega) (by omega) (by omega) (by omega) rfl w).mono ?_
      rintro e w' ⟨g, he, h1, h2, h3⟩
      exact Ans.yes he h1 h2 (by rw [nl_len, cauL_len]) h3
  · refine fnExactCauchy_core 1 0 0 [] r c (by decide) w (fun w => ?_) (fun w => ?_)
    · refine (scauchy_no r c w h).mono ?_
      rintro e w' ⟨he, hb⟩
      exact Ans.no he hb
    · refine (icauchy_no r c w h).mono ?_
      rintro e w' ⟨he, hb⟩
      exact Ans.no he hb
end Go.Proofs.Ytfmafdjeonogjaj
