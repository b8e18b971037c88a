import Derived.Test.YthdmaamocejodaaDoorISq8
import Derived.Deep.RegionWith
import Derived.Deep.DrawnRows
namespace Go.Proofs.YthdmaamocejodaaDoor
open Go.RowKit
attribute [local go_sem ↓] Go.wp_at_zero Go.wp_at_succ
set_option maxRecDepth 20000 in
set_option maxHeartbeats 4000000 in
theorem power8 (a n G : Nat) (ha : a < 256) (hn : n < 18446744073709551616) (HG : Hid (gp 8 29 a n = G)) (w : World) : Calls Tryd.prog 58 #[.agg #[.int .u8 29], .int .u8 a, .int .u64 n] w fun e w' => e = .returned (.int .u8 (G : Nat)) ∧ Below w.heap.size w w' := by
  have F : Fld2 8 29 := fld8
  go_enter Tryd.func58, Tryd.ntmps58
  go_wp2_with fail
  refine (squarings8 a ha _).mono ?_
  rintro e w1 ⟨xs, rfl, hxl, hxs, hb1⟩
  have HXS := hid hxs
  have r0 : RowAt w1 w.heap.size 129 #[.int .u8 29] := (RowAt.new w _ _).below hb1 (by rw [size_al]; omega)
  have hbel : Below w.heap.size w w1 := ((Below.refl _ _).alloc (Nat.le_refl _) _).trans (hb1.mono (by rw [size_al]; omega))
  have hlt := r0.lt
  have HZ : Hid ((Tryd.prog.info? 135).map (·.size) = some (cells8 xs).size) := by show _ = _; rw [cells8_size, hxl]; kernel_rfl
  clear hxs hb1
  go_wp2_with ((refine wpList_store_row rfl 135 (.tmp 7) (.tmp 12) rfl w1.heap.size (cells8 xs) rfl rfl _ _ (RowAt.new w1 _ _) HZ.out (by rw [cells8_size, hxl]; rfl) (cells8_one xs) ?_); rw [World.setRow_alloc_new])
  go_loopw [2, 8, 9] (fun x z y wr => ∃ (k N r : Nat), k ≤ 64 ∧ N < 2 ^ (64 - k) ∧ N ≤ n ∧ r < 256 ∧ gm 8 29 r (gp 8 29 (sqs 8 29 k a) N) = G ∧ x = .int .u64 N ∧ z = .int .u8 r ∧ y = .int .i64 k ∧ RowAt wr w.heap.size 129 #[.int .u8 29] ∧ RowAt wr w1.heap.size 135 (cells8 xs) ∧ Below w.heap.size w wr) (fun x _ _ _ => (intOf x).toNat)
  case atStart =>
    refine ⟨0, n, 1, by decide, hn, Nat.le_refl _, by decide, ?_, rfl, rfl, rfl, r0.alloc _, RowAt.new w1 _ _, hbel.alloc (by omega) _⟩
    show gm 8 29 1 (gp 8 29 a n) = G
    rw [one_gm F.toFld (gp_lt F.toFld ha n)]; exact HG.out
  case round =>
    obtain ⟨k, N, r, hk, hNb, hNn, hr, hacc, rfl, rfl, rfl, q0, q1, hb2⟩ := hrel
    have HA := hid hacc
    have HN := hid hNb
    clear hacc hNb HG
    have l0 := q0.lt
    have l1 := q1.lt
    have hS : sqs 8 29 k a < 256 := sqs_lt F.toFld k ha
    by_cases h0 : 0 < N
    · have hk2 : k < 64 := by
        rcases Nat.lt_or_ge k 64 with h | h
        · exact h
        · have : k = 64 := by omega
          subst this
          have := HN.out; simp at this; omega
      have HN' : Hid (N / 2 < 2 ^ (64 - (k + 1))) := by
        have h := HN.out
        rw [show 64 - k = (64 - (k + 1)) + 1 by omega, Nat.pow_succ] at h
        show N / 2 < _; omega
      have e2 : bits .and .u64 (N : Int) 1 = ((N % 2 : Nat) : Int) := by rw [show (1 : Int) = ((1 : Nat) : Int) from rfl, u64_and_nat _ _ (by omega) (by decide), nat_mask1]
      by_cases ho : N % 2 = 1
      · have hkm : k % 8 < 8 := Nat.mod_lt _ (by decide)
        have c0 : wr.cell? ⟨w.heap.size, 0, none⟩ = some (.int .u8 29) := q0.cell 0
        have c1 : wr.cell? ⟨w1.heap.size, k % 8, none⟩ = some (.int .u8 (sqs 8 29 k a : Nat)) := by
          rw [q1.cell, ← sqs_mod F ha k]; exact cells8_at (HXS.out _ hkm)
        have m0 : (k : Int).tmod 8 = ((k % 8 : Nat) : Int) := by rw [Int.tmod_eq_emod_of_nonneg (by omega)]; omega
        have m1 : (0 : Int) ≤ ((k % 8 : Nat) : Int) := by omega
        have m2 : ((k % 8 : Nat) : Int) < 16 := by omega
        have hr' : gm 8 29 r (sqs 8 29 k a) < 256 := gm_lt F.toFld _ hr
        have HS : Hid (gm 8 29 (gm 8 29 r (sqs 8 29 k a)) (gp 8 29 (sqs 8 29 (k + 1) a) (N / 2)) = G) := by
          have := HA.out
          rw [gp_odd F.toFld hS ho] at this
          show _ = _
          rw [sqs_succ, gm_assoc F.toFld hr hS (gp_lt F.toFld (gm_lt F.toFld _ hS) _)]; exact this
        go_wp2_with fail
        go_region_with ((first
          | (go_at_call 63; refine (width8 _).mono ?_; rintro e w2 ⟨rfl, rfl⟩)
          | (go_at_call 62; refine (product8 r (sqs 8 29 k a) hr hS _).mono ?_; rintro e w3 ⟨rfl, hb3⟩)))
        all_goals go_wp2
        all_goals
          have hz : (wr.alloc (.cells #[.int .u8 29] 129)).drew.heap.size = wr.heap.size + 1 := size_al wr _
          go_roundw
          case rel =>
            refine ⟨k + 1, N / 2, gm 8 29 r (sqs 8 29 k a), by omega, HN'.out, by omega, hr', HS.out, by go_num, rfl, by go_num, ?_, ?_, ?_⟩
            · exact ((q0.alloc _).drew).below hb3 (by rw [hz]; omega)
            · exact ((q1.alloc _).drew).below hb3 (by rw [hz]; omega)
            · exact ((hb2.alloc (by omega) _).drew).trans (hb3.mono (by rw [hz]; omega))
          case measure => simp [intOf]; omega
      · have HS : Hid (gm 8 29 r (gp 8 29 (sqs 8 29 (k + 1) a) (N / 2)) = G) := by
          have := HA.out; rw [gp_even F.toFld hS ho, ← sqs_succ] at this; exact this
        go_wp2
        go_roundw
        case rel => exact ⟨k + 1, N / 2, r, by omega, HN'.out, by omega, hr, HS.out, by go_num, rfl, by go_num, q0, q1, hb2⟩
        case measure => simp [intOf]; omega
    · have hN0 : N = 0 := by omega
      subst hN0
      have HE : Hid (r = G) := by have := HA.out; rw [show gp 8 29 (sqs 8 29 k a) 0 = 1 from rfl, gm_one F.toFld] at this; exact this
      go_wp2
      go_ret
      exact ⟨congrArg (fun x : Nat => Ending.returned (.int .u8 (x : Int))) HE.out, hb2⟩
end Go.Proofs.YthdmaamocejodaaDoor
