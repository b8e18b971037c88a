import Derived.Test.YthdmaamocejodaaDoorIField8
namespace Go.Proofs.YthdmaamocejodaaDoor
open Go.RowKit
theorem addI8 (s X b k : Nat) (hs : s < 256) (hX : X < 256) (hb : b < 256) : bits .xor .u8 (s : Int) (IntKind.u8.wrap ((X : Int) * bits .and .u8 ((b : Int) / 2 ^ k) 1)) = ((s ^^^ (if b / 2 ^ k % 2 = 1 then X else 0) : Nat) : Int) := by
  have e1 : (b : Int) / 2 ^ k = ((b / 2 ^ k : Nat) : Int) := by simp
  have hd : b / 2 ^ k < 256 := Nat.lt_of_le_of_lt (Nat.div_le_self _ _) hb
  rw [e1, show (1 : Int) = ((1 : Nat) : Int) from rfl, u8_and_nat _ _ hd (by decide), nat_mask1, IntKind.wrap_u8']
  have e2 : ((X : Int) * ((b / 2 ^ k % 2 : Nat) : Int)) % 256 = ((if b / 2 ^ k % 2 = 1 then X else 0 : Nat) : Int) := by
    rcases Nat.mod_two_eq_zero_or_one (b / 2 ^ k) with h | h
    · rw [h]; simp
    · rw [h]; simp; omega
  rw [e2, u8_xor_nat _ _ hs (by split <;> omega)]
set_option maxRecDepth 20000 in
set_option maxHeartbeats 1000000 in
theorem product8 (a b : Nat) (ha : a < 256) (hb : b < 256) (w : World) : Calls Tryd.prog 62 #[.agg #[.int .u8 29], .int .u8 a, .int .u8 b] w fun e w' => e = .returned (.int .u8 (gm 8 29 a b : Nat)) ∧ Below w.heap.size w w' := by
  go_enter Tryd.func62, Tryd.ntmps62
  go_wp2_with fail
  refine (timesX8 a ha _).mono ?_
  rintro e w1 ⟨xs, rfl, hxl, hxs, hb1⟩
  have HXS := hid hxs
  have r0 : RowAt w1 w.heap.size 129 #[.int .u8 29] := (RowAt.new w _ _).below hb1 (by rw [size_al]; omega)
  have hbel : Below w.heap.size w w1 := ((Below.refl _ _).alloc (Nat.le_refl _) _).trans (hb1.mono (by rw [size_al]; omega))
  have hlt := r0.lt
  have HZ : Hid ((Tryd.prog.info? 135).map (·.size) = some (cells8 xs).size) := by show _ = _; rw [cells8_size, hxl]; kernel_rfl
  clear hxs hb1
  have c0 : ∀ o, (w1.alloc o).cell? ⟨w.heap.size, 0, none⟩ = some (.int .u8 29) := fun o => (r0.alloc o).cell 0
  go_wp2_with ((refine wpList_store_row rfl 135 (.tmp 7) (.tmp 12) rfl w1.heap.size (cells8 xs) rfl rfl _ _ (RowAt.new w1 _ _) HZ.out (by rw [cells8_size, hxl]; rfl) (cells8_one xs) ?_); rw [World.setRow_alloc_new])
  refine (width8 _).mono ?_
  rintro e w2 ⟨rfl, rfl⟩
  clear c0
  go_wp2
  go_loopw [8, 15] (fun x y wr => ∃ (k s : Nat), k ≤ 8 ∧ s < 256 ∧ s ^^^ mulR 8 29 (8 - k) (itx 8 29 k a) (b / 2 ^ k) = gm 8 29 a b ∧ x = .int .u8 s ∧ y = .int .i64 k ∧ RowAt wr w1.heap.size 135 (cells8 xs) ∧ Below w.heap.size w wr) (fun _ y _ => 8 - (intOf y).toNat)
  case atStart =>
    refine ⟨0, 0, Nat.zero_le _, by decide, by rw [Nat.zero_xor, Nat.pow_zero, Nat.div_one]; rfl, rfl, rfl, (RowAt.new w1 _ _).alloc _, ?_⟩
    exact (hbel.alloc (by omega) _).alloc (by rw [size_al]; omega) _
  case round =>
    obtain ⟨k, s, hk, hs, hacc, rfl, rfl, r2, hb2⟩ := hrel
    have HA := hid hacc
    clear hacc
    by_cases hkl : k < 8
    · have hlt' : (k : Int) < 8 := by omega
      have i0 : (0 : Int) ≤ (k : Int) := by omega
      have i1 : (k : Int) < 16 := by omega
      have i2 : k < 16 := by omega
      have i3 : (k : Int) ≤ 8 := by omega
      have c2 := (r2.cell k).trans (cells8_at (HXS.out k hkl))
      have hX : itx 8 29 k a < 256 := itx_lt fld8.toFld k a ha
      have e1 := addI8 s (itx 8 29 k a) b k hs hX hb
      have hs' : s ^^^ (if b / 2 ^ k % 2 = 1 then itx 8 29 k a else 0) < 256 := Nat.xor_lt_two_pow (n := 8) hs (by split <;> omega)
      have HS : Hid ((s ^^^ (if b / 2 ^ k % 2 = 1 then itx 8 29 k a else 0)) ^^^ mulR 8 29 (8 - (k + 1)) (itx 8 29 (k + 1) a) (b / 2 ^ (k + 1)) = gm 8 29 a b) := by
        have := HA.out
        rw [show 8 - k = (8 - (k + 1)) + 1 by omega] at this
        unfold mulR at this
        show _ = _
        rw [itx_succ, Nat.xor_assoc, Nat.pow_succ, ← Nat.div_div_eq_div_mul]; exact this
      go_wp2_with fail
      go_quiet (fail)
      go_wp2
      go_roundw
      case rel => exact ⟨k + 1, _, by omega, hs', HS.out, rfl, by go_num, r2.drewN nq, below_drewN hb2 nq⟩
      case measure => simp [intOf]; omega
    · have hke : k = 8 := by omega
      subst hke
      have HE : Hid (s = gm 8 29 a b) := by have := HA.out; rw [Nat.sub_self] at this; unfold mulR at this; rw [Nat.xor_zero] at this; exact this
      go_wp2
      go_ret
      exact ⟨congrArg (fun x : Nat => Ending.returned (.int .u8 (x : Int))) HE.out, hb2⟩
end Go.Proofs.YthdmaamocejodaaDoor
