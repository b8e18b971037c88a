import Derived.Test.YtgmgpkpicfpdhaaIField16
namespace Go.Proofs.Ytgmgpkpicfpdhaa
open Go.RowKit
theorem addI16 (s X b k : Nat) (hs : s < 65536) (hX : X < 65536) (hb : b < 65536) : bits .xor .u16 (s : Int) (IntKind.u16.wrap ((X : Int) * bits .and .u16 ((b : Int) / 2 ^ k) 1)) = ((s ^^^ (if b / 2 ^ k % 2 = 1 then X else 0) : Nat) : Int) := by
  have e1 : (b : Int) / 2 ^ k = ((b / 2 ^ k : Nat) : Int) := by simp
  have hd : b / 2 ^ k < 65536 := Nat.lt_of_le_of_lt (Nat.div_le_self _ _) hb
  rw [e1, show (1 : Int) = ((1 : Nat) : Int) from rfl, u16_and_nat _ _ hd (by decide), nat_mask1, IntKind.wrap_u16]
  have e2 : ((X : Int) * ((b / 2 ^ k % 2 : Nat) : Int)) % 65536 = ((if b / 2 ^ k % 2 = 1 then X else 0 : Nat) : Int) := by
    rcases Nat.mod_two_eq_zero_or_one (b / 2 ^ k) with h | h
    · rw [h]; simp
    · rw [h]; simp; omega
  rw [e2, u16_xor_nat _ _ hs (by split <;> omega)]
set_option maxRecDepth 20000 in
set_option maxHeartbeats 1000000 in
theorem product16 (a b : Nat) (ha : a < 65536) (hb : b < 65536) (w : World) : Calls Try.prog 52 #[.agg #[.int .u16 4107], .int .u16 a, .int .u16 b] w fun e w' => e = .returned (.int .u16 (gm 16 4107 a b : Nat)) ∧ Below w.heap.size w w' := by
  go_enter Try.func52, Try.ntmps52
  go_wp2_with fail
  refine (timesX16 a ha _).mono ?_
  rintro e w1 ⟨xs, rfl, hxl, hxs, hb1⟩
  have HXS := hid hxs
  have r0 : RowAt w1 w.heap.size 65 #[.int .u16 4107] := (RowAt.new w _ _).below hb1 (by rw [size_al]; omega)
  have hbel : Below w.heap.size w w1 := ((Below.refl _ _).alloc (Nat.le_refl _) _).trans (hb1.mono (by rw [size_al]; omega))
  have hlt := r0.lt
  have HZ : Hid ((Try.prog.info? 79).map (·.size) = some (cells16 xs).size) := by show _ = _; rw [cells16_size, hxl]; kernel_rfl
  clear hxs hb1
  have c0 : ∀ o, (w1.alloc o).cell? ⟨w.heap.size, 0, none⟩ = some (.int .u16 4107) := fun o => (r0.alloc o).cell 0
  go_wp2_with ((refine wpList_store_row rfl 79 (.tmp 7) (.tmp 12) rfl w1.heap.size (cells16 xs) rfl rfl _ _ (RowAt.new w1 _ _) HZ.out (by rw [cells16_size, hxl]; rfl) (cells16_one xs) ?_); rw [World.setRow_alloc_new])
  refine (width16 _).mono ?_
  rintro e w2 ⟨rfl, rfl⟩
  clear c0
  go_wp2
  go_loopw [8, 15] (fun x y wr => ∃ (k s : Nat), k ≤ 16 ∧ s < 65536 ∧ s ^^^ mulR 16 4107 (16 - k) (itx 16 4107 k a) (b / 2 ^ k) = gm 16 4107 a b ∧ x = .int .u16 s ∧ y = .int .i64 k ∧ RowAt wr w1.heap.size 79 (cells16 xs) ∧ Below w.heap.size w wr) (fun _ y _ => 16 - (intOf y).toNat)
  case atStart =>
    refine ⟨0, 0, Nat.zero_le _, by decide, by rw [Nat.zero_xor, Nat.pow_zero, Nat.div_one]; rfl, rfl, rfl, (RowAt.new w1 _ _).alloc _, ?_⟩
    exact (hbel.alloc (by omega) _).alloc (by rw [size_al]; omega) _
  case round =>
    obtain ⟨k, s, hk, hs, hacc, rfl, rfl, r2, hb2⟩ := hrel
    have HA := hid hacc
    clear hacc
    by_cases hkl : k < 16
    · have hlt' : (k : Int) < 16 := by omega
      have i0 : (0 : Int) ≤ (k : Int) := by omega
      have i1 : (k : Int) < 16 := by omega
      have i2 : k < 16 := by omega
      have i3 : (k : Int) ≤ 16 := by omega
      have c2 := (r2.cell k).trans (cells16_at (HXS.out k hkl))
      have hX : itx 16 4107 k a < 65536 := itx_lt fld16.toFld k a ha
      have e1 := addI16 s (itx 16 4107 k a) b k hs hX hb
      have hs' : s ^^^ (if b / 2 ^ k % 2 = 1 then itx 16 4107 k a else 0) < 65536 := Nat.xor_lt_two_pow (n := 16) hs (by split <;> omega)
      have HS : Hid ((s ^^^ (if b / 2 ^ k % 2 = 1 then itx 16 4107 k a else 0)) ^^^ mulR 16 4107 (16 - (k + 1)) (itx 16 4107 (k + 1) a) (b / 2 ^ (k + 1)) = gm 16 4107 a b) := by
        have := HA.out
        rw [show 16 - k = (16 - (k + 1)) + 1 by omega] at this
        unfold mulR at this
        show _ = _
        rw [itx_succ, Nat.xor_assoc, Nat.pow_succ, ← Nat.div_div_eq_div_mul]; exact this
      go_wp2_with fail
      go_quiet (fail)
      go_wp2
      go_roundw
      case rel => exact ⟨k + 1, _, by omega, hs', HS.out, rfl, by go_num, r2.drewN nq, below_drewN hb2 nq⟩
      case measure => simp [intOf]; omega
    · have hke : k = 16 := by omega
      subst hke
      have HE : Hid (s = gm 16 4107 a b) := by have := HA.out; rw [Nat.sub_self] at this; unfold mulR at this; rw [Nat.xor_zero] at this; exact this
      go_wp2
      go_ret
      exact ⟨congrArg (fun x : Nat => Ending.returned (.int .u16 (x : Int))) HE.out, hb2⟩
end Go.Proofs.Ytgmgpkpicfpdhaa
