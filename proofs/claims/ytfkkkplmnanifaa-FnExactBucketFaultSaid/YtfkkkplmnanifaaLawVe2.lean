import Derived.Test.YtfkkkplmnanifaaLawVe
namespace Go.Proofs.Ytfkkkplmnanifaa
open Go.RowKit
/-! Rows of Version: what the laws do with them (by lawrow.py). -/
def ve0 : Ve := ⟨⟨#[]⟩, 0, false, ⟨#[]⟩, 0, 0, false⟩
/-- the first k of them, then empty ones -/
def veTo (o : Nat → Ve) (k i : Nat) : Ve := if i < k then o i else ve0
theorem Try.infoVe : (Try.prog.info? 39).map (fun i => (i.zero, i.size, i.bytes)) = some (some (.agg #[.string ⟨#[]⟩, .int .i64 0, .bool false, .string ⟨#[]⟩, .int .i64 0, .int .i64 0, .bool false]), 7, 72) := by kernel_rfl
theorem mkVe (w : World) (n : Nat) (hn : n ≤ 1048576) : (Instr.makeSlice 29 (.int .i64 n) (.int .i64 n)).run Try.prog w = .ok (.slice (some ⟨w.heap.size, 0, none⟩) n n) (w.alloc (.cells (madeCells #[.string ⟨#[]⟩, .int .i64 0, .bool false, .string ⟨#[]⟩, .int .i64 0, .int .i64 0, .bool false] (n * 7)) 39)) := by
  obtain ⟨i0, hi, hz0, hz1, hz2⟩ := info_parts Try.infoVe
  have := run_make (P := Try.prog) w 29 39 i0 _ Try.underlying29 hi hz0 .i64 .i64 n n (by omega) (Int.le_refl _) (by rw [hz2]; omega) (by omega)
  rw [this, hz1]
  simp only [Int.toNat_natCast, Value.cells]
theorem veTo_put (o : Nat → Ve) (k p : Nat) : putF (putF (putF (putF (putF (putF (putF (veF (veTo o k)) (k * 7) (.string (o k).ky)) (k * 7 + 1) (.int .i64 (o k).id)) (k * 7 + 2) (.bool (o k).mr)) (k * 7 + 3) (.string (o k).dt)) (k * 7 + 4) (.int .i64 (o k).tm)) (k * 7 + 5) (.int .i64 (o k).un)) (k * 7 + 6) (.bool (o k).ho) p = veF (veTo o (k + 1)) p := by
  by_cases e : p / 7 = k
  · have hk : veTo o (k + 1) k = o k := by unfold veTo; rw [if_pos (by omega)]
    have : p = k * 7 ∨ p = k * 7 + 1 ∨ p = k * 7 + 2 ∨ p = k * 7 + 3 ∨ p = k * 7 + 4 ∨ p = k * 7 + 5 ∨ p = k * 7 + 6 := by omega
    rcases this with e | e | e | e | e | e | e <;> subst e
    · rw [veF0, hk]; unfold putF; rw [if_neg (by omega), if_neg (by omega), if_neg (by omega), if_neg (by omega), if_neg (by omega), if_neg (by omega), if_pos rfl]
    · rw [veF1, hk]; unfold putF; rw [if_neg (by omega), if_neg (by omega), if_neg (by omega), if_neg (by omega), if_neg (by omega), if_pos rfl]
    · rw [veF2, hk]; unfold putF; rw [if_neg (by omega), if_neg (by omega), if_neg (by omega), if_neg (by omega), if_pos rfl]
    · rw [veF3, hk]; unfold putF; rw [if_neg (by omega), if_neg (by omega), if_neg (by omega), if_pos rfl]
    · rw [veF4, hk]; unfold putF; rw [if_neg (by omega), if_neg (by omega), if_pos rfl]
    · rw [veF5, hk]; unfold putF; rw [if_neg (by omega), if_pos rfl]
    · rw [veF6, hk]; unfold putF; rw [if_pos rfl]
  · have hk : veTo o (k + 1) (p / 7) = veTo o k (p / 7) := by
      unfold veTo
      by_cases h : p / 7 < k
      · rw [if_pos (by omega), if_pos h]
      · rw [if_neg (by omega), if_neg h]
    unfold putF
    rw [if_neg (by omega), if_neg (by omega), if_neg (by omega), if_neg (by omega), if_neg (by omega), if_neg (by omega), if_neg (by omega)]
    unfold veF
    rw [hk]
set_option maxRecDepth 20000 in
set_option maxHeartbeats 4000000 in
theorem toVes (a : Option Addr) (len cap : Nat) (o : Nat → Ve) (hl : len ≤ 1048576) (w : World) (h : Ves w a len cap o) :
    Calls Try.prog 16 #[.slice a len cap] w fun e w' => e = .returned (.slice (some ⟨w.heap.size, 0, none⟩) len len) ∧ FRow w' w.heap.size 39 (len * 7) (veF o) ∧ Below w.heap.size w w' := by
  have hmk := fun w => mkVe w len hl
  have HH := hid h
  clear h
  go_enter Try.func16, Try.ntmps16
  go_wp2_with fail
  obtain ⟨W0, hW0⟩ : ∃ W0, W0 = w.alloc (.cells (madeCells #[.string ⟨#[]⟩, .int .i64 0, .bool false, .string ⟨#[]⟩, .int .i64 0, .int .i64 0, .bool false] (len * 7)) 39) := ⟨_, rfl⟩
  have F0 : Hid (FRow W0 w.heap.size 39 (len * 7) (veF (veTo o 0))) := by
    rw [hW0]
    refine FRow.of (RowAt.new _ _ _) (by simp [madeCells]) fun p hp => ?_
    have h2 : p % 7 < 7 := Nat.mod_lt _ (by decide)
    have h3 : veTo o 0 (p / 7) = ve0 := by unfold veTo; rw [if_neg (by omega)]
    simp [madeCells, hp, veF, h3, ve0]
    rcases (show p % 7 = 0 ∨ p % 7 = 1 ∨ p % 7 = 2 ∨ p % 7 = 3 ∨ p % 7 = 4 ∨ p % 7 = 5 ∨ p % 7 = 6 by omega) with e | e | e | e | e | e | e <;> rw [e] <;> rfl
  have B0 : Hid (Below w.heap.size w W0) := by rw [hW0]; exact (Below.refl _ _).alloc (Nat.le_refl _) _
  rw [← hW0]
  clear hW0 hmk
  go_loopw [4] (fun q wr => ∃ (k : Nat), k ≤ len ∧ q = .int .i64 k ∧ FRow wr w.heap.size 39 (len * 7) (veF (veTo o k)) ∧ Below w.heap.size w wr) (fun q _ => len - (intOf q).toNat)
  case atStart => exact ⟨0, Nat.zero_le _, rfl, F0.out, B0.out⟩
  case round =>
    obtain ⟨k, hk, rfl, hF, hB⟩ := hrel
    have HF := hid hF
    have HB := hid hB
    clear hF hB F0 B0
    by_cases hlt : k < len
    · have hlt' : (k : Int) < (len : Int) := by omega
      have k0 : (0 : Int) ≤ (k : Int) := by omega
      rcases (HH.out.below HB.out).2 with h00 | ⟨b, off, rfl, hbl, hc⟩
      · omega
      obtain ⟨c0, c1, c2, c3, c4, c5, c6⟩ := hc k hlt
      have HP := hid (veTo_put o k)
      obtain ⟨X0, hX0⟩ : ∃ v, v = (o k).ky := ⟨_, rfl⟩
      obtain ⟨X1, hX1⟩ : ∃ v, v = (o k).id := ⟨_, rfl⟩
      obtain ⟨X2, hX2⟩ : ∃ v, v = (o k).mr := ⟨_, rfl⟩
      obtain ⟨X3, hX3⟩ : ∃ v, v = (o k).dt := ⟨_, rfl⟩
      obtain ⟨X4, hX4⟩ : ∃ v, v = (o k).tm := ⟨_, rfl⟩
      obtain ⟨X5, hX5⟩ : ∃ v, v = (o k).un := ⟨_, rfl⟩
      obtain ⟨X6, hX6⟩ : ∃ v, v = (o k).ho := ⟨_, rfl⟩
      rw [← hX0] at c0 HP
      rw [← hX1] at c1 HP
      rw [← hX2] at c2 HP
      rw [← hX3] at c3 HP
      rw [← hX4] at c4 HP
      rw [← hX5] at c5 HP
      rw [← hX6] at c6 HP
      clear hc hX0 hX1 hX2 hX3 hX4 hX5 hX6
      go_wp2_with fail
      refine (to1Ve X0 X1 X2 X3 X4 X5 X6 wr).mono ?_
      rintro e w2 ⟨rfl, hb2⟩
      have F2 := hid (HF.out.below hb2 HF.out.lt)
      have B2 := hid (HB.out.trans (hb2.mono HB.out.size))
      clear hb2 HF HB
      have q0 := (F2.out).cell (show k * 7 < len * 7 by omega)
      rw [veF0] at q0
      have q1 := (F2.out).cell (show k * 7 + 1 < len * 7 by omega)
      rw [veF1] at q1
      have q2 := (F2.out).cell (show k * 7 + 2 < len * 7 by omega)
      rw [veF2] at q2
      have q3 := (F2.out).cell (show k * 7 + 3 < len * 7 by omega)
      rw [veF3] at q3
      have q4 := (F2.out).cell (show k * 7 + 4 < len * 7 by omega)
      rw [veF4] at q4
      have q5 := (F2.out).cell (show k * 7 + 5 < len * 7 by omega)
      rw [veF5] at q5
      have q6 := (F2.out).cell (show k * 7 + 6 < len * 7 by omega)
      rw [veF6] at q6
      have f0 := F2.out.free (k * 7)
      have G1 : FRow (w2.setCell ⟨w.heap.size, k * 7, none⟩ (.string X0)) w.heap.size 39 (len * 7) (putF (veF (veTo o k)) (k * 7) (.string X0)) := F2.out.set (k * 7) (.string X0)
      have f1 := G1.free (k * 7 + 1)
      have G2 : FRow ((w2.setCell ⟨w.heap.size, k * 7, none⟩ (.string X0)).setCell ⟨w.heap.size, k * 7 + 1, none⟩ (.int .i64 X1)) w.heap.size 39 (len * 7) (putF (putF (veF (veTo o k)) (k * 7) (.string X0)) (k * 7 + 1) (.int .i64 X1)) := G1.set (k * 7 + 1) (.int .i64 X1)
      have f2 := G2.free (k * 7 + 2)
      have G3 : FRow (((w2.setCell ⟨w.heap.size, k * 7, none⟩ (.string X0)).setCell ⟨w.heap.size, k * 7 + 1, none⟩ (.int .i64 X1)).setCell ⟨w.heap.size, k * 7 + 2, none⟩ (.bool X2)) w.heap.size 39 (len * 7) (putF (putF (putF (veF (veTo o k)) (k * 7) (.string X0)) (k * 7 + 1) (.int .i64 X1)) (k * 7 + 2) (.bool X2)) := G2.set (k * 7 + 2) (.bool X2)
      have f3 := G3.free (k * 7 + 3)
      have G4 : FRow ((((w2.setCell ⟨w.heap.size, k * 7, none⟩ (.string X0)).setCell ⟨w.heap.size, k * 7 + 1, none⟩ (.int .i64 X1)).setCell ⟨w.heap.size, k * 7 + 2, none⟩ (.bool X2)).setCell ⟨w.heap.size, k * 7 + 3, none⟩ (.string X3)) w.heap.size 39 (len * 7) (putF (putF (putF (putF (veF (veTo o k)) (k * 7) (.string X0)) (k * 7 + 1) (.int .i64 X1)) (k * 7 + 2) (.bool X2)) (k * 7 + 3) (.string X3)) := G3.set (k * 7 + 3) (.string X3)
      have f4 := G4.free (k * 7 + 4)
      have G5 : FRow (((((w2.setCell ⟨w.heap.size, k * 7, none⟩ (.string X0)).setCell ⟨w.heap.size, k * 7 + 1, none⟩ (.int .i64 X1)).setCell ⟨w.heap.size, k * 7 + 2, none⟩ (.bool X2)).setCell ⟨w.heap.size, k * 7 + 3, none⟩ (.string X3)).setCell ⟨w.heap.size, k * 7 + 4, none⟩ (.int .i64 X4)) w.heap.size 39 (len * 7) (putF (putF (putF (putF (putF (veF (veTo o k)) (k * 7) (.string X0)) (k * 7 + 1) (.int .i64 X1)) (k * 7 + 2) (.bool X2)) (k * 7 + 3) (.string X3)) (k * 7 + 4) (.int .i64 X4)) := G4.set (k * 7 + 4) (.int .i64 X4)
      have f5 := G5.free (k * 7 + 5)
      have G6 : FRow ((((((w2.setCell ⟨w.heap.size, k * 7, none⟩ (.string X0)).setCell ⟨w.heap.size, k * 7 + 1, none⟩ (.int .i64 X1)).setCell ⟨w.heap.size, k * 7 + 2, none⟩ (.bool X2)).setCell ⟨w.heap.size, k * 7 + 3, none⟩ (.string X3)).setCell ⟨w.heap.size, k * 7 + 4, none⟩ (.int .i64 X4)).setCell ⟨w.heap.size, k * 7 + 5, none⟩ (.int .i64 X5)) w.heap.size 39 (len * 7) (putF (putF (putF (putF (putF (putF (veF (veTo o k)) (k * 7) (.string X0)) (k * 7 + 1) (.int .i64 X1)) (k * 7 + 2) (.bool X2)) (k * 7 + 3) (.string X3)) (k * 7 + 4) (.int .i64 X4)) (k * 7 + 5) (.int .i64 X5)) := G5.set (k * 7 + 5) (.int .i64 X5)
      have f6 := G6.free (k * 7 + 6)
      have G7 : FRow (((((((w2.setCell ⟨w.heap.size, k * 7, none⟩ (.string X0)).setCell ⟨w.heap.size, k * 7 + 1, none⟩ (.int .i64 X1)).setCell ⟨w.heap.size, k * 7 + 2, none⟩ (.bool X2)).setCell ⟨w.heap.size, k * 7 + 3, none⟩ (.string X3)).setCell ⟨w.heap.size, k * 7 + 4, none⟩ (.int .i64 X4)).setCell ⟨w.heap.size, k * 7 + 5, none⟩ (.int .i64 X5)).setCell ⟨w.heap.size, k * 7 + 6, none⟩ (.bool X6)) w.heap.size 39 (len * 7) (putF (putF (putF (putF (putF (putF (putF (veF (veTo o k)) (k * 7) (.string X0)) (k * 7 + 1) (.int .i64 X1)) (k * 7 + 2) (.bool X2)) (k * 7 + 3) (.string X3)) (k * 7 + 4) (.int .i64 X4)) (k * 7 + 5) (.int .i64 X5)) (k * 7 + 6) (.bool X6)) := G6.set (k * 7 + 6) (.bool X6)
      have F4 : Hid (FRow (((((((w2.setCell ⟨w.heap.size, k * 7, none⟩ (.string X0)).setCell ⟨w.heap.size, k * 7 + 1, none⟩ (.int .i64 X1)).setCell ⟨w.heap.size, k * 7 + 2, none⟩ (.bool X2)).setCell ⟨w.heap.size, k * 7 + 3, none⟩ (.string X3)).setCell ⟨w.heap.size, k * 7 + 4, none⟩ (.int .i64 X4)).setCell ⟨w.heap.size, k * 7 + 5, none⟩ (.int .i64 X5)).setCell ⟨w.heap.size, k * 7 + 6, none⟩ (.bool X6)) w.heap.size 39 (len * 7) (veF (veTo o (k + 1)))) := G7.congr fun p _ => HP.out p
      have B4 : Hid (Below w.heap.size w (((((((w2.setCell ⟨w.heap.size, k * 7, none⟩ (.string X0)).setCell ⟨w.heap.size, k * 7 + 1, none⟩ (.int .i64 X1)).setCell ⟨w.heap.size, k * 7 + 2, none⟩ (.bool X2)).setCell ⟨w.heap.size, k * 7 + 3, none⟩ (.string X3)).setCell ⟨w.heap.size, k * 7 + 4, none⟩ (.int .i64 X4)).setCell ⟨w.heap.size, k * 7 + 5, none⟩ (.int .i64 X5)).setCell ⟨w.heap.size, k * 7 + 6, none⟩ (.bool X6))) := (((((((B2.out.setCell (Nat.le_refl _) _).setCell (Nat.le_refl _) _).setCell (Nat.le_refl _) _).setCell (Nat.le_refl _) _).setCell (Nat.le_refl _) _).setCell (Nat.le_refl _) _).setCell (Nat.le_refl _) _)
      clear G1 G2 G3 G4 G5 G6 G7 HP F2 B2
      go_wp2
      go_roundw
      case rel => exact ⟨k + 1, by omega, by go_num, F4.out, B4.out⟩
      case measure => simp [intOf]; omega
    · have hlt' : ¬ (k : Int) < (len : Int) := by omega
      have hke : k = len := by omega
      go_wp2
      go_ret
      refine ⟨rfl, HF.out.congr fun p hp => ?_, HB.out⟩
      unfold veF
      rw [show veTo o k (p / 7) = o (p / 7) by unfold veTo; rw [if_pos (by omega)]]
set_option maxRecDepth 20000 in
set_option maxHeartbeats 4000000 in
theorem szVes (a : Option Addr) (n cap : Nat) (o : Nat → Ve) (l : Nat) (hl : l ≤ 1048576) (hn : n ≤ 9223372036854775807) (hs : ∀ k, k < n → (o k).ky.size ≤ 9223372036854775807 ∧ (o k).dt.size ≤ 9223372036854775807) (w : World) (h : Ves w a n cap o) :
    Calls Try.prog 10 #[.slice a n cap, .int .i64 l] w fun e w' => e = .returned (.int .i64 (if n + szVe o n ≤ l then ((l - n - szVe o n : Nat) : Int) else -1)) ∧ Below w.heap.size w w' := by
  have HH := hid h
  have HS := hid hs
  clear h hs
  obtain ⟨RV, hRV⟩ : ∃ v : Int, v = if n + szVe o n ≤ l then ((l - n - szVe o n : Nat) : Int) else -1 := ⟨_, rfl⟩
  rw [← hRV]
  by_cases h0 : (l : Int) - (n : Int) < 0
  · rw [if_neg (by omega)] at hRV
    subst hRV
    go_enter Try.func10, Try.ntmps10
    go_wp2
    go_ret
    exact ⟨rfl, Below.refl _ _⟩
  obtain ⟨m, hm⟩ : ∃ m : Nat, m = l - n := ⟨_, rfl⟩
  have hme : (l : Int) - (n : Int) = m := by omega
  have HM := hid hm
  have hml : m + n = l ∧ True := ⟨by omega, trivial⟩
  clear hm
  go_enter Try.func10, Try.ntmps10
  go_wp2_with fail
  go_loopw [5, 1] (fun q y wr => ∃ (k : Nat), k ≤ n ∧ q = .int .i64 k ∧ szVe o k ≤ m ∧ y = .int .i64 ((m - szVe o k : Nat) : Int) ∧ Below w.heap.size w wr) (fun q _ _ => n - (intOf q).toNat)
  case atStart => exact ⟨0, Nat.zero_le _, rfl, Nat.zero_le _, by simp [szVe], Below.refl _ _⟩
  case round =>
    obtain ⟨k, hk, rfl, hz, rfl, hB⟩ := hrel
    have HB := hid hB
    clear hB
    by_cases hlt : k < n
    · have hlt' : (k : Int) < (n : Int) := by omega
      have k0 : (0 : Int) ≤ (k : Int) := by omega
      rcases (HH.out.below HB.out).2 with h00 | ⟨b, off, rfl, hbl, hc⟩
      · omega
      obtain ⟨c0, c1, c2, c3, c4, c5, c6⟩ := hc k hlt
      obtain ⟨s0, s3⟩ := HS.out k hlt
      have hz1 : szVe o (k + 1) = szVe o k + (o k).ky.size + (o k).dt.size := rfl
      have hzn := szVe_mono o (show k + 1 ≤ n by omega)
      obtain ⟨X0, hX0⟩ : ∃ v, v = (o k).ky := ⟨_, rfl⟩
      obtain ⟨X1, hX1⟩ : ∃ v, v = (o k).id := ⟨_, rfl⟩
      obtain ⟨X2, hX2⟩ : ∃ v, v = (o k).mr := ⟨_, rfl⟩
      obtain ⟨X3, hX3⟩ : ∃ v, v = (o k).dt := ⟨_, rfl⟩
      obtain ⟨X4, hX4⟩ : ∃ v, v = (o k).tm := ⟨_, rfl⟩
      obtain ⟨X5, hX5⟩ : ∃ v, v = (o k).un := ⟨_, rfl⟩
      obtain ⟨X6, hX6⟩ : ∃ v, v = (o k).ho := ⟨_, rfl⟩
      rw [← hX0] at c0 s0 hz1
      rw [← hX1] at c1
      rw [← hX2] at c2
      rw [← hX3] at c3 s3 hz1
      rw [← hX4] at c4
      rw [← hX5] at c5
      rw [← hX6] at c6
      clear hc hX0 hX1 hX2 hX3 hX4 hX5 hX6
      obtain ⟨r, hr⟩ : ∃ r, r = m - szVe o k := ⟨_, rfl⟩
      rw [← hr]
      by_cases hfit : X0.size + X3.size ≤ r
      · obtain ⟨v, hv⟩ : ∃ v : Nat, v = r - X0.size - X3.size := ⟨_, rfl⟩
        have hpos : ¬ (v : Int) < 0 := by omega
        have hv1 : v ≤ 1048576 := by omega
        have Z1 : Hid (szVe o (k + 1) ≤ m ∧ m - szVe o (k + 1) = v) := by constructor <;> omega
        have hif : (if (X0.size : Int) + X3.size ≤ (r : Int) then (r : Int) - X0.size - X3.size else -1) = (v : Int) := by rw [if_pos (by omega)]; omega
        have S := sz1Ve X0 X1 X2 X3 X4 X5 X6 r (by omega) (by omega) s0 s3 wr
        rw [hif] at S
        have HS2 := hid S
        have HRV := hid hRV
        have HR2 := hid hr
        clear S hif hRV hr hz1 hv
        go_wp2_with fail
        refine HS2.out.mono ?_
        rintro e w2 ⟨rfl, hb2⟩
        have B2 := hid (HB.out.trans (hb2.mono HB.out.size))
        clear hb2 HB c0 c1 c2 c3 c4 c5 c6 hfit hz hzn s0 s3
        go_wp2
        go_roundw
        case rel => exact ⟨k + 1, by omega, by go_num, Z1.out.1, by rw [Z1.out.2], B2.out⟩
        case measure => simp [intOf]; omega
      · have hneg : (-1 : Int) < 0 := by omega
        have hif : (if (X0.size : Int) + X3.size ≤ (r : Int) then (r : Int) - X0.size - X3.size else -1) = -1 := if_neg (by omega)
        rw [if_neg (by omega)] at hRV
        have S := sz1Ve X0 X1 X2 X3 X4 X5 X6 r (by omega) (by omega) s0 s3 wr
        rw [hif] at S
        have HS2 := hid S
        have HRV := hid hRV
        have HR2 := hid hr
        clear S hif hRV hr hz1
        go_wp2_with fail
        refine HS2.out.mono ?_
        rintro e w2 ⟨rfl, hb2⟩
        have B2 := hid (HB.out.trans (hb2.mono HB.out.size))
        clear hb2 HB
        go_wp2
        go_ret
        exact ⟨by rw [HRV.out]; rfl, B2.out⟩
    · have hlt' : ¬ (k : Int) < (n : Int) := by omega
      have hke : k = n := by omega
      subst hke
      rw [if_pos (by omega)] at hRV
      have HRV := hid hRV
      clear hRV
      go_wp2
      go_ret
      exact ⟨by rw [HRV.out, ← HM.out]; rfl, HB.out⟩
set_option maxRecDepth 20000 in
set_option maxHeartbeats 4000000 in
theorem eqVes (a : Option Addr) (n cap : Nat) (a' : Option Addr) (cap' : Nat) (o : Nat → Ve) (hl : n ≤ 1048576) (w : World) (h : Ves w a n cap o) (h' : Ves w a' n cap' o) :
    Calls Try.prog 23 #[.slice a n cap, .slice a' n cap'] w fun e w' => e = .returned (.bool true) ∧ Below w.heap.size w w' := by
  have HH := hid h
  have HH' := hid h'
  have dn : ((n : Int) != (n : Int)) = false := by simp
  clear h h'
  go_enter Try.func23, Try.ntmps23
  go_wp2_with fail
  go_loopw [5] (fun q wr => ∃ (k : Nat), k ≤ n ∧ q = .int .i64 k ∧ Below w.heap.size w wr) (fun q _ => n - (intOf q).toNat)
  case atStart => exact ⟨0, Nat.zero_le _, rfl, Below.refl _ _⟩
  case round =>
    obtain ⟨k, hk, rfl, hB⟩ := hrel
    have HB := hid hB
    clear hB
    by_cases hlt : k < n
    · have hlt' : (k : Int) < (n : Int) := by omega
      have k0 : (0 : Int) ≤ (k : Int) := by omega
      rcases (HH.out.below HB.out).2 with h00 | ⟨b, off, rfl, hbl, hc⟩
      · omega
      rcases (HH'.out.below HB.out).2 with h00 | ⟨b', off', rfl, hbl', hc'⟩
      · omega
      obtain ⟨c0, c1, c2, c3, c4, c5, c6⟩ := hc k hlt
      obtain ⟨e0, e1, e2, e3, e4, e5, e6⟩ := hc' k hlt
      obtain ⟨X0, hX0⟩ : ∃ v, v = (o k).ky := ⟨_, rfl⟩
      obtain ⟨X1, hX1⟩ : ∃ v, v = (o k).id := ⟨_, rfl⟩
      obtain ⟨X2, hX2⟩ : ∃ v, v = (o k).mr := ⟨_, rfl⟩
      obtain ⟨X3, hX3⟩ : ∃ v, v = (o k).dt := ⟨_, rfl⟩
      obtain ⟨X4, hX4⟩ : ∃ v, v = (o k).tm := ⟨_, rfl⟩
      obtain ⟨X5, hX5⟩ : ∃ v, v = (o k).un := ⟨_, rfl⟩
      obtain ⟨X6, hX6⟩ : ∃ v, v = (o k).ho := ⟨_, rfl⟩
      rw [← hX0] at c0 e0
      rw [← hX1] at c1 e1
      rw [← hX2] at c2 e2
      rw [← hX3] at c3 e3
      rw [← hX4] at c4 e4
      rw [← hX5] at c5 e5
      rw [← hX6] at c6 e6
      clear hc hc' hX0 hX1 hX2 hX3 hX4 hX5 hX6
      go_wp2_with fail
      go_region_held3 (fun wx => (wx.cell? ⟨b, off + k * 7, none⟩ = some (.string X0) ∧ wx.cell? ⟨b, off + k * 7 + 1, none⟩ = some (.int .i64 X1) ∧ wx.cell? ⟨b, off + k * 7 + 2, none⟩ = some (.bool X2) ∧ wx.cell? ⟨b, off + k * 7 + 3, none⟩ = some (.string X3) ∧ wx.cell? ⟨b, off + k * 7 + 4, none⟩ = some (.int .i64 X4) ∧ wx.cell? ⟨b, off + k * 7 + 5, none⟩ = some (.int .i64 X5) ∧ wx.cell? ⟨b, off + k * 7 + 6, none⟩ = some (.bool X6)) ∧ wx.cell? ⟨b', off' + k * 7, none⟩ = some (.string X0) ∧ wx.cell? ⟨b', off' + k * 7 + 1, none⟩ = some (.int .i64 X1) ∧ wx.cell? ⟨b', off' + k * 7 + 2, none⟩ = some (.bool X2) ∧ wx.cell? ⟨b', off' + k * 7 + 3, none⟩ = some (.string X3) ∧ wx.cell? ⟨b', off' + k * 7 + 4, none⟩ = some (.int .i64 X4) ∧ wx.cell? ⟨b', off' + k * 7 + 5, none⟩ = some (.int .i64 X5) ∧ wx.cell? ⟨b', off' + k * 7 + 6, none⟩ = some (.bool X6))
        (first | exact ⟨⟨c0, c1, c2, c3, c4, c5, c6⟩, e0, e1, e2, e3, e4, e5, e6⟩ | exact ⟨⟨(hb2.cell hbl).trans c0, (hb2.cell hbl).trans c1, (hb2.cell hbl).trans c2, (hb2.cell hbl).trans c3, (hb2.cell hbl).trans c4, (hb2.cell hbl).trans c5, (hb2.cell hbl).trans c6⟩, (hb2.cell hbl').trans e0, (hb2.cell hbl').trans e1, (hb2.cell hbl').trans e2, (hb2.cell hbl').trans e3, (hb2.cell hbl').trans e4, (hb2.cell hbl').trans e5, (hb2.cell hbl').trans e6⟩)
        ((go_at_call 32; refine (eqVe X0 X1 X2 X3 X4 X5 X6 _).mono ?_; rintro e w2 ⟨rfl, hb2⟩))
      have N2 : Hid (Below w.heap.size w w2) := HB.out.drew.trans (hb2.mono HB.out.size)
      clear hb2 c0 e0 c1 e1 c2 e2 c3 e3 c4 e4 c5 e5 c6 e6 HB
      go_wp2
      go_roundw
      case rel => exact ⟨k + 1, by omega, by go_num, N2.out⟩
      case measure => simp [intOf]; omega
    · have hlt' : ¬ (k : Int) < (n : Int) := by omega
      go_wp2
      go_ret
      exact ⟨rfl, HB.out⟩
end Go.Proofs.Ytfkkkplmnanifaa
