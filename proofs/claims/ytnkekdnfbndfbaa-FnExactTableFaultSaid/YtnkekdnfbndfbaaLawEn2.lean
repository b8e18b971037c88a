import Derived.Test.YtnkekdnfbndfbaaLawEn
namespace Go.Proofs.Ytnkekdnfbndfbaa
open Go.RowKit
/-! Rows of RunEntry: what the laws do with them (by lawrow.py). -/
def en0 : En := ⟨⟨#[]⟩, 0, false, ⟨#[]⟩⟩
/-- the first k of them, then empty ones -/
def enTo (o : Nat → En) (k i : Nat) : En := if i < k then o i else en0
theorem Try.infoEn : (Try.prog.info? 34).map (fun i => (i.zero, i.size, i.bytes)) = some (some (.agg #[.string ⟨#[]⟩, .int .i64 0, .bool false, .string ⟨#[]⟩]), 4, 48) := by kernel_rfl
theorem mkEn (w : World) (n : Nat) (hn : n ≤ 1048576) : (Instr.makeSlice 26 (.int .i64 n) (.int .i64 n)).run Try.prog w = .ok (.slice (some ⟨w.heap.size, 0, none⟩) n n) (w.alloc (.cells (madeCells #[.string ⟨#[]⟩, .int .i64 0, .bool false, .string ⟨#[]⟩] (n * 4)) 34)) := by
  obtain ⟨i0, hi, hz0, hz1, hz2⟩ := info_parts Try.infoEn
  have := run_make (P := Try.prog) w 26 34 i0 _ Try.underlying26 hi hz0 .i64 .i64 n n (by omega) (Int.le_refl _) (by rw [hz2]; omega) (by omega)
  rw [this, hz1]
  simp only [Int.toNat_natCast, Value.cells]
theorem enTo_put (o : Nat → En) (k p : Nat) : putF (putF (putF (putF (enF (enTo o k)) (k * 4) (.string (o k).ky)) (k * 4 + 1) (.int .i64 (o k).sq)) (k * 4 + 2) (.bool (o k).gn)) (k * 4 + 3) (.string (o k).tx) p = enF (enTo o (k + 1)) p := by
  by_cases e : p / 4 = k
  · have hk : enTo o (k + 1) k = o k := by unfold enTo; rw [if_pos (by omega)]
    have : p = k * 4 ∨ p = k * 4 + 1 ∨ p = k * 4 + 2 ∨ p = k * 4 + 3 := by omega
    rcases this with e | e | e | e <;> subst e
    · rw [enF0, hk]; unfold putF; rw [if_neg (by omega), if_neg (by omega), if_neg (by omega), if_pos rfl]
    · rw [enF1, hk]; unfold putF; rw [if_neg (by omega), if_neg (by omega), if_pos rfl]
    · rw [enF2, hk]; unfold putF; rw [if_neg (by omega), if_pos rfl]
    · rw [enF3, hk]; unfold putF; rw [if_pos rfl]
  · have hk : enTo o (k + 1) (p / 4) = enTo o k (p / 4) := by
      unfold enTo
      by_cases h : p / 4 < k
      · rw [if_pos (by omega), if_pos h]
      · rw [if_neg (by omega), if_neg h]
    unfold putF
    rw [if_neg (by omega), if_neg (by omega), if_neg (by omega), if_neg (by omega)]
    unfold enF
    rw [hk]
set_option maxRecDepth 20000 in
set_option maxHeartbeats 4000000 in
theorem toEns (a : Option Addr) (len cap : Nat) (o : Nat → En) (hl : len ≤ 1048576) (w : World) (h : Ens w a len cap o) :
    Calls Try.prog 43 #[.slice a len cap] w fun e w' => e = .returned (.slice (some ⟨w.heap.size, 0, none⟩) len len) ∧ FRow w' w.heap.size 34 (len * 4) (enF o) ∧ Below w.heap.size w w' := by
  have hmk := fun w => mkEn w len hl
  have HH := hid h
  clear h
  go_enter Try.func43, Try.ntmps43
  go_wp2_with fail
  obtain ⟨W0, hW0⟩ : ∃ W0, W0 = w.alloc (.cells (madeCells #[.string ⟨#[]⟩, .int .i64 0, .bool false, .string ⟨#[]⟩] (len * 4)) 34) := ⟨_, rfl⟩
  have F0 : Hid (FRow W0 w.heap.size 34 (len * 4) (enF (enTo o 0))) := by
    rw [hW0]
    refine FRow.of (RowAt.new _ _ _) (by simp [madeCells]) fun p hp => ?_
    have h2 : p % 4 < 4 := Nat.mod_lt _ (by decide)
    have h3 : enTo o 0 (p / 4) = en0 := by unfold enTo; rw [if_neg (by omega)]
    simp [madeCells, hp, enF, h3, en0]
    rcases (show p % 4 = 0 ∨ p % 4 = 1 ∨ p % 4 = 2 ∨ p % 4 = 3 by omega) with e | e | e | e <;> rw [e] <;> rfl
  have B0 : Hid (Below w.heap.size w W0) := by rw [hW0]; exact (Below.refl _ _).alloc (Nat.le_refl _) _
  rw [← hW0]
  clear hW0 hmk
  go_loopw [4] (fun q wr => ∃ (k : Nat), k ≤ len ∧ q = .int .i64 k ∧ FRow wr w.heap.size 34 (len * 4) (enF (enTo o k)) ∧ Below w.heap.size w wr) (fun q _ => len - (intOf q).toNat)
  case atStart => exact ⟨0, Nat.zero_le _, rfl, F0.out, B0.out⟩
  case round =>
    obtain ⟨k, hk, rfl, hF, hB⟩ := hrel
    have HF := hid hF
    have HB := hid hB
    clear hF hB F0 B0
    by_cases hlt : k < len
    · have hlt' : (k : Int) < (len : Int) := by omega
      have k0 : (0 : Int) ≤ (k : Int) := by omega
      rcases (HH.out.below HB.out).2 with h00 | ⟨b, off, rfl, hbl, hc⟩
      · omega
      obtain ⟨c0, c1, c2, c3⟩ := hc k hlt
      have HP := hid (enTo_put o k)
      obtain ⟨X0, hX0⟩ : ∃ v, v = (o k).ky := ⟨_, rfl⟩
      obtain ⟨X1, hX1⟩ : ∃ v, v = (o k).sq := ⟨_, rfl⟩
      obtain ⟨X2, hX2⟩ : ∃ v, v = (o k).gn := ⟨_, rfl⟩
      obtain ⟨X3, hX3⟩ : ∃ v, v = (o k).tx := ⟨_, rfl⟩
      rw [← hX0] at c0 HP
      rw [← hX1] at c1 HP
      rw [← hX2] at c2 HP
      rw [← hX3] at c3 HP
      clear hc hX0 hX1 hX2 hX3
      go_wp2_with fail
      refine (to1En X0 X1 X2 X3 wr).mono ?_
      rintro e w2 ⟨rfl, hb2⟩
      have F2 := hid (HF.out.below hb2 HF.out.lt)
      have B2 := hid (HB.out.trans (hb2.mono HB.out.size))
      clear hb2 HF HB
      have q0 := (F2.out).cell (show k * 4 < len * 4 by omega)
      rw [enF0] at q0
      have q1 := (F2.out).cell (show k * 4 + 1 < len * 4 by omega)
      rw [enF1] at q1
      have q2 := (F2.out).cell (show k * 4 + 2 < len * 4 by omega)
      rw [enF2] at q2
      have q3 := (F2.out).cell (show k * 4 + 3 < len * 4 by omega)
      rw [enF3] at q3
      have f0 := F2.out.free (k * 4)
      have G1 : FRow (w2.setCell ⟨w.heap.size, k * 4, none⟩ (.string X0)) w.heap.size 34 (len * 4) (putF (enF (enTo o k)) (k * 4) (.string X0)) := F2.out.set (k * 4) (.string X0)
      have f1 := G1.free (k * 4 + 1)
      have G2 : FRow ((w2.setCell ⟨w.heap.size, k * 4, none⟩ (.string X0)).setCell ⟨w.heap.size, k * 4 + 1, none⟩ (.int .i64 X1)) w.heap.size 34 (len * 4) (putF (putF (enF (enTo o k)) (k * 4) (.string X0)) (k * 4 + 1) (.int .i64 X1)) := G1.set (k * 4 + 1) (.int .i64 X1)
      have f2 := G2.free (k * 4 + 2)
      have G3 : FRow (((w2.setCell ⟨w.heap.size, k * 4, none⟩ (.string X0)).setCell ⟨w.heap.size, k * 4 + 1, none⟩ (.int .i64 X1)).setCell ⟨w.heap.size, k * 4 + 2, none⟩ (.bool X2)) w.heap.size 34 (len * 4) (putF (putF (putF (enF (enTo o k)) (k * 4) (.string X0)) (k * 4 + 1) (.int .i64 X1)) (k * 4 + 2) (.bool X2)) := G2.set (k * 4 + 2) (.bool X2)
      have f3 := G3.free (k * 4 + 3)
      have G4 : FRow ((((w2.setCell ⟨w.heap.size, k * 4, none⟩ (.string X0)).setCell ⟨w.heap.size, k * 4 + 1, none⟩ (.int .i64 X1)).setCell ⟨w.heap.size, k * 4 + 2, none⟩ (.bool X2)).setCell ⟨w.heap.size, k * 4 + 3, none⟩ (.string X3)) w.heap.size 34 (len * 4) (putF (putF (putF (putF (enF (enTo o k)) (k * 4) (.string X0)) (k * 4 + 1) (.int .i64 X1)) (k * 4 + 2) (.bool X2)) (k * 4 + 3) (.string X3)) := G3.set (k * 4 + 3) (.string X3)
      have F4 : Hid (FRow ((((w2.setCell ⟨w.heap.size, k * 4, none⟩ (.string X0)).setCell ⟨w.heap.size, k * 4 + 1, none⟩ (.int .i64 X1)).setCell ⟨w.heap.size, k * 4 + 2, none⟩ (.bool X2)).setCell ⟨w.heap.size, k * 4 + 3, none⟩ (.string X3)) w.heap.size 34 (len * 4) (enF (enTo o (k + 1)))) := G4.congr fun p _ => HP.out p
      have B4 : Hid (Below w.heap.size w ((((w2.setCell ⟨w.heap.size, k * 4, none⟩ (.string X0)).setCell ⟨w.heap.size, k * 4 + 1, none⟩ (.int .i64 X1)).setCell ⟨w.heap.size, k * 4 + 2, none⟩ (.bool X2)).setCell ⟨w.heap.size, k * 4 + 3, none⟩ (.string X3))) := ((((B2.out.setCell (Nat.le_refl _) _).setCell (Nat.le_refl _) _).setCell (Nat.le_refl _) _).setCell (Nat.le_refl _) _)
      clear G1 G2 G3 G4 HP F2 B2
      go_wp2
      go_roundw
      case rel => exact ⟨k + 1, by omega, by go_num, F4.out, B4.out⟩
      case measure => simp [intOf]; omega
    · have hlt' : ¬ (k : Int) < (len : Int) := by omega
      have hke : k = len := by omega
      go_wp2
      go_ret
      refine ⟨rfl, HF.out.congr fun p hp => ?_, HB.out⟩
      unfold enF
      rw [show enTo o k (p / 4) = o (p / 4) by unfold enTo; rw [if_pos (by omega)]]
set_option maxRecDepth 20000 in
set_option maxHeartbeats 4000000 in
theorem szEns (a : Option Addr) (n cap : Nat) (o : Nat → En) (l : Nat) (hl : l ≤ 1048576) (hn : n ≤ 9223372036854775807) (hs : ∀ k, k < n → (o k).ky.size ≤ 9223372036854775807 ∧ (o k).tx.size ≤ 9223372036854775807) (w : World) (h : Ens w a n cap o) :
    Calls Try.prog 40 #[.slice a n cap, .int .i64 l] w fun e w' => e = .returned (.int .i64 (if n + szEn o n ≤ l then ((l - n - szEn o n : Nat) : Int) else -1)) ∧ Below w.heap.size w w' := by
  have HH := hid h
  have HS := hid hs
  clear h hs
  obtain ⟨RV, hRV⟩ : ∃ v : Int, v = if n + szEn o n ≤ l then ((l - n - szEn o n : Nat) : Int) else -1 := ⟨_, rfl⟩
  rw [← hRV]
  by_cases h0 : (l : Int) - (n : Int) < 0
  · rw [if_neg (by omega)] at hRV
    subst hRV
    go_enter Try.func40, Try.ntmps40
    go_wp2
    go_ret
    exact ⟨rfl, Below.refl _ _⟩
  obtain ⟨m, hm⟩ : ∃ m : Nat, m = l - n := ⟨_, rfl⟩
  have hme : (l : Int) - (n : Int) = m := by omega
  have HM := hid hm
  have hml : m + n = l ∧ True := ⟨by omega, trivial⟩
  clear hm
  go_enter Try.func40, Try.ntmps40
  go_wp2_with fail
  go_loopw [5, 1] (fun q y wr => ∃ (k : Nat), k ≤ n ∧ q = .int .i64 k ∧ szEn o k ≤ m ∧ y = .int .i64 ((m - szEn o k : Nat) : Int) ∧ Below w.heap.size w wr) (fun q _ _ => n - (intOf q).toNat)
  case atStart => exact ⟨0, Nat.zero_le _, rfl, Nat.zero_le _, by simp [szEn], Below.refl _ _⟩
  case round =>
    obtain ⟨k, hk, rfl, hz, rfl, hB⟩ := hrel
    have HB := hid hB
    clear hB
    by_cases hlt : k < n
    · have hlt' : (k : Int) < (n : Int) := by omega
      have k0 : (0 : Int) ≤ (k : Int) := by omega
      rcases (HH.out.below HB.out).2 with h00 | ⟨b, off, rfl, hbl, hc⟩
      · omega
      obtain ⟨c0, c1, c2, c3⟩ := hc k hlt
      obtain ⟨s0, s3⟩ := HS.out k hlt
      have hz1 : szEn o (k + 1) = szEn o k + (o k).ky.size + (o k).tx.size := rfl
      have hzn := szEn_mono o (show k + 1 ≤ n by omega)
      obtain ⟨X0, hX0⟩ : ∃ v, v = (o k).ky := ⟨_, rfl⟩
      obtain ⟨X1, hX1⟩ : ∃ v, v = (o k).sq := ⟨_, rfl⟩
      obtain ⟨X2, hX2⟩ : ∃ v, v = (o k).gn := ⟨_, rfl⟩
      obtain ⟨X3, hX3⟩ : ∃ v, v = (o k).tx := ⟨_, rfl⟩
      rw [← hX0] at c0 s0 hz1
      rw [← hX1] at c1
      rw [← hX2] at c2
      rw [← hX3] at c3 s3 hz1
      clear hc hX0 hX1 hX2 hX3
      obtain ⟨r, hr⟩ : ∃ r, r = m - szEn o k := ⟨_, rfl⟩
      rw [← hr]
      by_cases hfit : X0.size + X3.size ≤ r
      · obtain ⟨v, hv⟩ : ∃ v : Nat, v = r - X0.size - X3.size := ⟨_, rfl⟩
        have hpos : ¬ (v : Int) < 0 := by omega
        have hv1 : v ≤ 1048576 := by omega
        have Z1 : Hid (szEn o (k + 1) ≤ m ∧ m - szEn o (k + 1) = v) := by constructor <;> omega
        have hif : (if (X0.size : Int) + X3.size ≤ (r : Int) then (r : Int) - X0.size - X3.size else -1) = (v : Int) := by rw [if_pos (by omega)]; omega
        have S := sz1En X0 X1 X2 X3 r (by omega) (by omega) s0 s3 wr
        rw [hif] at S
        have HS2 := hid S
        have HRV := hid hRV
        have HR2 := hid hr
        clear S hif hRV hr hz1 hv
        go_wp2_with fail
        refine HS2.out.mono ?_
        rintro e w2 ⟨rfl, hb2⟩
        have B2 := hid (HB.out.trans (hb2.mono HB.out.size))
        clear hb2 HB c0 c1 c2 c3 hfit hz hzn s0 s3
        go_wp2
        go_roundw
        case rel => exact ⟨k + 1, by omega, by go_num, Z1.out.1, by rw [Z1.out.2], B2.out⟩
        case measure => simp [intOf]; omega
      · have hneg : (-1 : Int) < 0 := by omega
        have hif : (if (X0.size : Int) + X3.size ≤ (r : Int) then (r : Int) - X0.size - X3.size else -1) = -1 := if_neg (by omega)
        rw [if_neg (by omega)] at hRV
        have S := sz1En X0 X1 X2 X3 r (by omega) (by omega) s0 s3 wr
        rw [hif] at S
        have HS2 := hid S
        have HRV := hid hRV
        have HR2 := hid hr
        clear S hif hRV hr hz1
        go_wp2_with fail
        refine HS2.out.mono ?_
        rintro e w2 ⟨rfl, hb2⟩
        have B2 := hid (HB.out.trans (hb2.mono HB.out.size))
        clear hb2 HB
        go_wp2
        go_ret
        exact ⟨by rw [HRV.out]; rfl, B2.out⟩
    · have hlt' : ¬ (k : Int) < (n : Int) := by omega
      have hke : k = n := by omega
      subst hke
      rw [if_pos (by omega)] at hRV
      have HRV := hid hRV
      clear hRV
      go_wp2
      go_ret
      exact ⟨by rw [HRV.out, ← HM.out]; rfl, HB.out⟩
set_option maxRecDepth 20000 in
set_option maxHeartbeats 4000000 in
theorem eqEns (a : Option Addr) (n cap : Nat) (a' : Option Addr) (cap' : Nat) (o : Nat → En) (hl : n ≤ 1048576) (w : World) (h : Ens w a n cap o) (h' : Ens w a' n cap' o) :
    Calls Try.prog 44 #[.slice a n cap, .slice a' n cap'] w fun e w' => e = .returned (.bool true) ∧ Below w.heap.size w w' := by
  have HH := hid h
  have HH' := hid h'
  have dn : ((n : Int) != (n : Int)) = false := by simp
  clear h h'
  go_enter Try.func44, Try.ntmps44
  go_wp2_with fail
  go_loopw [5] (fun q wr => ∃ (k : Nat), k ≤ n ∧ q = .int .i64 k ∧ Below w.heap.size w wr) (fun q _ => n - (intOf q).toNat)
  case atStart => exact ⟨0, Nat.zero_le _, rfl, Below.refl _ _⟩
  case round =>
    obtain ⟨k, hk, rfl, hB⟩ := hrel
    have HB := hid hB
    clear hB
    by_cases hlt : k < n
    · have hlt' : (k : Int) < (n : Int) := by omega
      have k0 : (0 : Int) ≤ (k : Int) := by omega
      rcases (HH.out.below HB.out).2 with h00 | ⟨b, off, rfl, hbl, hc⟩
      · omega
      rcases (HH'.out.below HB.out).2 with h00 | ⟨b', off', rfl, hbl', hc'⟩
      · omega
      obtain ⟨c0, c1, c2, c3⟩ := hc k hlt
      obtain ⟨e0, e1, e2, e3⟩ := hc' k hlt
      obtain ⟨X0, hX0⟩ : ∃ v, v = (o k).ky := ⟨_, rfl⟩
      obtain ⟨X1, hX1⟩ : ∃ v, v = (o k).sq := ⟨_, rfl⟩
      obtain ⟨X2, hX2⟩ : ∃ v, v = (o k).gn := ⟨_, rfl⟩
      obtain ⟨X3, hX3⟩ : ∃ v, v = (o k).tx := ⟨_, rfl⟩
      rw [← hX0] at c0 e0
      rw [← hX1] at c1 e1
      rw [← hX2] at c2 e2
      rw [← hX3] at c3 e3
      clear hc hc' hX0 hX1 hX2 hX3
      go_wp2_with fail
      go_region_held3 (fun wx => (wx.cell? ⟨b, off + k * 4, none⟩ = some (.string X0) ∧ wx.cell? ⟨b, off + k * 4 + 1, none⟩ = some (.int .i64 X1) ∧ wx.cell? ⟨b, off + k * 4 + 2, none⟩ = some (.bool X2) ∧ wx.cell? ⟨b, off + k * 4 + 3, none⟩ = some (.string X3)) ∧ wx.cell? ⟨b', off' + k * 4, none⟩ = some (.string X0) ∧ wx.cell? ⟨b', off' + k * 4 + 1, none⟩ = some (.int .i64 X1) ∧ wx.cell? ⟨b', off' + k * 4 + 2, none⟩ = some (.bool X2) ∧ wx.cell? ⟨b', off' + k * 4 + 3, none⟩ = some (.string X3))
        (first | exact ⟨⟨c0, c1, c2, c3⟩, e0, e1, e2, e3⟩ | exact ⟨⟨(hb2.cell hbl).trans c0, (hb2.cell hbl).trans c1, (hb2.cell hbl).trans c2, (hb2.cell hbl).trans c3⟩, (hb2.cell hbl').trans e0, (hb2.cell hbl').trans e1, (hb2.cell hbl').trans e2, (hb2.cell hbl').trans e3⟩)
        ((go_at_call 60; refine (eqEn X0 X1 X2 X3 _).mono ?_; rintro e w2 ⟨rfl, hb2⟩))
      have N2 : Hid (Below w.heap.size w w2) := HB.out.drew.trans (hb2.mono HB.out.size)
      clear hb2 c0 e0 c1 e1 c2 e2 c3 e3 HB
      go_wp2
      go_roundw
      case rel => exact ⟨k + 1, by omega, by go_num, N2.out⟩
      case measure => simp [intOf]; omega
    · have hlt' : ¬ (k : Int) < (n : Int) := by omega
      go_wp2
      go_ret
      exact ⟨rfl, HB.out⟩
end Go.Proofs.Ytnkekdnfbndfbaa
