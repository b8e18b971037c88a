import Derived.Test.YtfkkkplmnanifaaLawLr
namespace Go.Proofs.Ytfkkkplmnanifaa
open Go.RowKit
/-! Rows of LifeRule: what the laws do with them (by lawrow.py). -/
def lr0 : Lr := ⟨0, ⟨#[]⟩, 0⟩
/-- the first k of them, then empty ones -/
def lrTo (o : Nat → Lr) (k i : Nat) : Lr := if i < k then o i else lr0
theorem Try.infoLr : (Try.prog.info? 53).map (fun i => (i.zero, i.size, i.bytes)) = some (some (.agg #[.int .i64 0, .string ⟨#[]⟩, .int .i64 0]), 3, 32) := by kernel_rfl
theorem mkLr (w : World) (n : Nat) (hn : n ≤ 1048576) : (Instr.makeSlice 28 (.int .i64 n) (.int .i64 n)).run Try.prog w = .ok (.slice (some ⟨w.heap.size, 0, none⟩) n n) (w.alloc (.cells (madeCells #[.int .i64 0, .string ⟨#[]⟩, .int .i64 0] (n * 3)) 53)) := by
  obtain ⟨i0, hi, hz0, hz1, hz2⟩ := info_parts Try.infoLr
  have := run_make (P := Try.prog) w 28 53 i0 _ Try.underlying28 hi hz0 .i64 .i64 n n (by omega) (Int.le_refl _) (by rw [hz2]; omega) (by omega)
  rw [this, hz1]
  simp only [Int.toNat_natCast, Value.cells]
theorem lrTo_put (o : Nat → Lr) (k p : Nat) : putF (putF (putF (lrF (lrTo o k)) (k * 3) (.int .i64 (o k).kd)) (k * 3 + 1) (.string (o k).px)) (k * 3 + 2) (.int .i64 (o k).ag) p = lrF (lrTo o (k + 1)) p := by
  by_cases e : p / 3 = k
  · have hk : lrTo o (k + 1) k = o k := by unfold lrTo; rw [if_pos (by omega)]
    have : p = k * 3 ∨ p = k * 3 + 1 ∨ p = k * 3 + 2 := by omega
    rcases this with e | e | e <;> subst e
    · rw [lrF0, hk]; unfold putF; rw [if_neg (by omega), if_neg (by omega), if_pos rfl]
    · rw [lrF1, hk]; unfold putF; rw [if_neg (by omega), if_pos rfl]
    · rw [lrF2, hk]; unfold putF; rw [if_pos rfl]
  · have hk : lrTo o (k + 1) (p / 3) = lrTo o k (p / 3) := by
      unfold lrTo
      by_cases h : p / 3 < k
      · rw [if_pos (by omega), if_pos h]
      · rw [if_neg (by omega), if_neg h]
    unfold putF
    rw [if_neg (by omega), if_neg (by omega), if_neg (by omega)]
    unfold lrF
    rw [hk]
set_option maxRecDepth 20000 in
set_option maxHeartbeats 4000000 in
theorem toLrs (a : Option Addr) (len cap : Nat) (o : Nat → Lr) (hl : len ≤ 1048576) (w : World) (h : Lrs w a len cap o) :
    Calls Try.prog 15 #[.slice a len cap] w fun e w' => e = .returned (.slice (some ⟨w.heap.size, 0, none⟩) len len) ∧ FRow w' w.heap.size 53 (len * 3) (lrF o) ∧ Below w.heap.size w w' := by
  have hmk := fun w => mkLr w len hl
  have HH := hid h
  clear h
  go_enter Try.func15, Try.ntmps15
  go_wp2_with fail
  obtain ⟨W0, hW0⟩ : ∃ W0, W0 = w.alloc (.cells (madeCells #[.int .i64 0, .string ⟨#[]⟩, .int .i64 0] (len * 3)) 53) := ⟨_, rfl⟩
  have F0 : Hid (FRow W0 w.heap.size 53 (len * 3) (lrF (lrTo o 0))) := by
    rw [hW0]
    refine FRow.of (RowAt.new _ _ _) (by simp [madeCells]) fun p hp => ?_
    have h2 : p % 3 < 3 := Nat.mod_lt _ (by decide)
    have h3 : lrTo o 0 (p / 3) = lr0 := by unfold lrTo; rw [if_neg (by omega)]
    simp [madeCells, hp, lrF, h3, lr0]
    rcases (show p % 3 = 0 ∨ p % 3 = 1 ∨ p % 3 = 2 by omega) with e | e | e <;> rw [e] <;> rfl
  have B0 : Hid (Below w.heap.size w W0) := by rw [hW0]; exact (Below.refl _ _).alloc (Nat.le_refl _) _
  rw [← hW0]
  clear hW0 hmk
  go_loopw [4] (fun q wr => ∃ (k : Nat), k ≤ len ∧ q = .int .i64 k ∧ FRow wr w.heap.size 53 (len * 3) (lrF (lrTo o k)) ∧ Below w.heap.size w wr) (fun q _ => len - (intOf q).toNat)
  case atStart => exact ⟨0, Nat.zero_le _, rfl, F0.out, B0.out⟩
  case round =>
    obtain ⟨k, hk, rfl, hF, hB⟩ := hrel
    have HF := hid hF
    have HB := hid hB
    clear hF hB F0 B0
    by_cases hlt : k < len
    · have hlt' : (k : Int) < (len : Int) := by omega
      have k0 : (0 : Int) ≤ (k : Int) := by omega
      rcases (HH.out.below HB.out).2 with h00 | ⟨b, off, rfl, hbl, hc⟩
      · omega
      obtain ⟨c0, c1, c2⟩ := hc k hlt
      have HP := hid (lrTo_put o k)
      obtain ⟨X0, hX0⟩ : ∃ v, v = (o k).kd := ⟨_, rfl⟩
      obtain ⟨X1, hX1⟩ : ∃ v, v = (o k).px := ⟨_, rfl⟩
      obtain ⟨X2, hX2⟩ : ∃ v, v = (o k).ag := ⟨_, rfl⟩
      rw [← hX0] at c0 HP
      rw [← hX1] at c1 HP
      rw [← hX2] at c2 HP
      clear hc hX0 hX1 hX2
      go_wp2_with fail
      refine (to1Lr X0 X1 X2 wr).mono ?_
      rintro e w2 ⟨rfl, hb2⟩
      have F2 := hid (HF.out.below hb2 HF.out.lt)
      have B2 := hid (HB.out.trans (hb2.mono HB.out.size))
      clear hb2 HF HB
      have q0 := (F2.out).cell (show k * 3 < len * 3 by omega)
      rw [lrF0] at q0
      have q1 := (F2.out).cell (show k * 3 + 1 < len * 3 by omega)
      rw [lrF1] at q1
      have q2 := (F2.out).cell (show k * 3 + 2 < len * 3 by omega)
      rw [lrF2] at q2
      have f0 := F2.out.free (k * 3)
      have G1 : FRow (w2.setCell ⟨w.heap.size, k * 3, none⟩ (.int .i64 X0)) w.heap.size 53 (len * 3) (putF (lrF (lrTo o k)) (k * 3) (.int .i64 X0)) := F2.out.set (k * 3) (.int .i64 X0)
      have f1 := G1.free (k * 3 + 1)
      have G2 : FRow ((w2.setCell ⟨w.heap.size, k * 3, none⟩ (.int .i64 X0)).setCell ⟨w.heap.size, k * 3 + 1, none⟩ (.string X1)) w.heap.size 53 (len * 3) (putF (putF (lrF (lrTo o k)) (k * 3) (.int .i64 X0)) (k * 3 + 1) (.string X1)) := G1.set (k * 3 + 1) (.string X1)
      have f2 := G2.free (k * 3 + 2)
      have G3 : FRow (((w2.setCell ⟨w.heap.size, k * 3, none⟩ (.int .i64 X0)).setCell ⟨w.heap.size, k * 3 + 1, none⟩ (.string X1)).setCell ⟨w.heap.size, k * 3 + 2, none⟩ (.int .i64 X2)) w.heap.size 53 (len * 3) (putF (putF (putF (lrF (lrTo o k)) (k * 3) (.int .i64 X0)) (k * 3 + 1) (.string X1)) (k * 3 + 2) (.int .i64 X2)) := G2.set (k * 3 + 2) (.int .i64 X2)
      have F4 : Hid (FRow (((w2.setCell ⟨w.heap.size, k * 3, none⟩ (.int .i64 X0)).setCell ⟨w.heap.size, k * 3 + 1, none⟩ (.string X1)).setCell ⟨w.heap.size, k * 3 + 2, none⟩ (.int .i64 X2)) w.heap.size 53 (len * 3) (lrF (lrTo o (k + 1)))) := G3.congr fun p _ => HP.out p
      have B4 : Hid (Below w.heap.size w (((w2.setCell ⟨w.heap.size, k * 3, none⟩ (.int .i64 X0)).setCell ⟨w.heap.size, k * 3 + 1, none⟩ (.string X1)).setCell ⟨w.heap.size, k * 3 + 2, none⟩ (.int .i64 X2))) := (((B2.out.setCell (Nat.le_refl _) _).setCell (Nat.le_refl _) _).setCell (Nat.le_refl _) _)
      clear G1 G2 G3 HP F2 B2
      go_wp2
      go_roundw
      case rel => exact ⟨k + 1, by omega, by go_num, F4.out, B4.out⟩
      case measure => simp [intOf]; omega
    · have hlt' : ¬ (k : Int) < (len : Int) := by omega
      have hke : k = len := by omega
      go_wp2
      go_ret
      refine ⟨rfl, HF.out.congr fun p hp => ?_, HB.out⟩
      unfold lrF
      rw [show lrTo o k (p / 3) = o (p / 3) by unfold lrTo; rw [if_pos (by omega)]]
set_option maxRecDepth 20000 in
set_option maxHeartbeats 4000000 in
theorem szLrs (a : Option Addr) (n cap : Nat) (o : Nat → Lr) (l : Nat) (hl : l ≤ 1048576) (hn : n ≤ 9223372036854775807) (hs : ∀ k, k < n → (o k).px.size ≤ 9223372036854775807) (w : World) (h : Lrs w a n cap o) :
    Calls Try.prog 9 #[.slice a n cap, .int .i64 l] w fun e w' => e = .returned (.int .i64 (if n + szLr o n ≤ l then ((l - n - szLr o n : Nat) : Int) else -1)) ∧ Below w.heap.size w w' := by
  have HH := hid h
  have HS := hid hs
  clear h hs
  obtain ⟨RV, hRV⟩ : ∃ v : Int, v = if n + szLr o n ≤ l then ((l - n - szLr o n : Nat) : Int) else -1 := ⟨_, rfl⟩
  rw [← hRV]
  by_cases h0 : (l : Int) - (n : Int) < 0
  · rw [if_neg (by omega)] at hRV
    subst hRV
    go_enter Try.func9, Try.ntmps9
    go_wp2
    go_ret
    exact ⟨rfl, Below.refl _ _⟩
  obtain ⟨m, hm⟩ : ∃ m : Nat, m = l - n := ⟨_, rfl⟩
  have hme : (l : Int) - (n : Int) = m := by omega
  have HM := hid hm
  have hml : m + n = l ∧ True := ⟨by omega, trivial⟩
  clear hm
  go_enter Try.func9, Try.ntmps9
  go_wp2_with fail
  go_loopw [5, 1] (fun q y wr => ∃ (k : Nat), k ≤ n ∧ q = .int .i64 k ∧ szLr o k ≤ m ∧ y = .int .i64 ((m - szLr o k : Nat) : Int) ∧ Below w.heap.size w wr) (fun q _ _ => n - (intOf q).toNat)
  case atStart => exact ⟨0, Nat.zero_le _, rfl, Nat.zero_le _, by simp [szLr], Below.refl _ _⟩
  case round =>
    obtain ⟨k, hk, rfl, hz, rfl, hB⟩ := hrel
    have HB := hid hB
    clear hB
    by_cases hlt : k < n
    · have hlt' : (k : Int) < (n : Int) := by omega
      have k0 : (0 : Int) ≤ (k : Int) := by omega
      rcases (HH.out.below HB.out).2 with h00 | ⟨b, off, rfl, hbl, hc⟩
      · omega
      obtain ⟨c0, c1, c2⟩ := hc k hlt
      obtain s1 := HS.out k hlt
      have hz1 : szLr o (k + 1) = szLr o k + (o k).px.size := rfl
      have hzn := szLr_mono o (show k + 1 ≤ n by omega)
      obtain ⟨X0, hX0⟩ : ∃ v, v = (o k).kd := ⟨_, rfl⟩
      obtain ⟨X1, hX1⟩ : ∃ v, v = (o k).px := ⟨_, rfl⟩
      obtain ⟨X2, hX2⟩ : ∃ v, v = (o k).ag := ⟨_, rfl⟩
      rw [← hX0] at c0
      rw [← hX1] at c1 s1 hz1
      rw [← hX2] at c2
      clear hc hX0 hX1 hX2
      obtain ⟨r, hr⟩ : ∃ r, r = m - szLr o k := ⟨_, rfl⟩
      rw [← hr]
      by_cases hfit : X1.size ≤ r
      · obtain ⟨v, hv⟩ : ∃ v : Nat, v = r - X1.size := ⟨_, rfl⟩
        have hpos : ¬ (v : Int) < 0 := by omega
        have hv1 : v ≤ 1048576 := by omega
        have Z1 : Hid (szLr o (k + 1) ≤ m ∧ m - szLr o (k + 1) = v) := by constructor <;> omega
        have hif : (if (X1.size : Int) ≤ (r : Int) then (r : Int) - X1.size else -1) = (v : Int) := by rw [if_pos (by omega)]; omega
        have S := sz1Lr X0 X1 X2 r (by omega) (by omega) s1 wr
        rw [hif] at S
        have HS2 := hid S
        have HRV := hid hRV
        have HR2 := hid hr
        clear S hif hRV hr hz1 hv
        go_wp2_with fail
        refine HS2.out.mono ?_
        rintro e w2 ⟨rfl, hb2⟩
        have B2 := hid (HB.out.trans (hb2.mono HB.out.size))
        clear hb2 HB c0 c1 c2 hfit hz hzn s1
        go_wp2
        go_roundw
        case rel => exact ⟨k + 1, by omega, by go_num, Z1.out.1, by rw [Z1.out.2], B2.out⟩
        case measure => simp [intOf]; omega
      · have hneg : (-1 : Int) < 0 := by omega
        have hif : (if (X1.size : Int) ≤ (r : Int) then (r : Int) - X1.size else -1) = -1 := if_neg (by omega)
        rw [if_neg (by omega)] at hRV
        have S := sz1Lr X0 X1 X2 r (by omega) (by omega) s1 wr
        rw [hif] at S
        have HS2 := hid S
        have HRV := hid hRV
        have HR2 := hid hr
        clear S hif hRV hr hz1
        go_wp2_with fail
        refine HS2.out.mono ?_
        rintro e w2 ⟨rfl, hb2⟩
        have B2 := hid (HB.out.trans (hb2.mono HB.out.size))
        clear hb2 HB
        go_wp2
        go_ret
        exact ⟨by rw [HRV.out]; rfl, B2.out⟩
    · have hlt' : ¬ (k : Int) < (n : Int) := by omega
      have hke : k = n := by omega
      subst hke
      rw [if_pos (by omega)] at hRV
      have HRV := hid hRV
      clear hRV
      go_wp2
      go_ret
      exact ⟨by rw [HRV.out, ← HM.out]; rfl, HB.out⟩
set_option maxRecDepth 20000 in
set_option maxHeartbeats 4000000 in
theorem eqLrs (a : Option Addr) (n cap : Nat) (a' : Option Addr) (cap' : Nat) (o : Nat → Lr) (hl : n ≤ 1048576) (w : World) (h : Lrs w a n cap o) (h' : Lrs w a' n cap' o) :
    Calls Try.prog 22 #[.slice a n cap, .slice a' n cap'] w fun e w' => e = .returned (.bool true) ∧ Below w.heap.size w w' := by
  have HH := hid h
  have HH' := hid h'
  have dn : ((n : Int) != (n : Int)) = false := by simp
  clear h h'
  go_enter Try.func22, Try.ntmps22
  go_wp2_with fail
  go_loopw [5] (fun q wr => ∃ (k : Nat), k ≤ n ∧ q = .int .i64 k ∧ Below w.heap.size w wr) (fun q _ => n - (intOf q).toNat)
  case atStart => exact ⟨0, Nat.zero_le _, rfl, Below.refl _ _⟩
  case round =>
    obtain ⟨k, hk, rfl, hB⟩ := hrel
    have HB := hid hB
    clear hB
    by_cases hlt : k < n
    · have hlt' : (k : Int) < (n : Int) := by omega
      have k0 : (0 : Int) ≤ (k : Int) := by omega
      rcases (HH.out.below HB.out).2 with h00 | ⟨b, off, rfl, hbl, hc⟩
      · omega
      rcases (HH'.out.below HB.out).2 with h00 | ⟨b', off', rfl, hbl', hc'⟩
      · omega
      obtain ⟨c0, c1, c2⟩ := hc k hlt
      obtain ⟨e0, e1, e2⟩ := hc' k hlt
      obtain ⟨X0, hX0⟩ : ∃ v, v = (o k).kd := ⟨_, rfl⟩
      obtain ⟨X1, hX1⟩ : ∃ v, v = (o k).px := ⟨_, rfl⟩
      obtain ⟨X2, hX2⟩ : ∃ v, v = (o k).ag := ⟨_, rfl⟩
      rw [← hX0] at c0 e0
      rw [← hX1] at c1 e1
      rw [← hX2] at c2 e2
      clear hc hc' hX0 hX1 hX2
      go_wp2_with fail
      go_region_held3 (fun wx => (wx.cell? ⟨b, off + k * 3, none⟩ = some (.int .i64 X0) ∧ wx.cell? ⟨b, off + k * 3 + 1, none⟩ = some (.string X1) ∧ wx.cell? ⟨b, off + k * 3 + 2, none⟩ = some (.int .i64 X2)) ∧ wx.cell? ⟨b', off' + k * 3, none⟩ = some (.int .i64 X0) ∧ wx.cell? ⟨b', off' + k * 3 + 1, none⟩ = some (.string X1) ∧ wx.cell? ⟨b', off' + k * 3 + 2, none⟩ = some (.int .i64 X2))
        (first | exact ⟨⟨c0, c1, c2⟩, e0, e1, e2⟩ | exact ⟨⟨(hb2.cell hbl).trans c0, (hb2.cell hbl).trans c1, (hb2.cell hbl).trans c2⟩, (hb2.cell hbl').trans e0, (hb2.cell hbl').trans e1, (hb2.cell hbl').trans e2⟩)
        ((go_at_call 31; refine (eqLr X0 X1 X2 _).mono ?_; rintro e w2 ⟨rfl, hb2⟩))
      have N2 : Hid (Below w.heap.size w w2) := HB.out.drew.trans (hb2.mono HB.out.size)
      clear hb2 c0 e0 c1 e1 c2 e2 HB
      go_wp2
      go_roundw
      case rel => exact ⟨k + 1, by omega, by go_num, N2.out⟩
      case measure => simp [intOf]; omega
    · have hlt' : ¬ (k : Int) < (n : Int) := by omega
      go_wp2
      go_ret
      exact ⟨rfl, HB.out⟩
end Go.Proofs.Ytfkkkplmnanifaa
