import Derived.Test.YtekdphfifdfmbaaG2
import Derived.Test.YtekdphfifdfmbaaISeqs2
namespace Go.Proofs.Ytekdphfifdfmbaa
open Go.RowKit
/-! Slices of runs: what the laws do with them. -/
/-- how much the laws count them -/
def szR (R : Nat → Rn) : Nat → Nat
  | 0 => 0
  | k + 1 => szR R k + ((R k).n + szEn (R k).o (R k).n)
theorem szR_mono (R : Nat → Rn) {j k : Nat} (h : j ≤ k) : szR R j ≤ szR R k := by
  induction k with
  | zero => rw [Nat.le_zero.mp h]; exact Nat.le_refl _
  | succ k ih => rcases Nat.lt_or_ge j (k + 1) with h1 | h1
                 · have := ih (by omega); show _ ≤ szR R k + _; omega
                 · rw [show j = k + 1 by omega]; exact Nat.le_refl _
theorem szR_at (R : Nat → Rn) {k m : Nat} (h : k < m) : (R k).n + szEn (R k).o (R k).n ≤ szR R m := by
  have h1 := szR_mono R (show k + 1 ≤ m by omega)
  have h2 : szR R (k + 1) = szR R k + ((R k).n + szEn (R k).o (R k).n) := rfl
  omega
/-- the lengths and texts that a row can hand in -/
def RnIn (R : Nat → Rn) (m : Nat) : Prop := ∀ k, k < m → (R k).n ≤ 9223372036854775807 ∧ ∀ i, i < (R k).n → ((R k).o i).ky.size ≤ 9223372036854775807 ∧ ((R k).o i).tx.size ≤ 9223372036854775807
set_option maxRecDepth 20000 in
set_option maxHeartbeats 4000000 in
theorem szRns (a : Option Addr) (m cap : Nat) (R : Nat → Rn) (l : Nat) (hl : l ≤ 1048576) (hm : m ≤ 9223372036854775807) (hs : RnIn R m) (w : World) (h : Rns w a m cap R) :
    Calls Try.prog 12 #[.slice a m cap, .int .i64 l] w fun e w' => e = .returned (.int .i64 (if m + szR R m ≤ l then ((l - m - szR R m : Nat) : Int) else -1)) ∧ Below w.heap.size w w' := by
  have HH := hid h
  have HS := hid hs
  clear h hs
  obtain ⟨RV, hRV⟩ : ∃ v : Int, v = if m + szR R m ≤ l then ((l - m - szR R m : Nat) : Int) else -1 := ⟨_, rfl⟩
  rw [← hRV]
  by_cases h0 : (l : Int) - (m : Int) < 0
  · rw [if_neg (by omega)] at hRV
    subst hRV
    go_enter Try.func12, Try.ntmps12
    go_wp2
    go_ret
    exact ⟨rfl, Below.refl _ _⟩
  obtain ⟨q, hq⟩ : ∃ q : Nat, q = l - m := ⟨_, rfl⟩
  have hqe : (l : Int) - (m : Int) = q := by omega
  have HQ := hid hq
  have hql : q + m = l ∧ True := ⟨by omega, trivial⟩
  clear hq
  go_enter Try.func12, Try.ntmps12
  go_wp2_with fail
  go_loopw [5, 1] (fun x y wr => ∃ (k : Nat), k ≤ m ∧ x = .int .i64 k ∧ szR R k ≤ q ∧ y = .int .i64 ((q - szR R k : Nat) : Int) ∧ Below w.heap.size w wr) (fun x _ _ => m - (intOf x).toNat)
  case atStart => exact ⟨0, Nat.zero_le _, rfl, Nat.zero_le _, by simp [szR], Below.refl _ _⟩
  case round =>
    obtain ⟨k, hk, rfl, hz, rfl, hB⟩ := hrel
    have HB := hid hB
    clear hB
    by_cases hlt : k < m
    · have hlt' : (k : Int) < (m : Int) := by omega
      have k0 : (0 : Int) ≤ (k : Int) := by omega
      rcases (HH.out.below HB.out).2.1 with h00 | ⟨b, off, rfl, hbl, hc⟩
      · omega
      have c0 := hc k hlt
      have hE := (HH.out.below HB.out).2.2 k hlt
      obtain ⟨s1, s2⟩ := HS.out k hlt
      have hz1 : szR R (k + 1) = szR R k + ((R k).n + szEn (R k).o (R k).n) := rfl
      have hzn := szR_mono R (show k + 1 ≤ m by omega)
      obtain ⟨r, hr⟩ : ∃ r, r = q - szR R k := ⟨_, rfl⟩
      rw [← hr]
      have S := szRn (R k).ad (R k).n (R k).cap (R k).o r (by omega) s1 s2 wr hE
      obtain ⟨T, hT⟩ : ∃ T, T = (R k).n + szEn (R k).o (R k).n := ⟨_, rfl⟩
      rw [show r - (R k).n - szEn (R k).o (R k).n = r - T by omega, ← hT] at S
      rw [← hT] at hz1
      obtain ⟨A, hA⟩ : ∃ v, v = (R k).ad := ⟨_, rfl⟩
      obtain ⟨N, hN⟩ : ∃ v, v = (R k).n := ⟨_, rfl⟩
      obtain ⟨C, hC⟩ : ∃ v, v = (R k).cap := ⟨_, rfl⟩
      rw [← hA, ← hN, ← hC] at S c0
      clear hc hA hN hC hE s1 s2 hT
      by_cases hfit : T ≤ r
      · rw [if_pos hfit] at S
        obtain ⟨v, hv⟩ : ∃ v : Nat, v = r - T := ⟨_, rfl⟩
        rw [← hv] at S
        have hpos : ¬ (v : Int) < 0 := by omega
        have hv1 : v ≤ 1048576 := by omega
        have Z1 : Hid (szR R (k + 1) ≤ q ∧ q - szR R (k + 1) = v) := by constructor <;> omega
        have HS2 := hid S
        have HRV := hid hRV
        have HR2 := hid hr
        clear S hRV hr hz1 hv
        go_wp2_with fail
        refine HS2.out.mono ?_
        rintro e w2 ⟨rfl, hb2⟩
        have B2 := hid (HB.out.trans (hb2.mono HB.out.size))
        clear hb2 HB c0 hfit hz hzn
        go_wp2
        go_roundw
        case rel => exact ⟨k + 1, by omega, by go_num, Z1.out.1, by rw [Z1.out.2], B2.out⟩
        case measure => simp [intOf]; omega
      · rw [if_neg hfit] at S
        have hneg : (-1 : Int) < 0 := by omega
        rw [if_neg (by omega)] at hRV
        have HS2 := hid S
        have HRV := hid hRV
        have HR2 := hid hr
        clear S hRV hr hz1
        go_wp2_with fail
        refine HS2.out.mono ?_
        rintro e w2 ⟨rfl, hb2⟩
        have B2 := hid (HB.out.trans (hb2.mono HB.out.size))
        clear hb2 HB
        go_wp2
        go_ret
        exact ⟨by rw [HRV.out]; rfl, B2.out⟩
    · have hlt' : ¬ (k : Int) < (m : Int) := by omega
      have hke : k = m := by omega
      subst hke
      rw [if_pos (by omega)] at hRV
      have HRV := hid hRV
      clear hRV
      go_wp2
      go_ret
      exact ⟨by rw [HRV.out, ← HQ.out]; rfl, HB.out⟩
set_option maxRecDepth 20000 in
set_option maxHeartbeats 4000000 in
theorem eqRns (a : Option Addr) (m cap : Nat) (R : Nat → Rn) (a' : Option Addr) (cap' : Nat) (R' : Nat → Rn) (hm : m ≤ 1048576) (hR : ∀ k, k < m → (R k).n = (R' k).n ∧ (R k).o = (R' k).o ∧ (R k).n ≤ 1048576) (w : World) (h : Rns w a m cap R) (h' : Rns w a' m cap' R') :
    Calls Try.prog 15 #[.slice a m cap, .slice a' m cap'] w fun e w' => e = .returned (.bool true) ∧ Below w.heap.size w w' := by
  have HH := hid h
  have HH' := hid h'
  have HR := hid hR
  have dn : ((m : Int) != (m : Int)) = false := by simp
  clear h h' hR
  go_enter Try.func15, Try.ntmps15
  go_wp2_with fail
  go_loopw [5] (fun q wr => ∃ (k : Nat), k ≤ m ∧ q = .int .i64 k ∧ Below w.heap.size w wr) (fun q _ => m - (intOf q).toNat)
  case atStart => exact ⟨0, Nat.zero_le _, rfl, Below.refl _ _⟩
  case round =>
    obtain ⟨k, hk, rfl, hB⟩ := hrel
    have HB := hid hB
    clear hB
    by_cases hlt : k < m
    · have hlt' : (k : Int) < (m : Int) := by omega
      have k0 : (0 : Int) ≤ (k : Int) := by omega
      rcases (HH.out.below HB.out).2.1 with h00 | ⟨b, off, rfl, hbl, hc⟩
      · omega
      rcases (HH'.out.below HB.out).2.1 with h00 | ⟨b', off', rfl, hbl', hc'⟩
      · omega
      have c0 := hc k hlt
      have e0 := hc' k hlt
      obtain ⟨n1, n2, n3⟩ := HR.out k hlt
      have hE1 := (HH.out.below HB.out).2.2 k hlt
      have hE2 := (HH'.out.below HB.out).2.2 k hlt
      rw [← n1, ← n2] at hE2
      rw [← n1] at e0
      have K := fun wx (hb : Below wr.heap.size wr wx) => hid (eqRn (R k).ad (R k).n (R k).cap (R' k).ad (R' k).cap (R k).o n3 wx (hE1.below hb) (hE2.below hb))
      obtain ⟨A, hA⟩ : ∃ v, v = (R k).ad := ⟨_, rfl⟩
      obtain ⟨N, hN⟩ : ∃ v, v = (R k).n := ⟨_, rfl⟩
      obtain ⟨C, hC⟩ : ∃ v, v = (R k).cap := ⟨_, rfl⟩
      obtain ⟨A', hA'⟩ : ∃ v, v = (R' k).ad := ⟨_, rfl⟩
      obtain ⟨C', hC'⟩ : ∃ v, v = (R' k).cap := ⟨_, rfl⟩
      rw [← hA, ← hN, ← hC, ← hA', ← hC'] at K
      rw [← hA, ← hN, ← hC] at c0
      rw [← hA', ← hN, ← hC'] at e0
      clear hc hc' hA hN hC hA' hC' n1 n2 n3 hE1 hE2
      go_wp2_with fail
      go_region_held3 (fun wx => wx.cell? ⟨b, off + k, none⟩ = some (.slice A N C) ∧ wx.cell? ⟨b', off' + k, none⟩ = some (.slice A' N C'))
        (first | exact ⟨c0, e0⟩ | exact ⟨(hb2.cell hbl).trans c0, (hb2.cell hbl').trans e0⟩)
        ((go_at_call 14; refine (K _ (Below.refl _ wr).drew).out.mono ?_; rintro e w2 ⟨rfl, hb2⟩))
      have N2 : Hid (Below w.heap.size w w2) := HB.out.drew.trans (hb2.mono HB.out.size)
      clear hb2 c0 e0 HB K
      go_wp2
      go_roundw
      case rel => exact ⟨k + 1, by omega, by go_num, N2.out⟩
      case measure => simp [intOf]; omega
    · have hlt' : ¬ (k : Int) < (m : Int) := by omega
      go_wp2
      go_ret
      exact ⟨rfl, HB.out⟩
/-- the cells of the first k runs that were made, then empty ones -/
def rnTo (R : Nat → Rn) (G : Nat → Nat) (k p : Nat) : Value := if p < k then .slice (some ⟨G p, 0, none⟩) (R p).n (R p).n else .slice none 0 0
/-- runs that were made anew -/
def mkR (R : Nat → Rn) (G : Nat → Nat) (k : Nat) : Rn := ⟨some ⟨G k, 0, none⟩, (R k).n, (R k).n, (R k).o⟩
theorem Try.infoRn : (Try.prog.info? 28).map (fun i => (i.zero, i.size, i.bytes)) = some (some (.agg #[.slice none 0 0]), 1, 24) := by kernel_rfl
theorem mkRn (w : World) (n : Nat) (hn : n ≤ 1048576) : (Instr.makeSlice 23 (.int .i64 n) (.int .i64 n)).run Try.prog w = .ok (.slice (some ⟨w.heap.size, 0, none⟩) n n) (w.alloc (.cells (madeCells #[.slice none 0 0] (n * 1)) 28)) := by
  obtain ⟨i0, hi, hz0, hz1, hz2⟩ := info_parts Try.infoRn
  have := run_make (P := Try.prog) w 23 28 i0 _ Try.underlying23 hi hz0 .i64 .i64 n n (by omega) (Int.le_refl _) (by rw [hz2]; omega) (by omega)
  rw [this, hz1]
  simp only [Int.toNat_natCast, Value.cells]
set_option maxRecDepth 20000 in
set_option maxHeartbeats 4000000 in
theorem toRns (a : Option Addr) (m cap : Nat) (R : Nat → Rn) (hm : m ≤ 1048576) (hn : ∀ k, k < m → (R k).n ≤ 1048576) (w : World) (h : Rns w a m cap R) :
    Calls Try.prog 13 #[.slice a m cap] w fun e w' => e = .returned (.slice (some ⟨w.heap.size, 0, none⟩) m m) ∧ ∃ G : Nat → Nat, FRow w' w.heap.size 28 m (rnTo R G m) ∧ (∀ k, k < m → FRow w' (G k) 34 ((R k).n * 4) (enF (R k).o) ∧ w.heap.size < G k) ∧ Below w.heap.size w w' := by
  have hmk := fun w => mkRn w m hm
  have HH := hid h
  have HN := hid hn
  clear h hn
  go_enter Try.func13, Try.ntmps13
  go_wp2_with fail
  obtain ⟨W0, hW0⟩ : ∃ W0, W0 = w.alloc (.cells (madeCells #[.slice none 0 0] (m * 1)) 28) := ⟨_, rfl⟩
  have F0 : Hid (FRow W0 w.heap.size 28 m (rnTo R (fun _ => 0) 0)) := by
    rw [hW0]
    refine FRow.of (RowAt.new _ _ _) (by simp [madeCells]) fun p hp => ?_
    simp [madeCells, hp, rnTo, Nat.mod_one]
  have B0 : Hid (Below w.heap.size w W0) := by rw [hW0]; exact (Below.refl _ _).alloc (Nat.le_refl _) _
  have s0 : Hid (w.heap.size < W0.heap.size) := F0.out.lt
  rw [Nat.mul_one] at hW0
  rw [← hW0]
  clear hW0 hmk
  go_loopw [4] (fun q wr => ∃ (k : Nat) (G : Nat → Nat), k ≤ m ∧ q = .int .i64 k ∧ FRow wr w.heap.size 28 m (rnTo R G k) ∧ (∀ i, i < k → FRow wr (G i) 34 ((R i).n * 4) (enF (R i).o) ∧ w.heap.size < G i) ∧ Below w.heap.size w wr) (fun q _ => m - (intOf q).toNat)
  case atStart => exact ⟨0, fun _ => 0, Nat.zero_le _, rfl, F0.out, fun i hi => absurd hi (by omega), B0.out⟩
  case round =>
    obtain ⟨k, G, hk, rfl, hF, hG, hB⟩ := hrel
    have HF := hid hF
    have HB := hid hB
    have HG := hid hG
    clear hF hB hG F0 B0 s0
    by_cases hlt : k < m
    · have hlt' : (k : Int) < (m : Int) := by omega
      have k0 : (0 : Int) ≤ (k : Int) := by omega
      rcases (HH.out.below HB.out).2.1 with h00 | ⟨b, off, rfl, hbl, hc⟩
      · omega
      have c0 := hc k hlt
      have K := hid (toRn (R k).ad (R k).n (R k).cap (R k).o (HN.out k hlt) wr ((HH.out.below HB.out).2.2 k hlt))
      obtain ⟨A, hA⟩ : ∃ v, v = (R k).ad := ⟨_, rfl⟩
      obtain ⟨N, hNN⟩ : ∃ v, v = (R k).n := ⟨_, rfl⟩
      obtain ⟨C, hC⟩ : ∃ v, v = (R k).cap := ⟨_, rfl⟩
      rw [← hA, ← hNN, ← hC] at K c0
      have HNN := hid hNN
      clear hc hA hNN hC
      go_wp2_with fail
      refine K.out.mono ?_
      rintro e w2 ⟨g, rfl, hF2, hg2, hb2⟩
      have F3 := hid (HF.out.below hb2 HF.out.lt)
      have B3 := hid (HB.out.trans (hb2.mono HB.out.size))
      have q0 := F3.out.cell (show k < m by omega)
      rw [show rnTo R G k k = .slice none 0 0 by unfold rnTo; rw [if_neg (by omega)]] at q0
      have f0 := F3.out.free k
      obtain ⟨W4, hW4⟩ : ∃ W, W = w2.setCell ⟨w.heap.size, k, none⟩ (.slice (some ⟨g, 0, none⟩) N N) := ⟨_, rfl⟩
      have gw : w.heap.size < g := Nat.lt_of_lt_of_le HF.out.lt hg2
      have F4 : Hid (FRow W4 w.heap.size 28 m (rnTo R (fun i => if i = k then g else G i) (k + 1))) := by
        rw [hW4]
        refine (F3.out.set k (.slice (some ⟨g, 0, none⟩) N N)).congr fun p hp => ?_
        unfold putF rnTo
        by_cases e : p = k
        · subst e; rw [if_pos rfl, if_pos (by omega), HNN.out]; simp
        · rw [if_neg e]
          by_cases h : p < k
          · rw [if_pos h, if_pos (by omega)]; simp [e]
          · rw [if_neg h, if_neg (by omega)]
      have G4 : Hid (∀ i, i < k + 1 → FRow W4 ((fun i => if i = k then g else G i) i) 34 ((R i).n * 4) (enF (R i).o) ∧ w.heap.size < (fun i => if i = k then g else G i) i) := fun i hi => by
        by_cases e : i = k
        · subst e
          simp only [if_true]
          rw [hW4, ← HNN.out]
          exact ⟨hF2.other _ _ (by simp; omega), gw⟩
        · simp only [if_neg e]
          obtain ⟨h1, h2⟩ := HG.out i (by omega)
          rw [hW4]
          exact ⟨(h1.below hb2 h1.lt).other _ _ (by simp; omega), h2⟩
      have B4 : Hid (Below w.heap.size w W4) := by rw [hW4]; exact B3.out.setCell (Nat.le_refl _) _
      have HW4 := hid hW4
      clear hW4 hF2 hg2 hb2 gw HG F3 B3 K
      go_wp2
      rw [← HW4.out]
      go_roundw
      case rel => exact ⟨k + 1, _, by omega, by go_num, F4.out, G4.out, B4.out⟩
      case measure => simp [intOf]; omega
    · have hlt' : ¬ (k : Int) < (m : Int) := by omega
      have hke : k = m := by omega
      subst hke
      go_wp2
      go_ret
      exact ⟨rfl, G, HF.out, HG.out, HB.out⟩
end Go.Proofs.Ytekdphfifdfmbaa
