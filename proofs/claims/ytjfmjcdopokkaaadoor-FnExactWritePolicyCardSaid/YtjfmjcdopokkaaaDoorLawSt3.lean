import Derived.Test.YtjfmjcdopokkaaaDoorLawSt2
namespace Go.Proofs.YtjfmjcdopokkaaaDoor
open Go.RowKit
set_option maxRecDepth 20000 in
set_option maxHeartbeats 4000000 in
theorem szSts (a : Option Addr) (m cap : Nat) (R : Nat → St) (L : Int) (h0 : 0 ≤ L) (h1 : L ≤ 1048576) (hm : m ≤ 9223372036854775807) (hs : ∀ k, k < m → StB (R k) 9223372036854775807) (w : World) (h : Sts w a m cap R) :
    Calls Tryd.prog 15 #[.slice a m cap, .int .i64 L] w fun e w' => (∃ z : Int, e = .returned (.int .i64 z) ∧ (z < 0 ∨ (m ≤ 1048576 ∧ ∀ k, k < m → StB (R k) 1048576))) ∧ Below w.heap.size w w' := by
  have HH := hid h
  have HS := hid hs
  clear h hs
  by_cases hb : L < m
  · have d0 : L - (m : Int) < 0 := by omega
    go_enter Tryd.func15, Tryd.ntmps15
    go_wp2
    go_ret
    exact ⟨⟨-1, rfl, .inl (by decide)⟩, Below.refl _ _⟩
  have d0 : ¬ L - (m : Int) < 0 := by omega
  go_enter Tryd.func15, Tryd.ntmps15
  go_wp2_with fail
  go_loopw [1, 5] (fun q r wr => ∃ (k : Nat) (z : Int), k ≤ m ∧ 0 ≤ z ∧ z ≤ 1048576 ∧ q = .int .i64 z ∧ r = .int .i64 (k : Int) ∧ (∀ i, i < k → StB (R i) 1048576) ∧ Below w.heap.size w wr) (fun _ r _ => m - (intOf r).toNat)
  case atStart => exact ⟨0, L - m, Nat.zero_le _, by omega, by omega, rfl, rfl, fun i hi => absurd hi (by omega), Below.refl _ _⟩
  case round =>
    obtain ⟨k, z, hk, hz0, hz1, rfl, rfl, hts, hB⟩ := hrel
    have HT := hid hts
    have HB := hid hB
    clear hts hB
    by_cases hlt : k < m
    · have hlt' : (k : Int) < (m : Int) := by omega
      have k0 : (0 : Int) ≤ (k : Int) := by omega
      rcases (HH.out.below HB.out).2.1 with q0 | ⟨b, off, rfl, hbl, hc⟩
      · omega
      obtain ⟨c0, c1, c2, c3, c4⟩ := hc k hlt
      have K := hid (szSt (R k) z hz0 hz1 (HS.out k hlt) wr ((HH.out.below HB.out).2.2 k hlt))
      generalize hRk : R k = S at c0 c1 c2 c3 c4 K
      have HR := hid hRk
      clear hRk hc
      obtain ⟨f, ⟨a1, n1, e1, t1⟩, ⟨a2, n2, e2, t2⟩, ⟨a3, n3, e3, t3⟩, ⟨a4, n4, e4, o4⟩⟩ := S
      dsimp only at c0 c1 c2 c3 c4 K
      go_wp2_with fail
      refine K.out.mono ?_
      rintro e w2 ⟨⟨y, rfl, hy1, hy2⟩, hb2⟩
      have B2 := hid (HB.out.trans (hb2.mono HB.out.size))
      clear hb2 HB c0 c1 c2 c3 c4 K
      by_cases hn : y < 0
      · clear hy2
        go_wp2
        go_ret
        exact ⟨⟨-1, rfl, .inl (by decide)⟩, B2.out⟩
      · have N1 : Hid (∀ i, i < k + 1 → StB (R i) 1048576) := fun i hi => by
          by_cases e : i = k
          · rw [e, HR.out]; exact hy2.resolve_left hn
          · exact HT.out i (by omega)
        clear hy2
        go_wp2
        go_roundw
        case rel => exact ⟨k + 1, y, hlt, by omega, hy1, rfl, by go_num, N1.out, B2.out⟩
        case measure => simp [intOf]; omega
    · have hlt' : ¬ (k : Int) < (m : Int) := by omega
      obtain rfl : k = m := by omega
      go_wp2
      go_ret
      exact ⟨⟨z, rfl, .inr ⟨by omega, HT.out⟩⟩, HB.out⟩
set_option maxRecDepth 20000 in
set_option maxHeartbeats 4000000 in
theorem eqSts (a : Option Addr) (m cap : Nat) (R : Nat → St) (a' : Option Addr) (cap' : Nat) (R' : Nat → St) (hm : m ≤ 1048576) (hR : ∀ k, k < m → StEq (R k) (R' k)) (hs : ∀ k, k < m → StB (R k) 1048576) (w : World) (h : Sts w a m cap R) (h' : Sts w a' m cap' R') :
    Calls Tryd.prog 19 #[.slice a m cap, .slice a' m cap'] w fun e w' => e = .returned (.bool true) ∧ Below w.heap.size w w' := by
  have HH := hid h
  have HH' := hid h'
  have HR := hid hR
  have HS := hid hs
  have dn : ((m : Int) != (m : Int)) = false := by simp
  clear h h' hR hs
  go_enter Tryd.func19, Tryd.ntmps19
  go_wp2_with fail
  go_loopw [5] (fun q wr => ∃ (k : Nat), k ≤ m ∧ q = .int .i64 k ∧ Below w.heap.size w wr) (fun q _ => m - (intOf q).toNat)
  case atStart => exact ⟨0, Nat.zero_le _, rfl, Below.refl _ _⟩
  case round =>
    obtain ⟨k, hk, rfl, hB⟩ := hrel
    have HB := hid hB
    clear hB
    by_cases hlt : k < m
    · have hlt' : (k : Int) < (m : Int) := by omega
      have k0 : (0 : Int) ≤ (k : Int) := by omega
      rcases (HH.out.below HB.out).2.1 with h00 | ⟨b, off, rfl, hbl, hc⟩
      · omega
      rcases (HH'.out.below HB.out).2.1 with h00 | ⟨b', off', rfl, hbl', hc'⟩
      · omega
      obtain ⟨c0, c1, c2, c3, c4⟩ := hc k hlt
      obtain ⟨x0, x1, x2, x3, x4⟩ := hc' k hlt
      have i1 := (HH.out.below HB.out).2.2 k hlt
      have i2 := (HH'.out.below HB.out).2.2 k hlt
      have K := fun wx (hb : Below wr.heap.size wr wx) => hid (eqSt (R k) (R' k) (HR.out k hlt) (HS.out k hlt) wx (i1.below hb) (i2.below hb))
      clear i1 i2 hc hc'
      generalize R k = S at c0 c1 c2 c3 c4 K
      generalize R' k = S' at x0 x1 x2 x3 x4 K
      obtain ⟨f, ⟨a1, n1, e1, t1⟩, ⟨a2, n2, e2, t2⟩, ⟨a3, n3, e3, t3⟩, ⟨a4, n4, e4, o4⟩⟩ := S
      obtain ⟨f', ⟨a1', n1', e1', t1'⟩, ⟨a2', n2', e2', t2'⟩, ⟨a3', n3', e3', t3'⟩, ⟨a4', n4', e4', o4'⟩⟩ := S'
      dsimp only at c0 c1 c2 c3 c4 x0 x1 x2 x3 x4 K
      go_wp2_with fail
      go_region_held3 (fun wx => (wx.cell? ⟨b, off + k * 5, none⟩ = some (.int .i64 f) ∧ wx.cell? ⟨b, off + k * 5 + 1, none⟩ = some (.slice a1 n1 e1) ∧ wx.cell? ⟨b, off + k * 5 + 2, none⟩ = some (.slice a2 n2 e2) ∧ wx.cell? ⟨b, off + k * 5 + 3, none⟩ = some (.slice a3 n3 e3) ∧ wx.cell? ⟨b, off + k * 5 + 4, none⟩ = some (.slice a4 n4 e4)) ∧ wx.cell? ⟨b', off' + k * 5, none⟩ = some (.int .i64 f') ∧ wx.cell? ⟨b', off' + k * 5 + 1, none⟩ = some (.slice a1' n1' e1') ∧ wx.cell? ⟨b', off' + k * 5 + 2, none⟩ = some (.slice a2' n2' e2') ∧ wx.cell? ⟨b', off' + k * 5 + 3, none⟩ = some (.slice a3' n3' e3') ∧ wx.cell? ⟨b', off' + k * 5 + 4, none⟩ = some (.slice a4' n4' e4'))
        (first | exact ⟨⟨c0, c1, c2, c3, c4⟩, x0, x1, x2, x3, x4⟩ | exact ⟨⟨(hb2.cell hbl).trans c0, (hb2.cell hbl).trans c1, (hb2.cell hbl).trans c2, (hb2.cell hbl).trans c3, (hb2.cell hbl).trans c4⟩, (hb2.cell hbl').trans x0, (hb2.cell hbl').trans x1, (hb2.cell hbl').trans x2, (hb2.cell hbl').trans x3, (hb2.cell hbl').trans x4⟩)
        ((go_at_call 41; refine (K _ (Below.refl _ wr).drew).out.mono ?_; rintro e w2 ⟨rfl, hb2⟩))
      have N2 : Hid (Below w.heap.size w w2) := HB.out.drew.trans (hb2.mono HB.out.size)
      clear hb2 c0 c1 c2 c3 c4 x0 x1 x2 x3 x4 HB K
      go_wp2
      go_roundw
      case rel => exact ⟨k + 1, by omega, by go_num, N2.out⟩
      case measure => simp [intOf]; omega
    · have hlt' : ¬ (k : Int) < (m : Int) := by omega
      go_wp2
      go_ret
      exact ⟨rfl, HB.out⟩
def st0 : St := ⟨0, ⟨none, 0, 0, fun _ => ⟨#[]⟩⟩, ⟨none, 0, 0, fun _ => ⟨#[]⟩⟩, ⟨none, 0, 0, fun _ => ⟨#[]⟩⟩, ⟨none, 0, 0, fun _ => cn0⟩⟩
/-- the first k that were made, then zero ones -/
def stTo (R : Nat → St) (k i : Nat) : St := if i < k then R i else st0
/-- one more -/
def stPut (R : Nat → St) (k : Nat) (s : St) (i : Nat) : St := if i = k then s else R i
theorem stTo_put (R : Nat → St) (k : Nat) (s : St) (p : Nat) : putF (putF (putF (putF (putF (stF (stTo R k)) (k * 5) (.int .i64 s.ef)) (k * 5 + 1) (.slice s.wo.ad s.wo.n s.wo.cap)) (k * 5 + 2) (.slice s.wa.ad s.wa.n s.wa.cap)) (k * 5 + 3) (.slice s.wi.ad s.wi.n s.wi.cap)) (k * 5 + 4) (.slice s.cs.ad s.cs.n s.cs.cap) p = stF (stTo (stPut R k s) (k + 1)) p := by
  unfold putF
  by_cases h4 : p = k * 5 + 4
  · subst h4; rw [if_pos rfl, stF4]; unfold stTo stPut; simp
  rw [if_neg h4]
  by_cases h3 : p = k * 5 + 3
  · subst h3; rw [if_pos rfl, stF3]; unfold stTo stPut; simp
  rw [if_neg h3]
  by_cases h2 : p = k * 5 + 2
  · subst h2; rw [if_pos rfl, stF2]; unfold stTo stPut; simp
  rw [if_neg h2]
  by_cases h1 : p = k * 5 + 1
  · subst h1; rw [if_pos rfl, stF1]; unfold stTo stPut; simp
  rw [if_neg h1]
  by_cases h0 : p = k * 5
  · subst h0; rw [if_pos rfl, stF0]; unfold stTo stPut; simp
  rw [if_neg h0]
  have hk : stTo (stPut R k s) (k + 1) (p / 5) = stTo R k (p / 5) := by
    unfold stTo stPut
    by_cases h : p / 5 < k
    · rw [if_pos h, if_pos (by omega), if_neg (by omega)]
    · rw [if_neg h, if_neg (by omega)]
  unfold stF
  rw [hk]
theorem Tryd.infoSt : (Tryd.prog.info? 33).map (fun i => (i.zero, i.size, i.bytes)) = some (some (.agg #[.int .i64 0, .slice none 0 0, .slice none 0 0, .slice none 0 0, .slice none 0 0]), 5, 104) := by kernel_rfl
theorem mkSt (w : World) (n : Nat) (hn : n ≤ 1048576) : (Instr.makeSlice 23 (.int .i64 n) (.int .i64 n)).run Tryd.prog w = .ok (.slice (some ⟨w.heap.size, 0, none⟩) n n) (w.alloc (.cells (madeCells #[.int .i64 0, .slice none 0 0, .slice none 0 0, .slice none 0 0, .slice none 0 0] (n * 5)) 33)) := by
  obtain ⟨i0, hi, hz0, hz1, hz2⟩ := info_parts Tryd.infoSt
  have := run_make (P := Tryd.prog) w 23 33 i0 _ Tryd.underlying23 hi hz0 .i64 .i64 n n (by omega) (Int.le_refl _) (by rw [hz2]; omega) (by omega)
  rw [this, hz1]
  simp only [Int.toNat_natCast, Value.cells]
set_option maxRecDepth 20000 in
set_option maxHeartbeats 4000000 in
theorem toSts (a : Option Addr) (m cap : Nat) (R : Nat → St) (hm : m ≤ 1048576) (hs : ∀ k, k < m → StB (R k) 1048576) (w : World) (h : Sts w a m cap R) :
    Calls Tryd.prog 17 #[.slice a m cap] w fun e w' => e = .returned (.slice (some ⟨w.heap.size, 0, none⟩) m m) ∧ (∃ R' : Nat → St, Sts w' (some ⟨w.heap.size, 0, none⟩) m m R' ∧ ∀ k, k < m → StEq (R k) (R' k)) ∧ Below w.heap.size w w' := by
  have hmk := fun w => mkSt w m hm
  have HH := hid h
  have HS := hid hs
  clear h hs
  go_enter Tryd.func17, Tryd.ntmps17
  go_wp2_with fail
  obtain ⟨W0, hW0⟩ : ∃ W0, W0 = w.alloc (.cells (madeCells #[.int .i64 0, .slice none 0 0, .slice none 0 0, .slice none 0 0, .slice none 0 0] (m * 5)) 33) := ⟨_, rfl⟩
  have F0 : Hid (FRow W0 w.heap.size 33 (m * 5) (stF (stTo R 0))) := by
    rw [hW0]
    refine FRow.of (RowAt.new _ _ _) (by simp [madeCells]) fun p hp => ?_
    have h2 : p % 5 < 5 := Nat.mod_lt _ (by decide)
    have h3 : stTo R 0 (p / 5) = st0 := by unfold stTo; rw [if_neg (by omega)]
    simp [madeCells, hp, stF, h3, st0]
    rcases (show p % 5 = 0 ∨ p % 5 = 1 ∨ p % 5 = 2 ∨ p % 5 = 3 ∨ p % 5 = 4 by omega) with e | e | e | e | e <;> rw [e] <;> rfl
  have B0 : Hid (Below w.heap.size w W0) := by rw [hW0]; exact (Below.refl _ _).alloc (Nat.le_refl _) _
  rw [← hW0]
  clear hW0 hmk
  go_loopw [4] (fun q wr => ∃ (k : Nat) (R' : Nat → St), k ≤ m ∧ q = .int .i64 k ∧ FRow wr w.heap.size 33 (m * 5) (stF (stTo R' k)) ∧ (∀ i, i < k → StEq (R i) (R' i) ∧ Made wr (w.heap.size + 1) (R' i)) ∧ Below w.heap.size w wr) (fun q _ => m - (intOf q).toNat)
  case atStart => exact ⟨0, R, Nat.zero_le _, rfl, F0.out, fun i hi => absurd hi (by omega), B0.out⟩
  case round =>
    obtain ⟨k, R', hk, rfl, hF, hG, hB⟩ := hrel
    have HF := hid hF
    have HB := hid hB
    have HG := hid hG
    clear hF hB hG F0 B0
    by_cases hlt : k < m
    · have hlt' : (k : Int) < (m : Int) := by omega
      have k0 : (0 : Int) ≤ (k : Int) := by omega
      rcases (HH.out.below HB.out).2.1 with h00 | ⟨b, off, rfl, hbl, hc⟩
      · omega
      obtain ⟨c0, c1, c2, c3, c4⟩ := hc k hlt
      have K := hid (toSt (R k) (HS.out k hlt) wr ((HH.out.below HB.out).2.2 k hlt))
      generalize hRk : R k = S at c0 c1 c2 c3 c4 K
      have HRk := hid hRk
      clear hRk hc
      obtain ⟨f', ⟨a1', n1', e1', t1'⟩, ⟨a2', n2', e2', t2'⟩, ⟨a3', n3', e3', t3'⟩, ⟨a4', n4', e4', o4'⟩⟩ := S
      dsimp only at c0 c1 c2 c3 c4 K
      go_wp2_with fail
      refine K.out.mono ?_
      rintro e w2 ⟨⟨s2, rfl, hE, hM⟩, hb2⟩
      have F2 := hid (HF.out.below hb2 HF.out.lt)
      have B2 := hid (HB.out.trans (hb2.mono HB.out.size))
      have M2 : Hid (Made w2 (w.heap.size + 1) s2) := hM.mono (by have := HF.out.lt; omega)
      have G2 : Hid (∀ i, i < k → StEq (R i) (R' i) ∧ Made w2 (w.heap.size + 1) (R' i)) := fun i hi => ⟨(HG.out i hi).1, (HG.out i hi).2.below hb2⟩
      have E2 : Hid (StEq (R k) s2) := by show StEq _ _; rw [HRk.out]; exact hE
      have HP := hid (stTo_put R' k s2)
      clear hb2 HF HB HG hE hM K c0 c1 c2 c3 c4
      generalize hs2 : s2 = S2 at HP M2 E2
      clear hs2
      obtain ⟨f, ⟨a1, n1, e1, t1⟩, ⟨a2, n2, e2, t2⟩, ⟨a3, n3, e3, t3⟩, ⟨a4, n4, e4, o4⟩⟩ := S2
      dsimp only at HP ⊢
      have q0 := (F2.out).cell (show k * 5 < m * 5 by omega)
      rw [stF0] at q0
      have q1 := (F2.out).cell (show k * 5 + 1 < m * 5 by omega)
      rw [stF1] at q1
      have q2 := (F2.out).cell (show k * 5 + 2 < m * 5 by omega)
      rw [stF2] at q2
      have q3 := (F2.out).cell (show k * 5 + 3 < m * 5 by omega)
      rw [stF3] at q3
      have q4 := (F2.out).cell (show k * 5 + 4 < m * 5 by omega)
      rw [stF4] at q4
      have f0 := F2.out.free (k * 5)
      have G1 : FRow (w2.setCell ⟨w.heap.size, k * 5, none⟩ (.int .i64 f)) w.heap.size 33 (m * 5) (putF (stF (stTo R' k)) (k * 5) (.int .i64 f)) := F2.out.set (k * 5) _
      have f1 := G1.free (k * 5 + 1)
      have G3 : FRow ((w2.setCell ⟨w.heap.size, k * 5, none⟩ (.int .i64 f)).setCell ⟨w.heap.size, k * 5 + 1, none⟩ (.slice a1 n1 e1)) w.heap.size 33 (m * 5) (putF (putF (stF (stTo R' k)) (k * 5) (.int .i64 f)) (k * 5 + 1) (.slice a1 n1 e1)) := G1.set (k * 5 + 1) _
      have f2 := G3.free (k * 5 + 2)
      have G4 : FRow (((w2.setCell ⟨w.heap.size, k * 5, none⟩ (.int .i64 f)).setCell ⟨w.heap.size, k * 5 + 1, none⟩ (.slice a1 n1 e1)).setCell ⟨w.heap.size, k * 5 + 2, none⟩ (.slice a2 n2 e2)) w.heap.size 33 (m * 5) (putF (putF (putF (stF (stTo R' k)) (k * 5) (.int .i64 f)) (k * 5 + 1) (.slice a1 n1 e1)) (k * 5 + 2) (.slice a2 n2 e2)) := G3.set (k * 5 + 2) _
      have f3 := G4.free (k * 5 + 3)
      have G5 : FRow ((((w2.setCell ⟨w.heap.size, k * 5, none⟩ (.int .i64 f)).setCell ⟨w.heap.size, k * 5 + 1, none⟩ (.slice a1 n1 e1)).setCell ⟨w.heap.size, k * 5 + 2, none⟩ (.slice a2 n2 e2)).setCell ⟨w.heap.size, k * 5 + 3, none⟩ (.slice a3 n3 e3)) w.heap.size 33 (m * 5) (putF (putF (putF (putF (stF (stTo R' k)) (k * 5) (.int .i64 f)) (k * 5 + 1) (.slice a1 n1 e1)) (k * 5 + 2) (.slice a2 n2 e2)) (k * 5 + 3) (.slice a3 n3 e3)) := G4.set (k * 5 + 3) _
      have f4 := G5.free (k * 5 + 4)
      have G6 : FRow (((((w2.setCell ⟨w.heap.size, k * 5, none⟩ (.int .i64 f)).setCell ⟨w.heap.size, k * 5 + 1, none⟩ (.slice a1 n1 e1)).setCell ⟨w.heap.size, k * 5 + 2, none⟩ (.slice a2 n2 e2)).setCell ⟨w.heap.size, k * 5 + 3, none⟩ (.slice a3 n3 e3)).setCell ⟨w.heap.size, k * 5 + 4, none⟩ (.slice a4 n4 e4)) w.heap.size 33 (m * 5) (putF (putF (putF (putF (putF (stF (stTo R' k)) (k * 5) (.int .i64 f)) (k * 5 + 1) (.slice a1 n1 e1)) (k * 5 + 2) (.slice a2 n2 e2)) (k * 5 + 3) (.slice a3 n3 e3)) (k * 5 + 4) (.slice a4 n4 e4)) := G5.set (k * 5 + 4) _
      have F4 : Hid (FRow (((((w2.setCell ⟨w.heap.size, k * 5, none⟩ (.int .i64 f)).setCell ⟨w.heap.size, k * 5 + 1, none⟩ (.slice a1 n1 e1)).setCell ⟨w.heap.size, k * 5 + 2, none⟩ (.slice a2 n2 e2)).setCell ⟨w.heap.size, k * 5 + 3, none⟩ (.slice a3 n3 e3)).setCell ⟨w.heap.size, k * 5 + 4, none⟩ (.slice a4 n4 e4)) w.heap.size 33 (m * 5) (stF (stTo (stPut R' k ⟨f, ⟨a1, n1, e1, t1⟩, ⟨a2, n2, e2, t2⟩, ⟨a3, n3, e3, t3⟩, ⟨a4, n4, e4, o4⟩⟩) (k + 1)))) := G6.congr fun p _ => HP.out p
      have B4 : Hid (Below w.heap.size w (((((w2.setCell ⟨w.heap.size, k * 5, none⟩ (.int .i64 f)).setCell ⟨w.heap.size, k * 5 + 1, none⟩ (.slice a1 n1 e1)).setCell ⟨w.heap.size, k * 5 + 2, none⟩ (.slice a2 n2 e2)).setCell ⟨w.heap.size, k * 5 + 3, none⟩ (.slice a3 n3 e3)).setCell ⟨w.heap.size, k * 5 + 4, none⟩ (.slice a4 n4 e4))) := (((((B2.out.setCell (Nat.le_refl _) _).setCell (Nat.le_refl _) _).setCell (Nat.le_refl _) _).setCell (Nat.le_refl _) _).setCell (Nat.le_refl _) _)
      have M4 : Hid (∀ i, i < k + 1 → StEq (R i) (stPut R' k ⟨f, ⟨a1, n1, e1, t1⟩, ⟨a2, n2, e2, t2⟩, ⟨a3, n3, e3, t3⟩, ⟨a4, n4, e4, o4⟩⟩ i) ∧ Made (((((w2.setCell ⟨w.heap.size, k * 5, none⟩ (.int .i64 f)).setCell ⟨w.heap.size, k * 5 + 1, none⟩ (.slice a1 n1 e1)).setCell ⟨w.heap.size, k * 5 + 2, none⟩ (.slice a2 n2 e2)).setCell ⟨w.heap.size, k * 5 + 3, none⟩ (.slice a3 n3 e3)).setCell ⟨w.heap.size, k * 5 + 4, none⟩ (.slice a4 n4 e4)) (w.heap.size + 1) (stPut R' k ⟨f, ⟨a1, n1, e1, t1⟩, ⟨a2, n2, e2, t2⟩, ⟨a3, n3, e3, t3⟩, ⟨a4, n4, e4, o4⟩⟩ i)) := fun i hi => by
        by_cases e : i = k
        · subst e
          have es : stPut R' i ⟨f, ⟨a1, n1, e1, t1⟩, ⟨a2, n2, e2, t2⟩, ⟨a3, n3, e3, t3⟩, ⟨a4, n4, e4, o4⟩⟩ i = ⟨f, ⟨a1, n1, e1, t1⟩, ⟨a2, n2, e2, t2⟩, ⟨a3, n3, e3, t3⟩, ⟨a4, n4, e4, o4⟩⟩ := by unfold stPut; rw [if_pos rfl]
          rw [es]
          exact ⟨E2.out, ((((M2.out.other _ (by omega)).other _ (by omega)).other _ (by omega)).other _ (by omega)).other _ (by omega)⟩
        · have es : stPut R' k ⟨f, ⟨a1, n1, e1, t1⟩, ⟨a2, n2, e2, t2⟩, ⟨a3, n3, e3, t3⟩, ⟨a4, n4, e4, o4⟩⟩ i = R' i := by unfold stPut; rw [if_neg e]
          rw [es]
          exact ⟨(G2.out i (by omega)).1, (((((G2.out i (by omega)).2.other _ (by omega)).other _ (by omega)).other _ (by omega)).other _ (by omega)).other _ (by omega)⟩
      clear G1 G3 G4 G5 G6 HP F2 B2 M2 G2 E2
      go_wp2
      go_roundw
      case rel => exact ⟨k + 1, _, by omega, by go_num, F4.out, M4.out, B4.out⟩
      case measure => simp [intOf]; omega
    · have hlt' : ¬ (k : Int) < (m : Int) := by omega
      have hke : k = m := by omega
      go_wp2
      go_ret
      refine ⟨rfl, ⟨R', ⟨Nat.le_refl _, ?_, fun i hi => (HG.out i (by omega)).2.in⟩, fun i hi => (HG.out i (by omega)).1⟩, HB.out⟩
      refine .inr ⟨w.heap.size, 0, rfl, HF.out.lt, fun i hi => StCell.of_row (HF.out.congr fun p hp => ?_) hi⟩
      unfold stF
      rw [show stTo R' k (p / 5) = R' (p / 5) by unfold stTo; rw [if_pos (by omega)]]
end Go.Proofs.YtjfmjcdopokkaaaDoor
