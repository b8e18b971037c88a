import Derived.Test.YtfkkkplmnanifaaOpenBk
import Derived.Test.YtfkkkplmnanifaaSBk2
import Derived.Test.YtfkkkplmnanifaaIBk2
namespace Go.Proofs.Ytfkkkplmnanifaa
open Go.RowKit
/-- what one of a row counts -/
theorem szLr_at (o : Nat → Lr) {k n : Nat} (h : k < n) : (o k).px.size ≤ szLr o n := by
  have := szLr_mono o (show k + 1 ≤ n by omega)
  have e : szLr o (k + 1) = szLr o k + (o k).px.size := rfl
  omega
theorem szVe_at (o : Nat → Ve) {k n : Nat} (h : k < n) : (o k).ky.size + (o k).dt.size ≤ szVe o n := by
  have := szVe_mono o (show k + 1 ≤ n by omega)
  have e : szVe o (k + 1) = szVe o k + (o k).ky.size + (o k).dt.size := rfl
  omega
set_option maxRecDepth 20000 in
set_option maxHeartbeats 4000000 in
theorem fnExactBucketFault_walk {w : World} (s : Int) (kp : Bool) (f : Int) (a0 : Option Addr) (n0 c0 : Nat) (o0 : Nat → Lr) (h0 : IsLrs w a0 n0 c0 o0) (a : Option Addr) (m cap : Nat) (o : Nat → Ve) (h : IsVes w a m cap o) :
    Calls Try.prog 3 #[.agg #[.int .i64 s, .bool kp, .int .i64 f, .slice a0 n0 c0, .slice a m cap]] w fun e w' => e = .returned (.bool true) ∧ Below w.heap.size w w' := by
  obtain ⟨hE, hcap0, hsz0⟩ := h0
  obtain ⟨hN, hcap, hsz⟩ := h
  have hn : n0 ≤ 9223372036854775807 := by have := hE.1; unfold maxLen at hcap0; omega
  have hm : m ≤ 9223372036854775807 := by have := hN.1; unfold maxLen at hcap; omega
  have hs : ∀ k, k < n0 → (o0 k).px.size ≤ 9223372036854775807 := fun k hk => by have := hsz0 k hk; unfold maxLen at this; omega
  have hRI : ∀ k, k < m → (o k).ky.size ≤ 9223372036854775807 ∧ (o k).dt.size ≤ 9223372036854775807 := fun k hk => by have := hsz k hk; unfold maxLen at this; omega
  obtain ⟨W1, hW1⟩ : ∃ W, W = w.alloc (.cells #[.int .i64 s, .bool kp, .int .i64 f, .slice a0 n0 c0, .slice a m cap] 25) := ⟨_, rfl⟩
  have R1 : Hid (RowAt W1 w.heap.size 25 #[.int .i64 s, .bool kp, .int .i64 f, .slice a0 n0 c0, .slice a m cap]) := by rw [hW1]; exact RowAt.new _ _ _
  have B1 : Hid (Below w.heap.size w W1) := by rw [hW1]; exact balLr (Below.refl _ _) _
  have HE := hid hE
  have HN := hid hN
  have K0 := hid (szBk s kp f a0 n0 c0 o0 a m cap o 1048576 (Nat.le_refl _) hn hs hm hRI W1 (hE.below B1.out) (hN.below B1.out))
  have r0 := R1.out.cell 0
  have r1 := R1.out.cell 1
  have r2 := R1.out.cell 2
  have r3 := R1.out.cell 3
  have r4 := R1.out.cell 4
  have HW1 := hid hW1
  clear hE hN hcap0 hsz0 hcap hsz hn hm hs hRI hW1
  by_cases hf : n0 + szLr o0 n0 + m + szVe o m ≤ 1048576
  · rw [if_pos hf] at K0
    obtain ⟨l, hl⟩ : ∃ l : Nat, l = 1048576 - n0 - szLr o0 n0 - m - szVe o m := ⟨_, rfl⟩
    rw [← hl] at K0
    have d0 : ¬ (l : Int) < 0 := by omega
    have hn1 : n0 ≤ 1048576 := by omega
    have hm1 : m ≤ 1048576 := by omega
    have hs1 : ∀ k, k < n0 → (o0 k).px.size ≤ 1048576 := fun k hk => by have := szLr_at o0 hk; omega
    have hs2 : ∀ k, k < m → (o k).ky.size ≤ 1048576 ∧ (o k).dt.size ≤ 1048576 := fun k hk => by have := szVe_at o hk; omega
    have hby : byN o m ≤ 1073741824 := by have := byN_sz o m; omega
    have HS1 := hid hs1
    have HS2 := hid hs2
    have HBY := hid hby
    clear hs1 hs2 hby
    clear hl
    obtain ⟨F, hF⟩ : ∃ F, F = bkV s f n0 o0 m o := ⟨_, rfl⟩
    have HFF := hid hF
    have dF : (F != F) = false := by simp
    clear hF hf
    go_enter Try.func3, Try.ntmps3
    go_upto_region 1 with fail
    rw [← HW1.out]
    go_wp2_with fail
    refine K0.out.mono ?_
    rintro e w2 ⟨rfl, hb2⟩
    have R2 := hid (RowAt.nxB hb2 R1.out)
    have B2 := hid (B1.out.trans (hb2.mono B1.out.size))
    have K1 := hid (toBk s kp f a0 n0 c0 o0 a m cap o hn1 hm1 w2 (HE.out.below B2.out) (HN.out.below B2.out))
    clear hb2 K0 r0 r1 r2 r3 r4 R1 B1
    have r0 := R2.out.cell 0
    have r1 := R2.out.cell 1
    have r2 := R2.out.cell 2
    have r3 := R2.out.cell 3
    have r4 := R2.out.cell 4
    go_wp2_with fail
    refine K1.out.mono ?_
    rintro e w3 ⟨g3, gr3, rfl, hM3, hb3⟩
    have R3 := hid (RowAt.nxB hb3 R2.out)
    have B3 := hid (B2.out.trans (hb3.mono B2.out.size))
    have K2 := hid (sBkF s kp f (some ⟨g3, 0, none⟩) n0 n0 o0 (some ⟨gr3, 0, none⟩) m m o hn1 HS1.out hm1 HS2.out HBY.out w3 hM3.lrs hM3.ves)
    rw [← HFF.out] at K2
    clear hb3 K1 r0 r1 r2 r3 r4 R2 B2 hM3
    go_wp2_with fail
    refine K2.out.mono ?_
    rintro e w4 ⟨rfl, hb4⟩
    have R4 := hid (RowAt.nxB hb4 R3.out)
    have B4 := hid (B3.out.trans (hb4.mono B3.out.size))
    have r0 := R4.out.cell 0
    have r1 := R4.out.cell 1
    have r2 := R4.out.cell 2
    have r3 := R4.out.cell 3
    have r4 := R4.out.cell 4
    have K3 := hid (toBk s kp f a0 n0 c0 o0 a m cap o hn1 hm1 w4 (HE.out.below B4.out) (HN.out.below B4.out))
    clear hb4 K2 R3 B3
    go_wp2_with fail
    refine K3.out.mono ?_
    rintro e w5 ⟨g5, gr5, rfl, hM5, hb5⟩
    have R5 := hid (RowAt.nxB hb5 R4.out)
    have B5 := hid (B4.out.trans (hb5.mono B4.out.size))
    clear hb5 K3 r0 r1 r2 r3 r4 R4 B4
    obtain ⟨W6, hW6⟩ : ∃ W, W = w5.alloc (.cells #[.int .i64 s, .bool kp, .int .i64 f, .slice (some ⟨g5, 0, none⟩) n0 n0, .slice (some ⟨gr5, 0, none⟩) m m] 31) := ⟨_, rfl⟩
    have X6 : Hid (RowAt W6 w5.heap.size 31 #[.int .i64 s, .bool kp, .int .i64 f, .slice (some ⟨g5, 0, none⟩) n0 n0, .slice (some ⟨gr5, 0, none⟩) m m]) := by rw [hW6]; exact RowAt.new _ _ _
    have b56 : Below w5.heap.size w5 W6 := by rw [hW6]; exact (Below.refl _ _).alloc (Nat.le_refl _) _
    have R6 := hid (RowAt.nxB b56 R5.out)
    have B6 := hid (B5.out.trans (b56.mono B5.out.size))
    have M6 := hid (hM5.below b56)
    have HW6 := hid hW6
    clear hW6 b56 R5 B5 hM5
    go_upto_region 7 with ((refine wpList_store_row rfl 31 (.tmp 5) (.tmp 16) rfl w5.heap.size #[.int .i64 s, .bool kp, .int .i64 f, .slice (some ⟨g5, 0, none⟩) n0 n0, .slice (some ⟨gr5, 0, none⟩) m m] rfl rfl _ _ (RowAt.new w5 _ _) (by kernel_rfl) rfl (oneBk _ _ _ _ _ _ _ _ _) ?_); rw [World.setRow_alloc_new])
    rw [← HW6.out]
    have y0 := X6.out.cell 0
    have y1 := X6.out.cell 1
    have y2 := X6.out.cell 2
    have y3 := X6.out.cell 3
    have y4 := X6.out.cell 4
    have K4 := hid (iBkF s kp f (some ⟨g5, 0, none⟩) n0 n0 o0 (some ⟨gr5, 0, none⟩) m m o hn1 HS1.out hm1 HS2.out HBY.out W6 M6.out.lrs M6.out.ves)
    rw [← HFF.out] at K4
    clear HW6
    go_wp2_with fail
    refine K4.out.mono ?_
    rintro e w7 ⟨rfl, hb7⟩
    have hJ := RowAt.nxB hb7 R6.out
    have hX := RowAt.nxB hb7 X6.out
    have hW := hid (B6.out.trans (hb7.mono B6.out.size))
    have M7 := hid (M6.out.below hb7)
    clear hb7 K4 y0 y1 y2 y3 y4 R6 X6 B6 M6
    have KT := fun wx (hb : Below w.heap.size w wx) => hid (toBk s kp f a0 n0 c0 o0 a m cap o hn1 hm1 wx (HE.out.below hb) (HN.out.below hb))
    have KQ := fun wx g gr (hb : Below w7.heap.size w7 wx) (hM : MkB wx n0 o0 m o g gr) => hid (eqBk s kp f (some ⟨g5, 0, none⟩) n0 n0 o0 (some ⟨gr5, 0, none⟩) m m o (some ⟨g, 0, none⟩) n0 (some ⟨gr, 0, none⟩) m hn1 hm1 wx (M7.out.below hb).lrs (M7.out.below hb).ves hM.lrs hM.ves)
    go_wp2_with fail
    go_region_held3 (fun wx => (wx.cell? ⟨w.heap.size, 0, none⟩ = some (.int .i64 s) ∧ wx.cell? ⟨w.heap.size, 1, none⟩ = some (.bool kp) ∧ wx.cell? ⟨w.heap.size, 2, none⟩ = some (.int .i64 f) ∧ wx.cell? ⟨w.heap.size, 3, none⟩ = some (.slice a0 n0 c0) ∧ wx.cell? ⟨w.heap.size, 4, none⟩ = some (.slice a m cap)) ∧ wx.cell? ⟨w5.heap.size, 0, none⟩ = some (.int .i64 s) ∧ wx.cell? ⟨w5.heap.size, 1, none⟩ = some (.bool kp) ∧ wx.cell? ⟨w5.heap.size, 2, none⟩ = some (.int .i64 f) ∧ wx.cell? ⟨w5.heap.size, 3, none⟩ = some (.slice (some ⟨g5, 0, none⟩) n0 n0) ∧ wx.cell? ⟨w5.heap.size, 4, none⟩ = some (.slice (some ⟨gr5, 0, none⟩) m m))
      ((first | exact ⟨⟨hJ.cell 0, hJ.cell 1, hJ.cell 2, hJ.cell 3, hJ.cell 4⟩, hX.cell 0, hX.cell 1, hX.cell 2, hX.cell 3, hX.cell 4⟩))
      ((first
        | (go_at_call 6; refine (KT _ hW.out.drew).out.mono ?_; rintro e w8 ⟨g8, gr8, rfl, hM8, hb8⟩; replace hJ := RowAt.nxB hb8 hJ; replace hX := RowAt.nxB hb8 hX)
        | (go_at_call 8; refine (KQ _ _ _ ((Below.refl _ w7).drew.trans hb8) hM8).out.mono ?_; rintro e w9 ⟨rfl, hb9⟩; replace hJ := RowAt.nxB hb9 hJ; replace hX := RowAt.nxB hb9 hX)))
    all_goals go_wp2
    all_goals go_ret
    all_goals exact ⟨rfl, (hW.out.drew.trans (hb8.mono hW.out.size)).trans (hb9.mono (Nat.le_trans hW.out.size hb8.size))⟩
  · rw [if_neg hf] at K0
    have d0 : (-1 : Int) < 0 := by omega
    go_enter Try.func3, Try.ntmps3
    go_upto_region 1 with fail
    rw [← HW1.out]
    go_wp2_with fail
    refine K0.out.mono ?_
    rintro e w2 ⟨rfl, hb2⟩
    have B2 := hid (B1.out.trans (hb2.mono B1.out.size))
    clear hb2 hf
    go_wp2
    go_ret
    exact ⟨rfl, B2.out⟩
end Go.Proofs.Ytfkkkplmnanifaa
