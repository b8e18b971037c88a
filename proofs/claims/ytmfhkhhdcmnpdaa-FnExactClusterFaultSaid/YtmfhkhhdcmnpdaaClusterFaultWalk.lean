import Derived.Test.YtmfhkhhdcmnpdaaClF2
import Derived.Deep.RegionLaw
namespace Go.Proofs.Ytmfhkhhdcmnpdaa
open Go.RowKit
set_option linter.unusedVariables false
/-! FnExactClusterFault; a ClusterConfig as a row hands it in. -/
set_option maxRecDepth 20000 in
set_option maxHeartbeats 4000000 in
theorem fnExactClusterFault_walk {w : World} (a : Option Addr) (n cap : Nat) (x y : Nat → Int) (hp : IsPairs w a n cap x y) (k m g u : Int) :
    Calls Try.prog 6 #[.agg #[.slice a n cap, .int .i64 k, .int .i64 m, .int .i64 g, .int .i64 u]] w fun e w' => e = .returned (.bool true) ∧ Below w.heap.size w w' := by
  have hn := hp.len
  have HH := hid (Prs.of_is hp)
  clear hp
  obtain ⟨X, hX⟩ : ∃ X, X = w.heap.size := ⟨_, rfl⟩
  obtain ⟨W1, hW1⟩ : ∃ W, W = w.alloc (.cells #[.slice a n cap, .int .i64 k, .int .i64 m, .int .i64 g, .int .i64 u] 60) := ⟨_, rfl⟩
  have A1 : Hid (RowAt W1 X 60 #[.slice a n cap, .int .i64 k, .int .i64 m, .int .i64 g, .int .i64 u]) := by rw [hW1, hX]; exact RowAt.new _ _ _
  have B1 : Hid (Below w.heap.size w W1) := by rw [hW1]; exact (Below.refl _ _).alloc (Nat.le_refl _) _
  have K0 := hid (szCc a n cap k m g u hn W1)
  unfold ccv at K0
  have a0 := A1.out.cell 0
  have a1 := A1.out.cell 1
  have a2 := A1.out.cell 2
  have a3 := A1.out.cell 3
  have a4 := A1.out.cell 4
  have HX := hid hX
  have HW1 := hid hW1
  clear hX hW1
  by_cases hl : n ≤ 1048576
  · have d0 : ¬ (1048576 : Int) - (n : Int) < 0 := by omega
    simp only [if_pos hl] at K0
    obtain ⟨F, hF⟩ : ∃ F, F = clF n x y k m g u := ⟨_, rfl⟩
    have HF := hid hF
    have dF : (F != F) = false := by simp
    clear hF
    go_enter Try.func6, Try.ntmps6
    go_upto_region 1 with fail
    rw [← HW1.out, ← HX.out]
    clear HW1
    go_wp2_with fail
    refine K0.out.mono ?_
    rintro e w2 ⟨rfl, hb2⟩
    have A2 := hid (A1.out.below hb2 A1.out.lt)
    have B2 := hid (B1.out.trans (hb2.mono B1.out.size))
    clear hb2 K0 A1 B1 a0 a1 a2 a3 a4
    have a0 := A2.out.cell 0
    have a1 := A2.out.cell 1
    have a2 := A2.out.cell 2
    have a3 := A2.out.cell 3
    have a4 := A2.out.cell 4
    have K2 := hid (toCc a n cap x y k m g u hl w2 (HH.out.below B2.out))
    unfold ccv at K2
    go_wp2_with fail
    refine K2.out.mono ?_
    rintro e w3 ⟨b3, rfl, hF3, hb30, hb3⟩
    have A3 := hid (A2.out.below hb3 A2.out.lt)
    have B3 := hid (B2.out.trans (hb3.mono B2.out.size))
    have K3 := hid (sClF (some ⟨b3, 0, none⟩) n n x y k m g u hl w3 hF3.prs)
    unfold ccv at K3
    rw [← HF.out] at K3
    clear hF3 hb30 hb3 K2 A2 B2 a0 a1 a2 a3 a4
    go_wp2_with fail
    refine K3.out.mono ?_
    rintro e w4 ⟨rfl, hb4⟩
    have A4 := hid (A3.out.below hb4 A3.out.lt)
    have B4 := hid (B3.out.trans (hb4.mono B3.out.size))
    clear hb4 K3 A3 B3
    have a0 := A4.out.cell 0
    have a1 := A4.out.cell 1
    have a2 := A4.out.cell 2
    have a3 := A4.out.cell 3
    have a4 := A4.out.cell 4
    have K4 := hid (toCc a n cap x y k m g u hl w4 (HH.out.below B4.out))
    unfold ccv at K4
    go_wp2_with fail
    refine K4.out.mono ?_
    rintro e w5 ⟨b5, rfl, hF5, hb50, hb5⟩
    have hb5l := hF5.lt
    have A5 := hid (A4.out.below hb5 A4.out.lt)
    have B5 := hid (B4.out.trans (hb5.mono B4.out.size))
    obtain ⟨W6, hW6⟩ : ∃ W, W = w5.alloc (.cells #[.slice (some ⟨b5, 0, none⟩) n n, .int .i64 k, .int .i64 m, .int .i64 g, .int .i64 u] 66) := ⟨_, rfl⟩
    obtain ⟨Y, hY⟩ : ∃ Y, Y = w5.heap.size := ⟨_, rfl⟩
    have F6 : Hid (FRow W6 b5 113 (n * 2) (prF x y)) := by rw [hW6]; exact hF5.alloc _
    have A6 : Hid (RowAt W6 X 60 #[.slice a n cap, .int .i64 k, .int .i64 m, .int .i64 g, .int .i64 u]) := by rw [hW6]; exact A5.out.alloc _
    have R6 : Hid (RowAt W6 Y 66 #[.slice (some ⟨b5, 0, none⟩) n n, .int .i64 k, .int .i64 m, .int .i64 g, .int .i64 u]) := by rw [hW6, hY]; exact RowAt.new _ _ _
    have B6 : Hid (Below w.heap.size w W6) := by rw [hW6]; exact B5.out.alloc B5.out.size _
    have HW6 := hid hW6
    have HY := hid hY
    clear hW6 hY hF5 hb50 hb5 hb5l K4 A4 B4 A5 B5 a0 a1 a2 a3 a4
    go_upto_region 7 with fail
    rw [← HW6.out, ← HY.out]
    clear HW6 HY
    have r0 := R6.out.cell 0
    have r1 := R6.out.cell 1
    have r2 := R6.out.cell 2
    have r3 := R6.out.cell 3
    have r4 := R6.out.cell 4
    have K6 := hid (iClF (some ⟨b5, 0, none⟩) n n x y k m g u hl W6 F6.out.prs)
    unfold ccv at K6
    rw [← HF.out] at K6
    go_wp2_with fail
    refine K6.out.mono ?_
    rintro e w7 ⟨rfl, hb7⟩
    have A7 := hid (A6.out.below hb7 A6.out.lt)
    have R7 := hid (R6.out.below hb7 R6.out.lt)
    have F7 := hid (F6.out.below hb7 F6.out.lt)
    have B7 := hid (B6.out.trans (hb7.mono B6.out.size))
    clear hb7 K6 r0 r1 r2 r3 r4 A6 R6 F6 B6
    have a0 := A7.out.cell 0
    have a1 := A7.out.cell 1
    have a2 := A7.out.cell 2
    have a3 := A7.out.cell 3
    have a4 := A7.out.cell 4
    have r0 := R7.out.cell 0
    have r1 := R7.out.cell 1
    have r2 := R7.out.cell 2
    have r3 := R7.out.cell 3
    have r4 := R7.out.cell 4
    have KT : Hid (∀ wx, Below w.heap.size w wx → Calls Try.prog 23 #[.agg #[.slice a n cap, .int .i64 k, .int .i64 m, .int .i64 g, .int .i64 u]] wx fun e w' => ∃ b, e = .returned (.agg #[.slice (some ⟨b, 0, none⟩) n n, .int .i64 k, .int .i64 m, .int .i64 g, .int .i64 u]) ∧ FRow w' b 113 (n * 2) (prF x y) ∧ wx.heap.size ≤ b ∧ Below wx.heap.size wx w') := fun wx hx => toCc a n cap x y k m g u hl wx (HH.out.below hx)
    have KE : Hid (∀ wx b9, FRow wx b5 113 (n * 2) (prF x y) → FRow wx b9 113 (n * 2) (prF x y) → Calls Try.prog 25 #[.agg #[.slice (some ⟨b5, 0, none⟩) n n, .int .i64 k, .int .i64 m, .int .i64 g, .int .i64 u], .agg #[.slice (some ⟨b9, 0, none⟩) n n, .int .i64 k, .int .i64 m, .int .i64 g, .int .i64 u]] wx fun e w' => e = .returned (.bool true) ∧ Below wx.heap.size wx w') := fun wx b9 h5 h9 => eqCc _ _ n n n x y k m g u hl wx h5.prs h9.prs
    go_wp2_with fail
    go_region_law (first | (go_simp; go_at_call 23; refine (KT.out _ (by first | exact B7.out.drew | exact B7.out)).mono ?_; rintro e w8 ⟨b8, rfl, hF8, _, hb8⟩; have R8 : Hid (RowAt w8 Y 66 #[.slice (some ⟨b5, 0, none⟩) n n, .int .i64 k, .int .i64 m, .int .i64 g, .int .i64 u]) := (by first | exact R7.out.drew.below hb8 R7.out.lt | exact R7.out.below hb8 R7.out.lt); have r0 := R8.out.cell 0; have r1 := R8.out.cell 1; have r2 := R8.out.cell 2; have r3 := R8.out.cell 3; have r4 := R8.out.cell 4; have F8 := hid hF8; have E8 : Hid (FRow w8 b5 113 (n * 2) (prF x y)) := (by first | exact F7.out.drew.below hb8 F7.out.lt | exact F7.out.below hb8 F7.out.lt); have B8 : Hid (Below w.heap.size w w8) := (by first | exact B7.out.drew.trans (hb8.mono B7.out.size) | exact B7.out.trans (hb8.mono B7.out.size)); clear hF8 hb8; dsimp only) | (go_simp; go_at_call 25; refine (KE.out _ _ (by first | exact E8.out.drew | exact E8.out) (by first | exact F8.out.drew | exact F8.out)).mono ?_; rintro e w9 ⟨rfl, hb9⟩; have B9 : Hid (Below w.heap.size w w9) := (by first | exact B8.out.drew.trans (hb9.mono B8.out.size) | exact B8.out.trans (hb9.mono B8.out.size)); clear hb9; dsimp only))
    all_goals go_wp2
    all_goals go_ret
    all_goals exact ⟨rfl, B9.out⟩
  · simp only [if_neg hl] at K0
    go_enter Try.func6, Try.ntmps6
    go_upto_region 1 with fail
    rw [← HW1.out, ← HX.out]
    clear HW1
    go_wp2_with fail
    refine K0.out.mono ?_
    rintro e w2 ⟨rfl, hb2⟩
    have B2 := hid (B1.out.trans (hb2.mono B1.out.size))
    clear hb2
    go_wp2
    go_ret
    exact ⟨rfl, B2.out⟩
end Go.Proofs.Ytmfhkhhdcmnpdaa
