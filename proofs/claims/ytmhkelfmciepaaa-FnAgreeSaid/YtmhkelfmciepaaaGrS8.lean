import Derived.Test.YtmhkelfmciepaaaGrS6
import Derived.Test.YtmhkelfmciepaaaGrS7
namespace Go.Proofs.Ytmhkelfmciepaaa
open Go.RowKit
set_option linter.unusedVariables false
/-! The specification's l15Do (by gengr4.py). -/
set_option maxRecDepth 20000 in
set_option maxHeartbeats 8000000 in
theorem sDo (w0 : World) (b N k : Nat) (hN : N ≤ 9) (hk : k < N) (s : Gst) (hT : ∀ j, j < N → 0 ≤ (s j).tm ∧ (s j).tm ≤ 1000000 ∧ (s j).lg.length ≤ 500) (kd dt : Int) (pa : Option Addr) (pc : Nat) (pe : List Int) (tx : ByteArray) (hpl : pe.length ≤ 1048576) (hp : Ints .i64 w0 pa pe.length pc pe) (htx : tx.size ≤ 9223372036854775807) (w : World) (h : SpAt w w0.heap.size b N s) (hb : Below w0.heap.size w0 w) :
    Calls Try.prog 19 #[.slice (some ⟨b, 0, none⟩) N N, .agg #[.int .i64 kd, .int .i64 (k : Int), .int .i64 dt, .slice pa pe.length pc, .string tx]] w fun e w' => e = .returned (gv (gDo N s k ⟨kd, (k : Int), dt, pe, tx⟩).2) ∧ SpAt w' w0.heap.size b N (gDo N s k ⟨kd, (k : Int), dt, pe, tx⟩).1 ∧ Below w0.heap.size w0 w' ∧ Kp w w' := by
  obtain ⟨la, lc, mb, h⟩ := h
  have hBb := h.hB
  have hbl := h.row.lt
  have hH : Hid (∀ j, j < N → mb j < w.heap.size) := fun j hj => (h.mat j hj).1.lt
  have HT := hid hT
  obtain ⟨G1, hG1⟩ : ∃ G, G = (gDo N s k ⟨kd, (k : Int), dt, pe, tx⟩).1 := ⟨_, rfl⟩
  obtain ⟨G2, hG2⟩ : ∃ G, G = (gDo N s k ⟨kd, (k : Int), dt, pe, tx⟩).2 := ⟨_, rfl⟩
  rw [← hG1, ← hG2]
  have HG1 := hid hG1
  have HG2 := hid hG2
  clear hG1 hG2
  obtain ⟨X3, hX3⟩ : ∃ X, X = w.heap.size := ⟨_, rfl⟩
  have hw0 := hb.size
  have hwX : Hid (w.heap.size ≤ X3) := by rw [hX3]; exact Nat.le_refl _
  obtain ⟨W1, hW1⟩ : ∃ W, W = (w.alloc (.cells #[.int .i64 kd, .int .i64 (k : Int), .int .i64 dt, .slice pa pe.length pc, .string tx] 42)).alloc (.cells #[.int .i64 0, .int .i64 0, .int .i64 0] 34) := ⟨_, rfl⟩
  have b1 : Below w.heap.size w W1 := by rw [hW1]; exact ((Below.refl _ _).alloc (Nat.le_refl _) _).alloc (by simp) _
  obtain ⟨OVv, hOV⟩ : ∃ o : Array Value, o = #[.int .i64 kd, .int .i64 (k : Int), .int .i64 dt, .slice pa pe.length pc, .string tx] := ⟨_, rfl⟩
  have HOV := hid hOV
  have P1 : Hid (RowAt W1 X3 42 OVv) := by rw [hW1, hX3, hOV]; exact (RowAt.new _ _ _).alloc _
  have R1 : Hid (RowAt W1 (X3 + 1) 34 #[.int .i64 0, .int .i64 0, .int .i64 0]) := by rw [hW1, hX3]; exact RowAt.next _ _ _ (by simp only [size_al])
  have V1 : Hid (Kp w W1) := (Kp.refl w).below b1
  have S1 := hid (h.below b1)
  have B1 := hid (hb.trans (b1.mono hb.size))
  have sz1 : Hid (W1.heap.size = X3 + 2) := by rw [hW1, hX3]; show _ = _; simp only [size_al]
  have HW1 := hid hW1
  have HX3 := hid hX3
  have lX3 : b < X3 := by omega
  have HBX : Hid (w0.heap.size ≤ X3) := by rw [hX3]; exact hw0
  have hH3 : Hid (∀ j, j < N → mb j < X3) := by rw [hX3]; exact hH.out
  have kN : (k : Int) < (N : Int) := by omega
  have k0 : (0 : Int) ≤ (k : Int) := by omega
  clear hOV hW1 b1 hX3 h hb hT hbl hH
  go_enter Try.func19, Try.ntmps19
  go_upto_region 1 with fail
  rw [← HW1.out, ← HX3.out]
  clear HW1 HX3
  have p1 : W1.cell? ⟨X3, 1, none⟩ = some (.int .i64 (k : Int)) := by rw [P1.out.cell, HOV.out]; rfl
  have HP := hid hp
  clear hp
  by_cases h1 : kd = 1
  · have d1 : (kd == 1) = true := by rw [beq_iff_eq]; exact h1
    have H1 := hid h1
    clear h1
    have KC := hid (sElect w0 b N k hN hk s HT.out kd dt pa pc pe tx hpl HP.out W1 ⟨_, _, _, S1.out⟩ B1.out)
    have p0 : W1.cell? ⟨X3, 0, none⟩ = some (.int .i64 kd) := by rw [P1.out.cell, HOV.out]; rfl
    have p3 : W1.cell? ⟨X3, 3, none⟩ = some (.slice pa pe.length pc) := by rw [P1.out.cell, HOV.out]; rfl
    have p2 : W1.cell? ⟨X3, 2, none⟩ = some (.int .i64 dt) := by rw [P1.out.cell, HOV.out]; rfl
    have p4 : W1.cell? ⟨X3, 4, none⟩ = some (.string tx) := by rw [P1.out.cell, HOV.out]; rfl
    go_upto_region 4 with fail
    go_wp2_with fail
    refine KC.out.mono ?_
    rintro e w2 ⟨rfl, ⟨la2, lc2, mb2, h2⟩, hb2, hk2⟩
    have HR : Hid (G1 = (gElect N s k pe).1 ∧ G2 = (gElect N s k pe).2) := by
      have q : gDo N s k ⟨kd, (k : Int), dt, pe, tx⟩ = gElect N s k pe := by unfold gDo; rw [if_pos H1.out]
      rw [HG1.out, HG2.out, q]
      exact ⟨rfl, rfl⟩
    have R2 := hid (hk2.row _ _ _ (by decide) (by decide) R1.out)
    have S2 := hid h2
    have B2 := hid hb2
    have V2 := hid (V1.out.trans hk2)
    clear h2 hb2 hk2 p0 p1 p2 p3 p4 KC
    generalize gElect N s k pe = GG at S2 HR ⊢
    obtain ⟨GA, GB⟩ := GG
    obtain ⟨g1, g2, g3⟩ := GB
    go_wp2_with (refine wpList_store_row rfl 34 (.tmp 4) (.tmp 14) rfl (X3 + 1) #[.int .i64 g1, .int .i64 g2, .int .i64 g3] rfl rfl _ _ R2.out (by kernel_rfl) rfl (by simp [Value.oneCell']) ?_)
    try simp only [Exit.inBlock, Exit.then]
    refine bodyPost_ret (v := .agg #[.int .i64 g1, .int .i64 g2, .int .i64 g3]) ?_ rfl ⟨by rw [HR.out.2], ⟨la2, lc2, mb2, by rw [HR.out.1]; exact S2.out.aside R2.out (by decide) (by decide) (by decide) _⟩, below_setRow B2.out _ _ (by have := HBX.out; omega), V2.out.setRow (Nat.le_trans hwX.out (Nat.le_add_right _ _)) _⟩
    exact results_cell_row Try.results19 _ _ (X3 + 1) _ _ _ _ rfl (R2.out.setRow _) Try.underlying34 rfl (by kernel_rfl)
  have d1 : (kd == 1) = false := by rw [beq_eq_false_iff_ne]; exact h1
  have H1 := hid h1
  clear h1
  by_cases h3 : kd = 3
  · have d3 : (kd == 3) = true := by rw [beq_iff_eq]; exact h3
    have n2 : ¬ kd = 2 := by omega
    have H3 := hid h3
    have H2 := hid n2
    clear h3 n2
    have KC := hid (sCopy w0 b N k hN hk s HT.out kd dt pa pc pe tx W1 ⟨_, _, _, S1.out⟩ B1.out)
    have p0 : W1.cell? ⟨X3, 0, none⟩ = some (.int .i64 kd) := by rw [P1.out.cell, HOV.out]; rfl
    have p3 : W1.cell? ⟨X3, 3, none⟩ = some (.slice pa pe.length pc) := by rw [P1.out.cell, HOV.out]; rfl
    have p2 : W1.cell? ⟨X3, 2, none⟩ = some (.int .i64 dt) := by rw [P1.out.cell, HOV.out]; rfl
    have p4 : W1.cell? ⟨X3, 4, none⟩ = some (.string tx) := by rw [P1.out.cell, HOV.out]; rfl
    go_upto_region 6 with fail
    go_wp2_with fail
    refine KC.out.mono ?_
    rintro e w2 ⟨rfl, ⟨la2, lc2, mb2, h2⟩, hb2, hk2⟩
    have HR : Hid (G1 = (gCopy N s k dt).1 ∧ G2 = (gCopy N s k dt).2) := by
      have q : gDo N s k ⟨kd, (k : Int), dt, pe, tx⟩ = gCopy N s k dt := by unfold gDo; rw [if_neg H1.out, if_neg H2.out, if_pos H3.out]
      rw [HG1.out, HG2.out, q]
      exact ⟨rfl, rfl⟩
    have R2 := hid (hk2.row _ _ _ (by decide) (by decide) R1.out)
    have S2 := hid h2
    have B2 := hid hb2
    have V2 := hid (V1.out.trans hk2)
    clear h2 hb2 hk2 p0 p1 p2 p3 p4 KC
    generalize gCopy N s k dt = GG at S2 HR ⊢
    obtain ⟨GA, GB⟩ := GG
    obtain ⟨g1, g2, g3⟩ := GB
    go_wp2_with (refine wpList_store_row rfl 34 (.tmp 4) (.tmp 19) rfl (X3 + 1) #[.int .i64 g1, .int .i64 g2, .int .i64 g3] rfl rfl _ _ R2.out (by kernel_rfl) rfl (by simp [Value.oneCell']) ?_)
    try simp only [Exit.inBlock, Exit.then]
    refine bodyPost_ret (v := .agg #[.int .i64 g1, .int .i64 g2, .int .i64 g3]) ?_ rfl ⟨by rw [HR.out.2], ⟨la2, lc2, mb2, by rw [HR.out.1]; exact S2.out.aside R2.out (by decide) (by decide) (by decide) _⟩, below_setRow B2.out _ _ (by have := HBX.out; omega), V2.out.setRow (Nat.le_trans hwX.out (Nat.le_add_right _ _)) _⟩
    exact results_cell_row Try.results19 _ _ (X3 + 1) _ _ _ _ rfl (R2.out.setRow _) Try.underlying34 rfl (by kernel_rfl)
  have d3 : (kd == 3) = false := by rw [beq_eq_false_iff_ne]; exact h3
  have H3 := hid h3
  clear h3
  have p0 : W1.cell? ⟨X3, 0, none⟩ = some (.int .i64 kd) := by rw [P1.out.cell, HOV.out]; rfl
  by_cases h4 : kd = 4
  · have d4 : (kd == 4) = true := by rw [beq_iff_eq]; exact h4
    have n2 : ¬ kd = 2 := by omega
    have H4 := hid h4
    have H2 := hid n2
    clear h4 n2
    go_upto_region 8 with fail
    clear p0 p1
    obtain ⟨W2, hW2⟩ : ∃ W, W = W1.setCell ⟨b, k * 6 + 2, none⟩ (.bool false) := ⟨_, rfl⟩
    have S2 : Hid (SpL W2 w0.heap.size b N (putM s k { s k with ld := false }) la lc mb) := by
      rw [hW2]
      exact S1.out.setLd k false
    have P2 : Hid (RowAt W2 X3 42 OVv) := by rw [hW2]; exact P1.out.other _ _ (by simp; omega)
    have R2 : Hid (RowAt W2 (X3 + 1) 34 #[.int .i64 0, .int .i64 0, .int .i64 0]) := by rw [hW2]; exact R1.out.other _ _ (by simp; omega)
    have V2 : Hid (Kp w W2) := by rw [hW2]; exact S1.out.keep V1.out _ _
    have B2 : Hid (Below w0.heap.size w0 W2) := by rw [hW2]; exact B1.out.setCell hBb _
    have sz2 : Hid (W2.heap.size = W1.heap.size) := by rw [hW2]; show _ = _; simp [World.setCell]
    have y1 := (S1.out.cells hk).2.2.1
    have f1 := S1.out.row.free (k * 6 + 2)
    have HW2 := hid hW2
    clear hW2
    go_upto_region 9 with fail
    rw [← HW2.out]
    clear HW2 y1 f1 P1 R1 V1 B1 S1 
    obtain ⟨W3, hW3⟩ : ∃ W, W = W2.setCell ⟨b, k * 6 + 3, none⟩ (.int .i64 0) := ⟨_, rfl⟩
    have S3 : Hid (SpL W3 w0.heap.size b N (putM s k { s k with ld := false, cm := 0 }) la lc mb) := by
      rw [hW3]
      have q := S2.out.setCm k 0
      rw [putM_self, putM_putM] at q
      exact q
    have P3 : Hid (RowAt W3 X3 42 OVv) := by rw [hW3]; exact P2.out.other _ _ (by simp; omega)
    have R3 : Hid (RowAt W3 (X3 + 1) 34 #[.int .i64 0, .int .i64 0, .int .i64 0]) := by rw [hW3]; exact R2.out.other _ _ (by simp; omega)
    have V3 : Hid (Kp w W3) := by rw [hW3]; exact S2.out.keep V2.out _ _
    have B3 : Hid (Below w0.heap.size w0 W3) := by rw [hW3]; exact B2.out.setCell hBb _
    have sz3 : Hid (W3.heap.size = W2.heap.size) := by rw [hW3]; show _ = _; simp [World.setCell]
    have y2 := (S2.out.cells hk).2.2.2.1
    have f2 := S2.out.row.free (k * 6 + 3)
    have HW3 := hid hW3
    clear hW3
    go_upto_region 10 with fail
    rw [← HW3.out]
    clear HW3 y2 f2 P2 R2 V2 B2 S2 
    obtain ⟨XM, hXM⟩ : ∃ X, X = W3.heap.size := ⟨_, rfl⟩
    obtain ⟨W4, hW4⟩ : ∃ W, W = W3.alloc (.cells (ints .i64 (List.replicate N 0)) 2) := ⟨_, rfl⟩
    have hmk := mk64 W3 N (by omega)
    rw [← hXM, ← hW4] at hmk
    have b4 : Below W3.heap.size W3 W4 := by rw [hW4]; exact (Below.refl _ _).alloc (Nat.le_refl _) _
    have M4 : Hid (RowAt W4 XM 2 (ints .i64 (List.replicate N 0))) := by rw [hW4, hXM]; exact RowAt.new _ _ _
    have S4 := hid (S3.out.below b4)
    have P4 := hid (P3.out.below b4 P3.out.lt)
    have R4 := hid (R3.out.below b4 R3.out.lt)
    have V4 := hid (V3.out.below b4)
    have B4 := hid (B3.out.trans (b4.mono B3.out.size))
    have zx : X3 + 2 ≤ XM := by rw [hXM, sz3.out, sz2.out, sz1.out]; exact Nat.le_refl _
    clear hW4 hXM b4 S3 P3 R3 V3 B3
    obtain ⟨mb2, hmb2⟩ : ∃ f : Nat → Nat, f = fun j => if j = k then XM else mb j := ⟨_, rfl⟩
    obtain ⟨W5, hW5⟩ : ∃ W, W = W4.setCell ⟨b, k * 6 + 5, none⟩ (.slice (some ⟨XM, 0, none⟩) N N) := ⟨_, rfl⟩
    have S5 : Hid (SpL W5 w0.heap.size b N (putM s k { s k with ld := false, cm := 0, mt := List.replicate N 0 }) la lc mb2) := by
      rw [hW5, hmb2]
      have z := S4.out.setMt k XM (List.replicate N 0) M4.out (by simp) (by have := HBX.out; omega) (fun j hj => by have := hH3.out j hj; omega)
      rw [putM_self, putM_putM] at z
      exact z
    have P5 : Hid (RowAt W5 X3 42 OVv) := by rw [hW5]; exact P4.out.other _ _ (by simp; omega)
    have R5 : Hid (RowAt W5 (X3 + 1) 34 #[.int .i64 0, .int .i64 0, .int .i64 0]) := by rw [hW5]; exact R4.out.other _ _ (by simp; omega)
    have V5 : Hid (Kp w W5) := by rw [hW5]; exact S4.out.keep V4.out _ _
    have B5 : Hid (Below w0.heap.size w0 W5) := by rw [hW5]; exact B4.out.setCell hBb _
    have y4 := (S4.out.cells hk).2.2.2.2.2
    have f4 := S4.out.row.free (k * 6 + 5)
    have HW5 := hid hW5
    clear hW5 hmb2
    go_upto_region 11 with fail
    rw [← HW5.out]
    clear HW5 y4 f4 hmk S4 P4 R4 V4 B4 M4
    have HR : Hid (G1 = putM s k { s k with ld := false, cm := 0, mt := List.replicate N 0 } ∧ G2 = ⟨0, 0, 0⟩) := by
      have q : gDo N s k ⟨kd, (k : Int), dt, pe, tx⟩ = (putM s k { s k with ld := false, cm := 0, mt := List.replicate N 0 }, ⟨0, 0, 0⟩) := by unfold gDo; rw [if_neg H1.out, if_neg H2.out, if_neg H3.out, if_pos H4.out]; rfl
      rw [HG1.out, HG2.out, q]
      exact ⟨rfl, rfl⟩
    go_upto_region 11 with fail
    go_wp2_with (refine wpList_store_row rfl 34 (.tmp 4) (.tmp 37) rfl (X3 + 1) #[.int .i64 0, .int .i64 0, .int .i64 0] rfl rfl _ _ R5.out (by kernel_rfl) rfl (by simp [Value.oneCell']) ?_)
    try simp only [Exit.inBlock, Exit.then]
    refine bodyPost_ret (v := .agg #[.int .i64 0, .int .i64 0, .int .i64 0]) ?_ rfl ⟨by rw [HR.out.2], ⟨la, lc, mb2, by rw [HR.out.1]; exact S5.out.aside R5.out (by decide) (by decide) (by decide) _⟩, below_setRow B5.out _ _ (by have := HBX.out; omega), V5.out.setRow (Nat.le_trans hwX.out (Nat.le_add_right _ _)) _⟩
    exact results_cell_row Try.results19 _ _ (X3 + 1) _ _ _ _ rfl (R5.out.setRow _) Try.underlying34 rfl (by kernel_rfl)
  have d4 : (kd == 4) = false := by rw [beq_eq_false_iff_ne]; exact h4
  have H4 := hid h4
  clear h4
  by_cases h2 : kd = 2
  case neg =>
    have d2 : (kd == 2) = false := by rw [beq_eq_false_iff_ne]; exact h2
    have H2 := hid h2
    clear h2
    have HR : Hid (G1 = s ∧ G2 = ⟨1, 0, 0⟩) := by
      have q : gDo N s k ⟨kd, (k : Int), dt, pe, tx⟩ = (s, ⟨1, 0, 0⟩) := by unfold gDo; rw [if_neg H1.out, if_neg H2.out, if_neg H3.out, if_neg H4.out]
      rw [HG1.out, HG2.out, q]
      exact ⟨rfl, rfl⟩
    go_upto_region 23 with fail
    go_wp2_with (refine wpList_store_row rfl 34 (.tmp 4) (.tmp 101) rfl (X3 + 1) #[.int .i64 1, .int .i64 0, .int .i64 0] rfl rfl _ _ R1.out (by kernel_rfl) rfl (by simp [Value.oneCell']) ?_)
    try simp only [Exit.inBlock, Exit.then]
    refine bodyPost_ret (v := .agg #[.int .i64 1, .int .i64 0, .int .i64 0]) ?_ rfl ⟨by rw [HR.out.2], ⟨la, lc, mb, by rw [HR.out.1]; exact S1.out.aside R1.out (by decide) (by decide) (by decide) _⟩, below_setRow B1.out _ _ (by have := HBX.out; omega), V1.out.setRow (Nat.le_trans hwX.out (Nat.le_add_right _ _)) _⟩
    exact results_cell_row Try.results19 _ _ (X3 + 1) _ _ _ _ rfl (R1.out.setRow _) Try.underlying34 rfl (by kernel_rfl)
  have d2 : (kd == 2) = true := by rw [beq_iff_eq]; exact h2
  have H2 := hid h2
  clear h2
  have GP : Hid (gDo N s k ⟨kd, (k : Int), dt, pe, tx⟩ = gProp N s k tx) := hid (by unfold gDo; rw [if_neg H1.out, if_pos H2.out])
  have c2 := (S1.out.cells hk).2.2.1
  have c4 := (S1.out.cells hk).2.2.2.2.1
  have p4 : W1.cell? ⟨X3, 4, none⟩ = some (.string tx) := by rw [P1.out.cell, HOV.out]; rfl
  cases hld : (s k).ld with
  | false =>
    rw [hld] at c2
    have HR : Hid (G1 = s ∧ G2 = ⟨6, 0, 0⟩) := by
      have q : gDo N s k ⟨kd, (k : Int), dt, pe, tx⟩ = (s, ⟨6, 0, 0⟩) := by rw [GP.out]; unfold gProp; rw [if_pos hld]
      rw [HG1.out, HG2.out, q]
      exact ⟨rfl, rfl⟩
    clear hld
    go_upto_region 14 with fail
    go_wp2_with (refine wpList_store_row rfl 34 (.tmp 4) (.tmp 47) rfl (X3 + 1) #[.int .i64 6, .int .i64 0, .int .i64 0] rfl rfl _ _ R1.out (by kernel_rfl) rfl (by simp [Value.oneCell']) ?_)
    try simp only [Exit.inBlock, Exit.then]
    refine bodyPost_ret (v := .agg #[.int .i64 6, .int .i64 0, .int .i64 0]) ?_ rfl ⟨by rw [HR.out.2], ⟨la, lc, mb, by rw [HR.out.1]; exact S1.out.aside R1.out (by decide) (by decide) (by decide) _⟩, below_setRow B1.out _ _ (by have := HBX.out; omega), V1.out.setRow (Nat.le_trans hwX.out (Nat.le_add_right _ _)) _⟩
    exact results_cell_row Try.results19 _ _ (X3 + 1) _ _ _ _ rfl (R1.out.setRow _) Try.underlying34 rfl (by kernel_rfl)
  | true =>
    rw [hld] at c2
    have HLD := hid hld
    clear hld
    obtain ⟨L, hL⟩ : ∃ l, l = (s k).lg := ⟨_, rfl⟩
    rw [← hL] at c4
    have hLn : L.length ≤ 500 := by rw [hL]; exact (HT.out k hk).2.2
    have HL := hid hL
    clear hL
    by_cases h5 : L.length = 500
    · have d5 : ((L.length : Int) == 500) = true := by rw [beq_iff_eq]; omega
      have H5 := hid h5
      clear h5
      have HR : Hid (G1 = s ∧ G2 = ⟨7, 0, 0⟩) := by
        have q : gDo N s k ⟨kd, (k : Int), dt, pe, tx⟩ = (s, ⟨7, 0, 0⟩) := by rw [GP.out]; unfold gProp; rw [if_neg (by rw [HLD.out]; exact Bool.noConfusion), ← HL.out, if_pos (by rw [H5.out]; exact Nat.le_refl _)]
        rw [HG1.out, HG2.out, q]
        exact ⟨rfl, rfl⟩
      go_upto_region 16 with fail
      go_wp2_with (refine wpList_store_row rfl 34 (.tmp 4) (.tmp 56) rfl (X3 + 1) #[.int .i64 7, .int .i64 0, .int .i64 0] rfl rfl _ _ R1.out (by kernel_rfl) rfl (by simp [Value.oneCell']) ?_)
      try simp only [Exit.inBlock, Exit.then]
      refine bodyPost_ret (v := .agg #[.int .i64 7, .int .i64 0, .int .i64 0]) ?_ rfl ⟨by rw [HR.out.2], ⟨la, lc, mb, by rw [HR.out.1]; exact S1.out.aside R1.out (by decide) (by decide) (by decide) _⟩, below_setRow B1.out _ _ (by have := HBX.out; omega), V1.out.setRow (Nat.le_trans hwX.out (Nat.le_add_right _ _)) _⟩
      exact results_cell_row Try.results19 _ _ (X3 + 1) _ _ _ _ rfl (R1.out.setRow _) Try.underlying34 rfl (by kernel_rfl)
    · have d5 : ((L.length : Int) == 500) = false := by rw [beq_eq_false_iff_ne]; omega
      have l5 : Hid (¬ 500 ≤ L.length) := hid (by omega)
      clear h5
      by_cases h6 : 1000 < tx.size
      · have d6 : (1000 : Int) < (tx.size : Int) := by omega
        have HR : Hid (G1 = s ∧ G2 = ⟨2, 0, 0⟩) := by
          have q : gDo N s k ⟨kd, (k : Int), dt, pe, tx⟩ = (s, ⟨2, 0, 0⟩) := by rw [GP.out]; unfold gProp; rw [if_neg (by rw [HLD.out]; exact Bool.noConfusion), ← HL.out, if_neg l5.out, if_pos h6]
          rw [HG1.out, HG2.out, q]
          exact ⟨rfl, rfl⟩
        go_upto_region 18 with fail
        go_wp2_with (refine wpList_store_row rfl 34 (.tmp 4) (.tmp 62) rfl (X3 + 1) #[.int .i64 2, .int .i64 0, .int .i64 0] rfl rfl _ _ R1.out (by kernel_rfl) rfl (by simp [Value.oneCell']) ?_)
        try simp only [Exit.inBlock, Exit.then]
        refine bodyPost_ret (v := .agg #[.int .i64 2, .int .i64 0, .int .i64 0]) ?_ rfl ⟨by rw [HR.out.2], ⟨la, lc, mb, by rw [HR.out.1]; exact S1.out.aside R1.out (by decide) (by decide) (by decide) _⟩, below_setRow B1.out _ _ (by have := HBX.out; omega), V1.out.setRow (Nat.le_trans hwX.out (Nat.le_add_right _ _)) _⟩
        exact results_cell_row Try.results19 _ _ (X3 + 1) _ _ _ _ rfl (R1.out.setRow _) Try.underlying34 rfl (by kernel_rfl)
      · have d6 : ¬ (1000 : Int) < (tx.size : Int) := by omega
        have H6 := hid h6
        go_upto_region 19 with fail
        clear p0 p1 c2
        obtain ⟨cs, hrow, hcs⟩ := S1.out.row
        obtain ⟨TM, hTM⟩ : ∃ t, t = (s k).tm := ⟨_, rfl⟩
        have c0 := (S1.out.cells hk).1
        rw [← hTM] at c0
        have hlog := S1.out.log k hk
        rw [← HL.out] at hlog
        have HTM := hid hTM
        clear hTM hcs
        obtain ⟨NL, hNL⟩ : ∃ l, l = L ++ [(⟨TM, tx⟩ : Ge)] := ⟨_, rfl⟩
        have HNL := hid hNL
        have nl : NL.length = L.length + 1 := by rw [hNL, List.length_append]; rfl
        have HNl := hid nl
        have nl5 : NL.length ≤ 500 := by have := l5.out; omega
        clear nl
        refine gp_wp W1 b N k X3 cs TM tx (la k) (lc k) L W1 (Below.refl _ _) ⟨hrow, P1.out.lt⟩ c4 c0 p4 hk hlog hLn ?_
        rintro X2 v8 X17 v18 w2 _ _ _ _ _ _ _ ⟨VV, hVb, hVo, hVw⟩
        rw [← hNL] at hVo
        obtain ⟨a9, c9, hv9, hlog9⟩ := OwnGe.logR hVo
        subst hv9
        obtain ⟨W2, hW2⟩ : ∃ W, W = w2 := ⟨_, rfl⟩
        have SV := hid (S1.out.below hVb)
        have S2 : Hid (SpL w2 w0.heap.size b N (putM s k { s k with lg := NL }) (fun j => if j = k then a9 else la j) (fun j => if j = k then c9 else lc j) mb) := by rw [hVw]; exact SV.out.setLg k a9 c9 NL hlog9
        have R2 : Hid (RowAt w2 (X3 + 1) 34 #[.int .i64 0, .int .i64 0, .int .i64 0]) := by rw [hVw]; exact (R1.out.below hVb R1.out.lt).other _ _ (by simp; omega) -- hk2.row
        have B2 : Hid (Below w0.heap.size w0 w2) := by rw [hVw]; exact (B1.out.trans (hVb.mono B1.out.size)).setCell hBb _
        have V2 : Hid (Kp w w2) := by rw [hVw]; exact SV.out.keep (V1.out.below hVb) _ _
        rw [← hW2] at S2 R2 V2 B2 ⊢
        clear hVb hVo hVw hlog9 hW2 SV hrow hlog c0 c4 p4 hNL S1 P1 R1 V1 B1
        obtain ⟨la2, hla2⟩ : ∃ f : Nat → Option Addr, f = fun j => if j = k then a9 else la j := ⟨_, rfl⟩
        obtain ⟨lc2, hlc2⟩ : ∃ f : Nat → Nat, f = fun j => if j = k then c9 else lc j := ⟨_, rfl⟩
        rw [← hla2, ← hlc2] at S2
        clear hla2 hlc2
        obtain ⟨_, _, _, _, z4, z5⟩ := S2.out.cells hk
        obtain ⟨zm, zmB, zml⟩ := S2.out.mat k hk
        obtain ⟨XM, hXM⟩ : ∃ X, X = mb k := ⟨_, rfl⟩
        rw [← hXM] at z5 zm zmB
        rw [putM_self] at z4 zm zml
        dsimp only at z4 zm zml
        have z6 : W2.cell? ⟨XM, k, none⟩ = some (.int .i64 ((s k).mt.getD k 0)) := by rw [zm.cell k, ints_at (by rw [zml]; exact hk)]
        have f6 := zm.free k
        generalize (s k).mt.getD k 0 = old at z6
        have nX : Hid (X3 + 1 ≠ XM) := by have := hH3.out k hk; exact fun e => by omega
        obtain ⟨W3, hW3⟩ : ∃ W, W = (W2.setCell ⟨XM, k, none⟩ (.int .i64 (NL.length : Int))).drew := ⟨_, rfl⟩
        have S3 : Hid (SpL W3 w0.heap.size b N (putM s k { s k with lg := NL, mt := (s k).mt.set k (NL.length : Int) }) la2 lc2 mb) := by
          have z := S2.out.putMt k hk k (NL.length : Int)
          rw [← hXM, putM_self, putM_putM] at z
          rw [hW3]
          exact z.below (Below.refl _ _).drew
        have R3 : Hid (RowAt W3 (X3 + 1) 34 #[.int .i64 0, .int .i64 0, .int .i64 0]) := by rw [hW3]; exact R2.out.other _ _ nX.out -- hk2.row
        have B3 : Hid (Below w0.heap.size w0 W3) := by rw [hW3]; exact (B2.out.setCell zmB _).drew
        have V3 : Hid (Kp w W3) := by rw [hW3, hXM]; exact (S2.out.keepM V2.out hk _ _).drew
        have HW3 := hid hW3
        clear hW3 zm zml zmB hXM nX S2 R2 V2 B2
        go_upto_region 20 with fail
        go_region
        rw [← HW3.out]
        clear HW3 z4 z5 z6 f6
        obtain ⟨s3, hs3⟩ : ∃ x, x = putM s k { s k with lg := NL, mt := (s k).mt.set k (NL.length : Int) } := ⟨_, rfl⟩
        rw [← hs3] at S3
        have s3k : Hid (s3 k = { s k with lg := NL, mt := (s k).mt.set k (NL.length : Int) }) := hid (by rw [hs3, putM_self])
        have s3p : Hid (∀ m, putM s3 k m = putM s k m) := fun m => by rw [hs3, putM_putM]
        clear hs3
        have KC := hid (sCount w0.heap.size b N k hN hk s3 (by rw [s3k.out]; exact nl5) W3 ⟨_, _, _, S3.out⟩ B3.out.size)
        go_wp2_with fail
        refine KC.out.mono ?_
        rintro e w4 ⟨rfl, ⟨la3, lc3, mb3, h4⟩, hg4⟩
        have nb : some (X3 + 1) ≠ some b := fun e => by have := Option.some.inj e; omega
        have S4 := hid h4
        have R4 : Hid (RowAt w4 (X3 + 1) 34 #[.int .i64 0, .int .i64 0, .int .i64 0]) := (hg4.block (X3 + 1) R3.out.lt nb).trans R3.out -- hk2.row
        have B4 := hid (B3.out.grown hg4 B3.out.size (fun x hx => by have := Option.some.inj hx; omega))
        have V4 : Hid (Kp w w4) := S3.out.keepG V3.out hg4
        rw [s3p.out, s3k.out] at S4
        clear h4 hg4 nb KC S3 R3 V3 B3
        have HR : Hid (G1 = putM s k (gCount N { s k with lg := NL, mt := (s k).mt.set k (NL.length : Int) }) ∧ G2 = ⟨0, 0, 0⟩) := by
          have q : gDo N s k ⟨kd, (k : Int), dt, pe, tx⟩ = (putM s k (gCount N { s k with lg := NL, mt := (s k).mt.set k (NL.length : Int) }), ⟨0, 0, 0⟩) := by rw [GP.out]; unfold gProp; rw [if_neg (by rw [HLD.out]; exact Bool.noConfusion), if_neg (by rw [← HL.out]; exact l5.out), if_neg H6.out, HNl.out, HNL.out, HTM.out, HL.out]
          rw [HG1.out, HG2.out, q]
          exact ⟨rfl, rfl⟩
        go_upto_region 22 with fail
        go_wp2_with (refine wpList_store_row rfl 34 (.tmp 4) (.tmp 100) rfl (X3 + 1) #[.int .i64 0, .int .i64 0, .int .i64 0] rfl rfl _ _ R4.out (by kernel_rfl) rfl (by simp [Value.oneCell']) ?_)
        try simp only [Exit.inBlock, Exit.then]
        refine bodyPost_ret (v := .agg #[.int .i64 0, .int .i64 0, .int .i64 0]) ?_ rfl ⟨by rw [HR.out.2], ⟨la3, lc3, mb3, by rw [HR.out.1]; exact S4.out.aside R4.out (by decide) (by decide) (by decide) _⟩, below_setRow B4.out _ _ (by have := HBX.out; omega), V4.out.setRow (Nat.le_trans hwX.out (Nat.le_add_right _ _)) _⟩
        exact results_cell_row Try.results19 _ _ (X3 + 1) _ _ _ _ rfl (R4.out.setRow _) Try.underlying34 rfl (by kernel_rfl)
end Go.Proofs.Ytmhkelfmciepaaa
