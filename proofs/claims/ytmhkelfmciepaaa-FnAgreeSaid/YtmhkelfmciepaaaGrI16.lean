import Derived.Test.YtmhkelfmciepaaaGrI15
namespace Go.Proofs.Ytmhkelfmciepaaa
open Go.RowKit
set_option linter.unusedVariables false
/-! The program's group.do (by gengri8.py). -/
set_option maxRecDepth 20000 in
set_option maxHeartbeats 8000000 in
theorem iGDo (w0 : World) (gb N : Nat) (hN : N ≤ 9) (s : Gst) (pb : Nat → Nat) (hT : ∀ j, j < N → 0 ≤ (s j).tm ∧ (s j).tm ≤ 1000000 ∧ (s j).lg.length ≤ 500) (kd mbr dt : Int) (pa : Option Addr) (pc : Nat) (pe : List Int) (tx : ByteArray) (hpl : pe.length ≤ 1048576) (htx : tx.size ≤ 1048576) (hp : Ints .i64 w0 pa pe.length pc pe) (w : World) (h : GpAt w w0.heap.size gb N s pb) (hb : Below w0.heap.size w0 w) :
    Calls Try.prog 17 #[.slice (some ⟨gb, 0, none⟩) N N, .agg #[.int .i64 kd, .int .i64 mbr, .int .i64 dt, .slice pa pe.length pc, .string tx]] w fun e w' => e = .returned (gv (gOne N s ⟨kd, mbr, dt, pe, tx⟩).2) ∧ GpAt w' w0.heap.size gb N (gOne N s ⟨kd, mbr, dt, pe, tx⟩).1 pb ∧ Kq w w' ∧ Below w0.heap.size w0 w' := by
  obtain ⟨la, lc, mb, h⟩ := h
  obtain ⟨GG, hGG⟩ : ∃ G, G = gOne N s ⟨kd, mbr, dt, pe, tx⟩ := ⟨_, rfl⟩
  rw [← hGG]
  have HGG := hid hGG
  have HP := hid hp
  have HT := hid hT
  obtain ⟨X3, hX3⟩ : ∃ X, X = w.heap.size := ⟨_, rfl⟩
  obtain ⟨W1, hW1⟩ : ∃ W, W = (w.alloc (.cells #[.int .i64 kd, .int .i64 mbr, .int .i64 dt, .slice pa pe.length pc, .string tx] 42)).alloc (.cells #[.int .i64 0, .int .i64 0, .int .i64 0] 34) := ⟨_, rfl⟩
  have b1 : Below w.heap.size w W1 := by rw [hW1]; exact ((Below.refl _ _).alloc (Nat.le_refl _) _).alloc (by simp) _
  have P1 : Hid (RowAt W1 X3 42 #[.int .i64 kd, .int .i64 mbr, .int .i64 dt, .slice pa pe.length pc, .string tx]) := by rw [hW1, hX3]; exact (RowAt.new _ _ _).alloc _
  have R1 : Hid (RowAt W1 (X3 + 1) 34 #[.int .i64 0, .int .i64 0, .int .i64 0]) := by rw [hW1, hX3]; exact RowAt.next _ _ _ (by simp only [size_al])
  have GX := hid (h.below b1)
  have K1 : Hid (Kq w W1) := (Kq.refl w).below b1
  have BX := hid (hb.trans (b1.mono hb.size))
  have KA : Hid (Kq W1 W1) := Kq.refl W1
  have hwX : Hid (w.heap.size ≤ X3) := by rw [hX3]; exact Nat.le_refl _
  have hw0X : Hid (w0.heap.size ≤ X3) := by rw [hX3]; exact hb.size
  have HX3 := hid hX3
  have HW1 := hid hW1
  have p0 : W1.cell? ⟨X3, 0, none⟩ = some (.int .i64 kd) := P1.out.cell 0
  have p1 : W1.cell? ⟨X3, 1, none⟩ = some (.int .i64 mbr) := P1.out.cell 1
  have p2 : W1.cell? ⟨X3, 2, none⟩ = some (.int .i64 dt) := P1.out.cell 2
  have p3 : W1.cell? ⟨X3, 3, none⟩ = some (.slice pa pe.length pc) := P1.out.cell 3
  have p4 : W1.cell? ⟨X3, 4, none⟩ = some (.string tx) := P1.out.cell 4
  have KL := hid (iLacks (some ⟨gb, 0, none⟩) N N mbr W1)
  obtain ⟨IN, hIN⟩ : ∃ b, b = gIn N mbr := ⟨_, rfl⟩
  rw [← hIN] at KL
  have HIN := hid hIN
  clear hX3 hW1 hGG h hb b1 hT hp hIN
  go_enter Try.func17, Try.ntmps17
  go_upto_region 1 with fail
  rw [← HW1.out, ← HX3.out]
  clear HW1 HX3
  go_wp2_with fail
  refine KL.out.mono ?_
  rintro e w2 ⟨rfl, hw2⟩
  obtain rfl := hw2.symm
  clear hw2 KL
  cases IN with
  | false =>
    have HR : Hid (GG = (s, ⟨1, 0, 0⟩)) := hid (by rw [HGG.out]; unfold gOne; rw [if_neg (by show ¬ gIn N mbr = true; rw [← HIN.out]; decide)])
    have RZ := hid (KA.out.row _ _ _ (by decide) (by decide) (by decide) R1.out)
    have PZ := hid (GX.out.asideR RZ.out (by decide) (by decide) (by decide) (by decide) #[.int .i64 1, .int .i64 0, .int .i64 0])
    have KZ := hid ((K1.out.trans KA.out).setRowNew (X := X3 + 1) (Nat.le_trans hwX.out (Nat.le_add_right _ _)) #[.int .i64 1, .int .i64 0, .int .i64 0])
    have BZ := hid (below_setRow BX.out (X3 + 1) #[.int .i64 1, .int .i64 0, .int .i64 0] (Nat.le_trans hw0X.out (Nat.le_add_right _ _)))
    go_upto_region 2 with fail
    go_wp2_with (refine wpList_store_row rfl 34 (.tmp 4) (.tmp 11) rfl (X3 + 1) #[.int .i64 1, .int .i64 0, .int .i64 0] rfl rfl _ _ RZ.out (by kernel_rfl) rfl (by simp [Value.oneCell']) ?_)
    try simp only [Exit.inBlock, Exit.then]
    refine bodyPost_ret (v := .agg #[.int .i64 1, .int .i64 0, .int .i64 0]) ?_ rfl ⟨by rw [HR.out], by rw [HR.out]; exact ⟨_, _, _, PZ.out⟩, KZ.out, BZ.out⟩
    exact results_cell_row Try.results17 _ _ (X3 + 1) _ _ _ _ rfl (RZ.out.setRow _) Try.underlying34 rfl (by kernel_rfl)
  | true =>
    have hin : 0 ≤ mbr ∧ mbr < N := by have := HIN.out.symm; unfold gIn at this; simp at this; exact this
    obtain ⟨k, hkk⟩ := Int.eq_ofNat_of_zero_le hin.1
    subst hkk
    have hk : k < N := by omega
    have kI : (k : Int) < (N : Int) := by omega
    have k0 : (0 : Int) ≤ (k : Int) := by omega
    clear hin
    obtain ⟨GD, hGD⟩ : ∃ G, G = gDo N s k ⟨kd, (k : Int), dt, pe, tx⟩ := ⟨_, rfl⟩
    have EG : Hid (GG = (GD.1, { GD.2 with cm := ((GD.1 k).cm : Int) })) := hid (by rw [HGG.out]; unfold gOne; rw [if_pos (by show gIn N (k : Int) = true; rw [← HIN.out]), Int.toNat_natCast, hGD])
    have KD := hid (iMDo w0 gb N k hN hk s pb HT.out kd (k : Int) dt pa pc pe tx hpl htx HP.out W1 ⟨la, lc, mb, GX.out⟩ BX.out)
    rw [← hGD] at KD
    clear hGD
    obtain ⟨GS, ⟨oa, ob, oc⟩⟩ := GD
    have mq : W1.cell? ⟨gb, k, none⟩ = some (.pointer (some ⟨pb k, 0, none⟩)) := (GX.out.all.cell k).trans (ptrs_at pb hk)
    unfold gv at KD
    dsimp only at KD
    go_upto_region 4 with fail
    go_wp2_with fail
    refine KD.out.mono ?_
    rintro e w7 ⟨rfl, hG7, hK7, hB7⟩
    obtain ⟨la7, lc7, mb7, hG7⟩ := hG7
    obtain ⟨X6, hX6⟩ : ∃ X, X = w7.heap.size := ⟨_, rfl⟩
    obtain ⟨W8, hW8⟩ : ∃ W, W = w7.alloc (.cells #[.int .i64 oa, .int .i64 ob, .int .i64 oc] 34) := ⟨_, rfl⟩
    have b8 : Below w7.heap.size w7 W8 := by rw [hW8]; exact (Below.refl _ _).alloc (Nat.le_refl _) _
    have S8 : Hid (RowAt W8 X6 34 #[.int .i64 oa, .int .i64 ob, .int .i64 oc]) := by rw [hW8, hX6]; exact RowAt.new _ _ _
    have G8 := hid (hG7.below b8)
    have K8 : Hid (Kq W1 W8) := hK7.below b8
    have B8 := hid (hB7.trans (b8.mono hB7.size))
    have hX6W : Hid (W1.heap.size ≤ X6) := by rw [hX6]; exact hK7.size
    have hX60 : Hid (w0.heap.size ≤ X6) := by rw [hX6]; exact hB7.size
    have hXX : Hid (X3 + 1 ≠ X6) := hid (by have := R1.out.lt; have := hX6W.out; omega)
    have HX6 := hid hX6
    have HW8 := hid hW8
    clear hX6 hW8 b8 hG7 hK7 hB7 KD p0 p1 p2 p3 p4 mq GX KA BX
    obtain ⟨CM, hCM⟩ : ∃ n, n = (GS k).cm := ⟨_, rfl⟩
    have c3 : W8.cell? ⟨pb k, 3, none⟩ = some (.int .i64 (CM : Int)) := ((G8.out.mem k hk).cell 3).trans (by rw [hCM]; rfl)
    have s2 : W8.cell? ⟨X6, 2, none⟩ = some (.int .i64 oc) := S8.out.cell 2
    have f2 := S8.out.free 2
    obtain ⟨W9, hW9⟩ : ∃ W, W = W8.setCell ⟨X6, 2, none⟩ (.int .i64 (CM : Int)) := ⟨_, rfl⟩
    have S9 : Hid (RowAt W9 X6 34 #[.int .i64 oa, .int .i64 ob, .int .i64 (CM : Int)]) := by rw [hW9]; exact S8.out.set 2 _
    have GX : Hid (GpL W9 w0.heap.size gb N GS pb la7 lc7 mb7) := by rw [hW9]; exact G8.out.asideC S8.out (by decide) (by decide) (by decide) (by decide) _ _
    have KA : Hid (Kq W1 W9) := by rw [hW9]; exact K8.out.setNew _ hX6W.out
    have BX : Hid (Below w0.heap.size w0 W9) := by rw [hW9]; exact B8.out.setCell hX60.out _
    have HR : Hid (GG = (GS, ⟨oa, ob, (CM : Int)⟩)) := hid (by rw [EG.out, hCM])
    have HW9 := hid hW9
    clear hCM hW9 G8 K8 B8
    go_upto_region 5 with fail
    rw [← HW8.out, ← HX6.out]
    clear HW8 HX6
    go_upto_region 6 with fail
    rw [← HW9.out]
    clear HW9 c3 s2 f2 S8
    have q0 := S9.out.cell 0
    have q1 := S9.out.cell 1
    have q2 := S9.out.cell 2
    have RZ := hid (KA.out.row _ _ _ (by decide) (by decide) (by decide) R1.out)
    have PZ := hid (GX.out.asideR RZ.out (by decide) (by decide) (by decide) (by decide) #[.int .i64 oa, .int .i64 ob, .int .i64 (CM : Int)])
    have KZ := hid ((K1.out.trans KA.out).setRowNew (X := X3 + 1) (Nat.le_trans hwX.out (Nat.le_add_right _ _)) #[.int .i64 oa, .int .i64 ob, .int .i64 (CM : Int)])
    have BZ := hid (below_setRow BX.out (X3 + 1) #[.int .i64 oa, .int .i64 ob, .int .i64 (CM : Int)] (Nat.le_trans hw0X.out (Nat.le_add_right _ _)))
    go_upto_region 6 with fail
    go_wp2_with (refine wpList_store_row rfl 34 (.tmp 4) (.tmp 26) rfl (X3 + 1) #[.int .i64 oa, .int .i64 ob, .int .i64 (CM : Int)] rfl rfl _ _ RZ.out (by kernel_rfl) rfl (by simp [Value.oneCell']) ?_)
    try simp only [Exit.inBlock, Exit.then]
    refine bodyPost_ret (v := .agg #[.int .i64 oa, .int .i64 ob, .int .i64 (CM : Int)]) ?_ rfl ⟨by rw [HR.out], by rw [HR.out]; exact ⟨_, _, _, PZ.out⟩, KZ.out, BZ.out⟩
    exact results_cell_row Try.results17 _ _ (X3 + 1) _ _ _ _ rfl (RZ.out.setRow _) Try.underlying34 rfl (by kernel_rfl)
end Go.Proofs.Ytmhkelfmciepaaa
