import Derived.Test.YtmhkelfmciepaaaGrI14
namespace Go.Proofs.Ytmhkelfmciepaaa
open Go.RowKit
set_option linter.unusedVariables false
/-! The program's groupMember.do (by gengri7.py). -/
theorem mdo_end {w0 w W1 w7 : World} {gb N X : Nat} {GS : Gst} {pb : Nat → Nat} (R : RowAt w7 X 34 #[.int .i64 0, .int .i64 0, .int .i64 0]) (G : GpAt w7 w0.heap.size gb N GS pb) (K1 : Kq w W1) (K7 : Kq W1 w7) (B7 : Below w0.heap.size w0 w7) (hX : w.heap.size ≤ X) (hX0 : w0.heap.size ≤ X) (oa ob oc : Int) :
    RowAt (((w7.setCell ⟨X, 0, none⟩ (.int .i64 oa)).setCell ⟨X, 1, none⟩ (.int .i64 ob)).setCell ⟨X, 2, none⟩ (.int .i64 oc)) X 34 #[.int .i64 oa, .int .i64 ob, .int .i64 oc] ∧ GpAt (((w7.setCell ⟨X, 0, none⟩ (.int .i64 oa)).setCell ⟨X, 1, none⟩ (.int .i64 ob)).setCell ⟨X, 2, none⟩ (.int .i64 oc)) w0.heap.size gb N GS pb ∧ Kq w (((w7.setCell ⟨X, 0, none⟩ (.int .i64 oa)).setCell ⟨X, 1, none⟩ (.int .i64 ob)).setCell ⟨X, 2, none⟩ (.int .i64 oc)) ∧ Below w0.heap.size w0 (((w7.setCell ⟨X, 0, none⟩ (.int .i64 oa)).setCell ⟨X, 1, none⟩ (.int .i64 ob)).setCell ⟨X, 2, none⟩ (.int .i64 oc)) := by
  obtain ⟨la, lc, mb, g⟩ := G
  have r1 := R.set 0 (.int .i64 oa)
  have r2 := r1.set 1 (.int .i64 ob)
  refine ⟨r2.set 2 (.int .i64 oc), ⟨la, lc, mb, ?_⟩, ?_, ?_⟩
  · exact ((g.asideC R (by decide) (by decide) (by decide) (by decide) _ _).asideC r1 (by decide) (by decide) (by decide) (by decide) _ _).asideC r2 (by decide) (by decide) (by decide) (by decide) _ _
  · exact (((K1.trans K7).setNew _ hX).setNew _ hX).setNew _ hX
  · exact ((B7.setCell hX0 _).setCell hX0 _).setCell hX0 _
set_option maxRecDepth 20000 in
set_option maxHeartbeats 8000000 in
theorem iMDo (w0 : World) (gb N k : Nat) (hN : N ≤ 9) (hk : k < N) (s : Gst) (pb : Nat → Nat) (hT : ∀ j, j < N → 0 ≤ (s j).tm ∧ (s j).tm ≤ 1000000 ∧ (s j).lg.length ≤ 500) (kd mbr dt : Int) (pa : Option Addr) (pc : Nat) (pe : List Int) (tx : ByteArray) (hpl : pe.length ≤ 1048576) (htx : tx.size ≤ 1048576) (hp : Ints .i64 w0 pa pe.length pc pe) (w : World) (h : GpAt w w0.heap.size gb N s pb) (hb : Below w0.heap.size w0 w) :
    Calls Try.prog 24 #[.pointer (some ⟨pb k, 0, none⟩), .agg #[.int .i64 kd, .int .i64 mbr, .int .i64 dt, .slice pa pe.length pc, .string tx]] w fun e w' => e = .returned (gv (gDo N s k ⟨kd, mbr, dt, pe, tx⟩).2) ∧ GpAt w' w0.heap.size gb N (gDo N s k ⟨kd, mbr, dt, pe, tx⟩).1 pb ∧ Kq w w' ∧ Below w0.heap.size w0 w' := by
  obtain ⟨la, lc, mb, h⟩ := h
  obtain ⟨GG, hGG⟩ : ∃ G, G = gDo N s k ⟨kd, mbr, dt, pe, tx⟩ := ⟨_, rfl⟩
  rw [← hGG]
  have HGG := hid hGG
  have HP := hid hp
  have HT := hid hT
  obtain ⟨X3, hX3⟩ : ∃ X, X = w.heap.size := ⟨_, rfl⟩
  obtain ⟨W1, hW1⟩ : ∃ W, W = (w.alloc (.cells #[.int .i64 kd, .int .i64 mbr, .int .i64 dt, .slice pa pe.length pc, .string tx] 42)).alloc (.cells #[.int .i64 0, .int .i64 0, .int .i64 0] 34) := ⟨_, rfl⟩
  have b1 : Below w.heap.size w W1 := by rw [hW1]; exact ((Below.refl _ _).alloc (Nat.le_refl _) _).alloc (by simp) _
  have P1 : Hid (RowAt W1 X3 42 #[.int .i64 kd, .int .i64 mbr, .int .i64 dt, .slice pa pe.length pc, .string tx]) := by rw [hW1, hX3]; exact (RowAt.new _ _ _).alloc _
  have R1 : Hid (RowAt W1 (X3 + 1) 34 #[.int .i64 0, .int .i64 0, .int .i64 0]) := by rw [hW1, hX3]; exact RowAt.next _ _ _ (by simp only [size_al])
  have GX := hid (h.below b1)
  have K1 : Hid (Kq w W1) := (Kq.refl w).below b1
  have BX := hid (hb.trans (b1.mono hb.size))
  have KA : Hid (Kq W1 W1) := Kq.refl W1
  have hwX : Hid (w.heap.size ≤ X3) := by rw [hX3]; exact Nat.le_refl _
  have hw0X : Hid (w0.heap.size ≤ X3) := by rw [hX3]; exact hb.size
  have HX3 := hid hX3
  have HW1 := hid hW1
  have p0 : W1.cell? ⟨X3, 0, none⟩ = some (.int .i64 kd) := P1.out.cell 0
  have p1 : W1.cell? ⟨X3, 1, none⟩ = some (.int .i64 mbr) := P1.out.cell 1
  have p2 : W1.cell? ⟨X3, 2, none⟩ = some (.int .i64 dt) := P1.out.cell 2
  have p3 : W1.cell? ⟨X3, 3, none⟩ = some (.slice pa pe.length pc) := P1.out.cell 3
  have p4 : W1.cell? ⟨X3, 4, none⟩ = some (.string tx) := P1.out.cell 4
  clear hX3 hW1 hGG h hb b1 hT hp
  by_cases h1 : kd < 1
  · have d1 : decide (kd < 1) = true := decide_eq_true h1
    have HR : Hid (GG = (s, ⟨1, 0, 0⟩)) := hid (by rw [HGG.out]; unfold gDo; rw [if_neg (by show ¬ kd = 1; omega), if_neg (by show ¬ kd = 2; omega), if_neg (by show ¬ kd = 3; omega), if_neg (by show ¬ kd = 4; omega)])
    go_enter Try.func24, Try.ntmps24
    go_upto_region 1 with fail
    rw [← HW1.out, ← HX3.out]
    clear HW1 HX3
    have RZ := hid (KA.out.row _ _ _ (by decide) (by decide) (by decide) R1.out)
    have PZ := hid (GX.out.asideR RZ.out (by decide) (by decide) (by decide) (by decide) #[.int .i64 1, .int .i64 0, .int .i64 0])
    have KZ := hid ((K1.out.trans KA.out).setRowNew (X := X3 + 1) (Nat.le_trans hwX.out (Nat.le_add_right _ _)) #[.int .i64 1, .int .i64 0, .int .i64 0])
    have BZ := hid (below_setRow BX.out (X3 + 1) #[.int .i64 1, .int .i64 0, .int .i64 0] (Nat.le_trans hw0X.out (Nat.le_add_right _ _)))
    go_upto_region 2 with fail
    go_wp2_with (refine wpList_store_row rfl 34 (.tmp 4) (.tmp 14) rfl (X3 + 1) #[.int .i64 1, .int .i64 0, .int .i64 0] rfl rfl _ _ RZ.out (by kernel_rfl) rfl (by simp [Value.oneCell']) ?_)
    try simp only [Exit.inBlock, Exit.then]
    refine bodyPost_ret (v := .agg #[.int .i64 1, .int .i64 0, .int .i64 0]) ?_ rfl ⟨by rw [HR.out], by rw [HR.out]; exact ⟨_, _, _, PZ.out⟩, KZ.out, BZ.out⟩
    exact results_cell_row Try.results24 _ _ (X3 + 1) _ _ _ _ rfl (RZ.out.setRow _) Try.underlying34 rfl (by kernel_rfl)
  · have d1 : decide (kd < 1) = false := decide_eq_false h1
    by_cases h4 : 4 < kd
    · have d2 : decide (4 < kd) = true := decide_eq_true h4
      have HR : Hid (GG = (s, ⟨1, 0, 0⟩)) := hid (by rw [HGG.out]; unfold gDo; rw [if_neg (by show ¬ kd = 1; omega), if_neg (by show ¬ kd = 2; omega), if_neg (by show ¬ kd = 3; omega), if_neg (by show ¬ kd = 4; omega)])
      go_enter Try.func24, Try.ntmps24
      go_upto_region 1 with fail
      rw [← HW1.out, ← HX3.out]
      clear HW1 HX3
      have RZ := hid (KA.out.row _ _ _ (by decide) (by decide) (by decide) R1.out)
      have PZ := hid (GX.out.asideR RZ.out (by decide) (by decide) (by decide) (by decide) #[.int .i64 1, .int .i64 0, .int .i64 0])
      have KZ := hid ((K1.out.trans KA.out).setRowNew (X := X3 + 1) (Nat.le_trans hwX.out (Nat.le_add_right _ _)) #[.int .i64 1, .int .i64 0, .int .i64 0])
      have BZ := hid (below_setRow BX.out (X3 + 1) #[.int .i64 1, .int .i64 0, .int .i64 0] (Nat.le_trans hw0X.out (Nat.le_add_right _ _)))
      go_upto_region 2 with fail
      go_wp2_with (refine wpList_store_row rfl 34 (.tmp 4) (.tmp 14) rfl (X3 + 1) #[.int .i64 1, .int .i64 0, .int .i64 0] rfl rfl _ _ RZ.out (by kernel_rfl) rfl (by simp [Value.oneCell']) ?_)
      try simp only [Exit.inBlock, Exit.then]
      refine bodyPost_ret (v := .agg #[.int .i64 1, .int .i64 0, .int .i64 0]) ?_ rfl ⟨by rw [HR.out], by rw [HR.out]; exact ⟨_, _, _, PZ.out⟩, KZ.out, BZ.out⟩
      exact results_cell_row Try.results24 _ _ (X3 + 1) _ _ _ _ rfl (RZ.out.setRow _) Try.underlying34 rfl (by kernel_rfl)
    · have d2 : decide (4 < kd) = false := decide_eq_false h4
      rcases (by omega : kd = 1 ∨ kd = 2 ∨ kd = 3 ∨ kd = 4) with hkd | hkd | hkd | hkd
      · subst hkd
        clear h1 h4
        have EG : Hid (GG = gElect N s k pe) := hid (by rw [HGG.out]; rfl)
        obtain ⟨GS, ⟨oa, ob, oc⟩⟩ := GG
        have KD : Hid (∀ wx, Below W1.heap.size W1 wx → Calls Try.prog 29 #[.pointer (some ⟨pb k, 0, none⟩), .agg #[.int .i64 1, .int .i64 mbr, .int .i64 dt, .slice pa pe.length pc, .string tx]] wx fun e w' => e = .returned (.agg #[.int .i64 oa, .int .i64 ob, .int .i64 oc]) ∧ GpAt w' w0.heap.size gb N GS pb ∧ Kq W1 w' ∧ Below w0.heap.size w0 w') := fun wx hx => by
          have z := iElect w0 gb N k hN hk s pb la lc mb HT.out 1 mbr dt pa pc pe tx hpl HP.out wx (GX.out.below hx) (BX.out.trans (hx.mono BX.out.size))
          rw [← EG.out] at z
          exact z.mono fun e w' ⟨q1, q2, q3, q4⟩ => ⟨q1, ⟨_, _, _, q2⟩, ((Kq.refl W1).below hx).trans q3, q4⟩
        go_enter Try.func24, Try.ntmps24
        go_upto_region 1 with fail
        rw [← HW1.out, ← HX3.out]
        clear HW1 HX3
        obtain ⟨X5, hX5⟩ : ∃ X, X = W1.heap.size := ⟨_, rfl⟩
        obtain ⟨W2, hW2⟩ : ∃ W, W = W1.alloc (.cells #[.nilFunc, .nilFunc, .nilFunc, .nilFunc, .nilFunc] 68) := ⟨_, rfl⟩
        have R2 : Hid (RowAt W2 X5 68 #[.nilFunc, .nilFunc, .nilFunc, .nilFunc, .nilFunc]) := by rw [hW2, hX5]; exact RowAt.new _ _ _
        obtain ⟨W3, hW3⟩ : ∃ W, W = W2.setRow X5 #[.nilFunc, .func (.func 29) #[.pointer (some ⟨pb k, 0, none⟩)] #[], .func (.func 30) #[.pointer (some ⟨pb k, 0, none⟩)] #[], .func (.func 31) #[.pointer (some ⟨pb k, 0, none⟩)] #[], .func (.func 32) #[.pointer (some ⟨pb k, 0, none⟩)] #[]] := ⟨_, rfl⟩
        have R3 : Hid (RowAt W3 X5 68 #[.nilFunc, .func (.func 29) #[.pointer (some ⟨pb k, 0, none⟩)] #[], .func (.func 30) #[.pointer (some ⟨pb k, 0, none⟩)] #[], .func (.func 31) #[.pointer (some ⟨pb k, 0, none⟩)] #[], .func (.func 32) #[.pointer (some ⟨pb k, 0, none⟩)] #[]]) := by rw [hW3]; exact R2.out.setRow _
        have b3 : Hid (Below W1.heap.size W1 W3) := by rw [hW3, hW2]; exact below_setRow ((Below.refl _ _).alloc (Nat.le_refl _) _) _ _ (by rw [hX5]; exact Nat.le_refl _)
        have P3 := hid (P1.out.below b3.out P1.out.lt)
        have HW2 := hid hW2
        have HW3 := hid hW3
        have HX5 := hid hX5
        clear hX5 hW2 hW3
        go_upto_region 3 with fail
        go_wp2_with (first | (rw [← HW2.out, ← HX5.out]; refine wpList_store_row rfl 68 (.tmp 5) (.tmp 23) rfl X5 #[.nilFunc, .func (.func 29) #[.pointer (some ⟨pb k, 0, none⟩)] #[], .func (.func 30) #[.pointer (some ⟨pb k, 0, none⟩)] #[], .func (.func 31) #[.pointer (some ⟨pb k, 0, none⟩)] #[], .func (.func 32) #[.pointer (some ⟨pb k, 0, none⟩)] #[]] rfl rfl _ _ R2.out (by kernel_rfl) rfl (by simp [Value.oneCell']) ?_; rw [← HW3.out]))
        clear HW2 HW3 HX5 p0 p1 p2 p3 p4
        have p0 : W3.cell? ⟨X3, 0, none⟩ = some (.int .i64 1) := P3.out.cell 0
        have p1 : W3.cell? ⟨X3, 1, none⟩ = some (.int .i64 mbr) := P3.out.cell 1
        have p2 : W3.cell? ⟨X3, 2, none⟩ = some (.int .i64 dt) := P3.out.cell 2
        have p3 : W3.cell? ⟨X3, 3, none⟩ = some (.slice pa pe.length pc) := P3.out.cell 3
        have p4 : W3.cell? ⟨X3, 4, none⟩ = some (.string tx) := P3.out.cell 4
        have a5 : W3.cell? ⟨X5, 1, none⟩ = some (.func (.func 29) #[.pointer (some ⟨pb k, 0, none⟩)] #[]) := R3.out.cell 1
        try simp only [Act.put]
        go_region_law (go_simp; go_at_call 29; refine (KD.out _ (by first | exact b3.out.drew | exact b3.out)).mono ?_; rintro e w7 ⟨rfl, hG7, hK7, hB7⟩; have R7 := hid (hK7.row _ _ _ (by decide) (by decide) (by decide) R1.out); have y0 : w7.cell? ⟨X3 + 1, 0, none⟩ = some (.int .i64 0) := R7.out.cell 0; have y1 : w7.cell? ⟨X3 + 1, 1, none⟩ = some (.int .i64 0) := R7.out.cell 1; have y2 : w7.cell? ⟨X3 + 1, 2, none⟩ = some (.int .i64 0) := R7.out.cell 2; have f0 := R7.out.free 0; have f1 := R7.out.free 1; have f2 := R7.out.free 2; have G7 := hid hG7; have K7 := hid hK7; have B7 := hid hB7; clear hG7 hK7 hB7; dsimp only)
        all_goals have Z := hid (mdo_end R7.out G7.out K1.out K7.out B7.out (Nat.le_trans hwX.out (Nat.le_add_right _ _)) (Nat.le_trans hw0X.out (Nat.le_add_right _ _)) oa ob oc)
        all_goals clear y0 y1 y2 f0 f1 f2
        all_goals go_wp2
        all_goals refine bodyPost_ret (v := .agg #[.int .i64 oa, .int .i64 ob, .int .i64 oc]) ?_ rfl ⟨rfl, Z.out.2.1, Z.out.2.2.1, Z.out.2.2.2⟩
        all_goals exact results_cell_row Try.results24 _ _ (X3 + 1) _ _ _ _ rfl Z.out.1 Try.underlying34 rfl (by kernel_rfl)
      · subst hkd
        clear h1 h4
        have EG : Hid (GG = gProp N s k tx) := hid (by rw [HGG.out]; rfl)
        obtain ⟨GS, ⟨oa, ob, oc⟩⟩ := GG
        have KD : Hid (∀ wx, Below W1.heap.size W1 wx → Calls Try.prog 30 #[.pointer (some ⟨pb k, 0, none⟩), .agg #[.int .i64 2, .int .i64 mbr, .int .i64 dt, .slice pa pe.length pc, .string tx]] wx fun e w' => e = .returned (.agg #[.int .i64 oa, .int .i64 ob, .int .i64 oc]) ∧ GpAt w' w0.heap.size gb N GS pb ∧ Kq W1 w' ∧ Below w0.heap.size w0 w') := fun wx hx => by
          have z := iProp w0 gb N k hN hk s pb la lc mb (HT.out k hk).2.2 2 mbr dt pa pc pe tx htx wx (GX.out.below hx) (BX.out.trans (hx.mono BX.out.size))
          rw [← EG.out] at z
          exact z.mono fun e w' ⟨q1, q2, q3, q4⟩ => ⟨q1, q2, ((Kq.refl W1).below hx).trans q3, q4⟩
        go_enter Try.func24, Try.ntmps24
        go_upto_region 1 with fail
        rw [← HW1.out, ← HX3.out]
        clear HW1 HX3
        obtain ⟨X5, hX5⟩ : ∃ X, X = W1.heap.size := ⟨_, rfl⟩
        obtain ⟨W2, hW2⟩ : ∃ W, W = W1.alloc (.cells #[.nilFunc, .nilFunc, .nilFunc, .nilFunc, .nilFunc] 68) := ⟨_, rfl⟩
        have R2 : Hid (RowAt W2 X5 68 #[.nilFunc, .nilFunc, .nilFunc, .nilFunc, .nilFunc]) := by rw [hW2, hX5]; exact RowAt.new _ _ _
        obtain ⟨W3, hW3⟩ : ∃ W, W = W2.setRow X5 #[.nilFunc, .func (.func 29) #[.pointer (some ⟨pb k, 0, none⟩)] #[], .func (.func 30) #[.pointer (some ⟨pb k, 0, none⟩)] #[], .func (.func 31) #[.pointer (some ⟨pb k, 0, none⟩)] #[], .func (.func 32) #[.pointer (some ⟨pb k, 0, none⟩)] #[]] := ⟨_, rfl⟩
        have R3 : Hid (RowAt W3 X5 68 #[.nilFunc, .func (.func 29) #[.pointer (some ⟨pb k, 0, none⟩)] #[], .func (.func 30) #[.pointer (some ⟨pb k, 0, none⟩)] #[], .func (.func 31) #[.pointer (some ⟨pb k, 0, none⟩)] #[], .func (.func 32) #[.pointer (some ⟨pb k, 0, none⟩)] #[]]) := by rw [hW3]; exact R2.out.setRow _
        have b3 : Hid (Below W1.heap.size W1 W3) := by rw [hW3, hW2]; exact below_setRow ((Below.refl _ _).alloc (Nat.le_refl _) _) _ _ (by rw [hX5]; exact Nat.le_refl _)
        have P3 := hid (P1.out.below b3.out P1.out.lt)
        have HW2 := hid hW2
        have HW3 := hid hW3
        have HX5 := hid hX5
        clear hX5 hW2 hW3
        go_upto_region 3 with fail
        go_wp2_with (first | (rw [← HW2.out, ← HX5.out]; refine wpList_store_row rfl 68 (.tmp 5) (.tmp 23) rfl X5 #[.nilFunc, .func (.func 29) #[.pointer (some ⟨pb k, 0, none⟩)] #[], .func (.func 30) #[.pointer (some ⟨pb k, 0, none⟩)] #[], .func (.func 31) #[.pointer (some ⟨pb k, 0, none⟩)] #[], .func (.func 32) #[.pointer (some ⟨pb k, 0, none⟩)] #[]] rfl rfl _ _ R2.out (by kernel_rfl) rfl (by simp [Value.oneCell']) ?_; rw [← HW3.out]))
        clear HW2 HW3 HX5 p0 p1 p2 p3 p4
        have p0 : W3.cell? ⟨X3, 0, none⟩ = some (.int .i64 2) := P3.out.cell 0
        have p1 : W3.cell? ⟨X3, 1, none⟩ = some (.int .i64 mbr) := P3.out.cell 1
        have p2 : W3.cell? ⟨X3, 2, none⟩ = some (.int .i64 dt) := P3.out.cell 2
        have p3 : W3.cell? ⟨X3, 3, none⟩ = some (.slice pa pe.length pc) := P3.out.cell 3
        have p4 : W3.cell? ⟨X3, 4, none⟩ = some (.string tx) := P3.out.cell 4
        have a5 : W3.cell? ⟨X5, 2, none⟩ = some (.func (.func 30) #[.pointer (some ⟨pb k, 0, none⟩)] #[]) := R3.out.cell 2
        try simp only [Act.put]
        go_region_law (go_simp; go_at_call 30; refine (KD.out _ (by first | exact b3.out.drew | exact b3.out)).mono ?_; rintro e w7 ⟨rfl, hG7, hK7, hB7⟩; have R7 := hid (hK7.row _ _ _ (by decide) (by decide) (by decide) R1.out); have y0 : w7.cell? ⟨X3 + 1, 0, none⟩ = some (.int .i64 0) := R7.out.cell 0; have y1 : w7.cell? ⟨X3 + 1, 1, none⟩ = some (.int .i64 0) := R7.out.cell 1; have y2 : w7.cell? ⟨X3 + 1, 2, none⟩ = some (.int .i64 0) := R7.out.cell 2; have f0 := R7.out.free 0; have f1 := R7.out.free 1; have f2 := R7.out.free 2; have G7 := hid hG7; have K7 := hid hK7; have B7 := hid hB7; clear hG7 hK7 hB7; dsimp only)
        all_goals have Z := hid (mdo_end R7.out G7.out K1.out K7.out B7.out (Nat.le_trans hwX.out (Nat.le_add_right _ _)) (Nat.le_trans hw0X.out (Nat.le_add_right _ _)) oa ob oc)
        all_goals clear y0 y1 y2 f0 f1 f2
        all_goals go_wp2
        all_goals refine bodyPost_ret (v := .agg #[.int .i64 oa, .int .i64 ob, .int .i64 oc]) ?_ rfl ⟨rfl, Z.out.2.1, Z.out.2.2.1, Z.out.2.2.2⟩
        all_goals exact results_cell_row Try.results24 _ _ (X3 + 1) _ _ _ _ rfl Z.out.1 Try.underlying34 rfl (by kernel_rfl)
      · subst hkd
        clear h1 h4
        have EG : Hid (GG = gCopy N s k dt) := hid (by rw [HGG.out]; rfl)
        obtain ⟨GS, ⟨oa, ob, oc⟩⟩ := GG
        have KD : Hid (∀ wx, Below W1.heap.size W1 wx → Calls Try.prog 31 #[.pointer (some ⟨pb k, 0, none⟩), .agg #[.int .i64 3, .int .i64 mbr, .int .i64 dt, .slice pa pe.length pc, .string tx]] wx fun e w' => e = .returned (.agg #[.int .i64 oa, .int .i64 ob, .int .i64 oc]) ∧ GpAt w' w0.heap.size gb N GS pb ∧ Kq W1 w' ∧ Below w0.heap.size w0 w') := fun wx hx => by
          have z := iCopyL w0 gb N k hN hk s pb la lc mb (fun j hj => (HT.out j hj).2.2) 3 mbr dt pa pc pe tx wx (GX.out.below hx) (BX.out.trans (hx.mono BX.out.size))
          rw [← EG.out] at z
          exact z.mono fun e w' ⟨q1, q2, q3, q4⟩ => ⟨q1, q2, ((Kq.refl W1).below hx).trans q3, q4⟩
        go_enter Try.func24, Try.ntmps24
        go_upto_region 1 with fail
        rw [← HW1.out, ← HX3.out]
        clear HW1 HX3
        obtain ⟨X5, hX5⟩ : ∃ X, X = W1.heap.size := ⟨_, rfl⟩
        obtain ⟨W2, hW2⟩ : ∃ W, W = W1.alloc (.cells #[.nilFunc, .nilFunc, .nilFunc, .nilFunc, .nilFunc] 68) := ⟨_, rfl⟩
        have R2 : Hid (RowAt W2 X5 68 #[.nilFunc, .nilFunc, .nilFunc, .nilFunc, .nilFunc]) := by rw [hW2, hX5]; exact RowAt.new _ _ _
        obtain ⟨W3, hW3⟩ : ∃ W, W = W2.setRow X5 #[.nilFunc, .func (.func 29) #[.pointer (some ⟨pb k, 0, none⟩)] #[], .func (.func 30) #[.pointer (some ⟨pb k, 0, none⟩)] #[], .func (.func 31) #[.pointer (some ⟨pb k, 0, none⟩)] #[], .func (.func 32) #[.pointer (some ⟨pb k, 0, none⟩)] #[]] := ⟨_, rfl⟩
        have R3 : Hid (RowAt W3 X5 68 #[.nilFunc, .func (.func 29) #[.pointer (some ⟨pb k, 0, none⟩)] #[], .func (.func 30) #[.pointer (some ⟨pb k, 0, none⟩)] #[], .func (.func 31) #[.pointer (some ⟨pb k, 0, none⟩)] #[], .func (.func 32) #[.pointer (some ⟨pb k, 0, none⟩)] #[]]) := by rw [hW3]; exact R2.out.setRow _
        have b3 : Hid (Below W1.heap.size W1 W3) := by rw [hW3, hW2]; exact below_setRow ((Below.refl _ _).alloc (Nat.le_refl _) _) _ _ (by rw [hX5]; exact Nat.le_refl _)
        have P3 := hid (P1.out.below b3.out P1.out.lt)
        have HW2 := hid hW2
        have HW3 := hid hW3
        have HX5 := hid hX5
        clear hX5 hW2 hW3
        go_upto_region 3 with fail
        go_wp2_with (first | (rw [← HW2.out, ← HX5.out]; refine wpList_store_row rfl 68 (.tmp 5) (.tmp 23) rfl X5 #[.nilFunc, .func (.func 29) #[.pointer (some ⟨pb k, 0, none⟩)] #[], .func (.func 30) #[.pointer (some ⟨pb k, 0, none⟩)] #[], .func (.func 31) #[.pointer (some ⟨pb k, 0, none⟩)] #[], .func (.func 32) #[.pointer (some ⟨pb k, 0, none⟩)] #[]] rfl rfl _ _ R2.out (by kernel_rfl) rfl (by simp [Value.oneCell']) ?_; rw [← HW3.out]))
        clear HW2 HW3 HX5 p0 p1 p2 p3 p4
        have p0 : W3.cell? ⟨X3, 0, none⟩ = some (.int .i64 3) := P3.out.cell 0
        have p1 : W3.cell? ⟨X3, 1, none⟩ = some (.int .i64 mbr) := P3.out.cell 1
        have p2 : W3.cell? ⟨X3, 2, none⟩ = some (.int .i64 dt) := P3.out.cell 2
        have p3 : W3.cell? ⟨X3, 3, none⟩ = some (.slice pa pe.length pc) := P3.out.cell 3
        have p4 : W3.cell? ⟨X3, 4, none⟩ = some (.string tx) := P3.out.cell 4
        have a5 : W3.cell? ⟨X5, 3, none⟩ = some (.func (.func 31) #[.pointer (some ⟨pb k, 0, none⟩)] #[]) := R3.out.cell 3
        try simp only [Act.put]
        go_region_law (go_simp; go_at_call 31; refine (KD.out _ (by first | exact b3.out.drew | exact b3.out)).mono ?_; rintro e w7 ⟨rfl, hG7, hK7, hB7⟩; have R7 := hid (hK7.row _ _ _ (by decide) (by decide) (by decide) R1.out); have y0 : w7.cell? ⟨X3 + 1, 0, none⟩ = some (.int .i64 0) := R7.out.cell 0; have y1 : w7.cell? ⟨X3 + 1, 1, none⟩ = some (.int .i64 0) := R7.out.cell 1; have y2 : w7.cell? ⟨X3 + 1, 2, none⟩ = some (.int .i64 0) := R7.out.cell 2; have f0 := R7.out.free 0; have f1 := R7.out.free 1; have f2 := R7.out.free 2; have G7 := hid hG7; have K7 := hid hK7; have B7 := hid hB7; clear hG7 hK7 hB7; dsimp only)
        all_goals have Z := hid (mdo_end R7.out G7.out K1.out K7.out B7.out (Nat.le_trans hwX.out (Nat.le_add_right _ _)) (Nat.le_trans hw0X.out (Nat.le_add_right _ _)) oa ob oc)
        all_goals clear y0 y1 y2 f0 f1 f2
        all_goals go_wp2
        all_goals refine bodyPost_ret (v := .agg #[.int .i64 oa, .int .i64 ob, .int .i64 oc]) ?_ rfl ⟨rfl, Z.out.2.1, Z.out.2.2.1, Z.out.2.2.2⟩
        all_goals exact results_cell_row Try.results24 _ _ (X3 + 1) _ _ _ _ rfl Z.out.1 Try.underlying34 rfl (by kernel_rfl)
      · subst hkd
        clear h1 h4
        have EG : Hid (GG = gCrash N s k) := hid (by rw [HGG.out]; rfl)
        obtain ⟨GS, ⟨oa, ob, oc⟩⟩ := GG
        have KD : Hid (∀ wx, Below W1.heap.size W1 wx → Calls Try.prog 32 #[.pointer (some ⟨pb k, 0, none⟩), .agg #[.int .i64 4, .int .i64 mbr, .int .i64 dt, .slice pa pe.length pc, .string tx]] wx fun e w' => e = .returned (.agg #[.int .i64 oa, .int .i64 ob, .int .i64 oc]) ∧ GpAt w' w0.heap.size gb N GS pb ∧ Kq W1 w' ∧ Below w0.heap.size w0 w') := fun wx hx => by
          have z := iCrash w0 gb N k hk s pb la lc mb 4 mbr dt pa pc pe tx wx (GX.out.below hx) (BX.out.trans (hx.mono BX.out.size))
          rw [← EG.out] at z
          exact z.mono fun e w' ⟨q1, q2, q3, q4⟩ => ⟨q1, ⟨_, _, _, q2⟩, ((Kq.refl W1).below hx).trans q3, q4⟩
        go_enter Try.func24, Try.ntmps24
        go_upto_region 1 with fail
        rw [← HW1.out, ← HX3.out]
        clear HW1 HX3
        obtain ⟨X5, hX5⟩ : ∃ X, X = W1.heap.size := ⟨_, rfl⟩
        obtain ⟨W2, hW2⟩ : ∃ W, W = W1.alloc (.cells #[.nilFunc, .nilFunc, .nilFunc, .nilFunc, .nilFunc] 68) := ⟨_, rfl⟩
        have R2 : Hid (RowAt W2 X5 68 #[.nilFunc, .nilFunc, .nilFunc, .nilFunc, .nilFunc]) := by rw [hW2, hX5]; exact RowAt.new _ _ _
        obtain ⟨W3, hW3⟩ : ∃ W, W = W2.setRow X5 #[.nilFunc, .func (.func 29) #[.pointer (some ⟨pb k, 0, none⟩)] #[], .func (.func 30) #[.pointer (some ⟨pb k, 0, none⟩)] #[], .func (.func 31) #[.pointer (some ⟨pb k, 0, none⟩)] #[], .func (.func 32) #[.pointer (some ⟨pb k, 0, none⟩)] #[]] := ⟨_, rfl⟩
        have R3 : Hid (RowAt W3 X5 68 #[.nilFunc, .func (.func 29) #[.pointer (some ⟨pb k, 0, none⟩)] #[], .func (.func 30) #[.pointer (some ⟨pb k, 0, none⟩)] #[], .func (.func 31) #[.pointer (some ⟨pb k, 0, none⟩)] #[], .func (.func 32) #[.pointer (some ⟨pb k, 0, none⟩)] #[]]) := by rw [hW3]; exact R2.out.setRow _
        have b3 : Hid (Below W1.heap.size W1 W3) := by rw [hW3, hW2]; exact below_setRow ((Below.refl _ _).alloc (Nat.le_refl _) _) _ _ (by rw [hX5]; exact Nat.le_refl _)
        have P3 := hid (P1.out.below b3.out P1.out.lt)
        have HW2 := hid hW2
        have HW3 := hid hW3
        have HX5 := hid hX5
        clear hX5 hW2 hW3
        go_upto_region 3 with fail
        go_wp2_with (first | (rw [← HW2.out, ← HX5.out]; refine wpList_store_row rfl 68 (.tmp 5) (.tmp 23) rfl X5 #[.nilFunc, .func (.func 29) #[.pointer (some ⟨pb k, 0, none⟩)] #[], .func (.func 30) #[.pointer (some ⟨pb k, 0, none⟩)] #[], .func (.func 31) #[.pointer (some ⟨pb k, 0, none⟩)] #[], .func (.func 32) #[.pointer (some ⟨pb k, 0, none⟩)] #[]] rfl rfl _ _ R2.out (by kernel_rfl) rfl (by simp [Value.oneCell']) ?_; rw [← HW3.out]))
        clear HW2 HW3 HX5 p0 p1 p2 p3 p4
        have p0 : W3.cell? ⟨X3, 0, none⟩ = some (.int .i64 4) := P3.out.cell 0
        have p1 : W3.cell? ⟨X3, 1, none⟩ = some (.int .i64 mbr) := P3.out.cell 1
        have p2 : W3.cell? ⟨X3, 2, none⟩ = some (.int .i64 dt) := P3.out.cell 2
        have p3 : W3.cell? ⟨X3, 3, none⟩ = some (.slice pa pe.length pc) := P3.out.cell 3
        have p4 : W3.cell? ⟨X3, 4, none⟩ = some (.string tx) := P3.out.cell 4
        have a5 : W3.cell? ⟨X5, 4, none⟩ = some (.func (.func 32) #[.pointer (some ⟨pb k, 0, none⟩)] #[]) := R3.out.cell 4
        try simp only [Act.put]
        go_region_law (go_simp; go_at_call 32; refine (KD.out _ (by first | exact b3.out.drew | exact b3.out)).mono ?_; rintro e w7 ⟨rfl, hG7, hK7, hB7⟩; have R7 := hid (hK7.row _ _ _ (by decide) (by decide) (by decide) R1.out); have y0 : w7.cell? ⟨X3 + 1, 0, none⟩ = some (.int .i64 0) := R7.out.cell 0; have y1 : w7.cell? ⟨X3 + 1, 1, none⟩ = some (.int .i64 0) := R7.out.cell 1; have y2 : w7.cell? ⟨X3 + 1, 2, none⟩ = some (.int .i64 0) := R7.out.cell 2; have f0 := R7.out.free 0; have f1 := R7.out.free 1; have f2 := R7.out.free 2; have G7 := hid hG7; have K7 := hid hK7; have B7 := hid hB7; clear hG7 hK7 hB7; dsimp only)
        all_goals have Z := hid (mdo_end R7.out G7.out K1.out K7.out B7.out (Nat.le_trans hwX.out (Nat.le_add_right _ _)) (Nat.le_trans hw0X.out (Nat.le_add_right _ _)) oa ob oc)
        all_goals clear y0 y1 y2 f0 f1 f2
        all_goals go_wp2
        all_goals refine bodyPost_ret (v := .agg #[.int .i64 oa, .int .i64 ob, .int .i64 oc]) ?_ rfl ⟨rfl, Z.out.2.1, Z.out.2.2.1, Z.out.2.2.2⟩
        all_goals exact results_cell_row Try.results24 _ _ (X3 + 1) _ _ _ _ rfl Z.out.1 Try.underlying34 rfl (by kernel_rfl)
end Go.Proofs.Ytmhkelfmciepaaa
