import Derived.Test.YtmhkelfmciepaaaGrI11
namespace Go.Proofs.Ytmhkelfmciepaaa
open Go.RowKit
set_option linter.unusedVariables false
/-! The program's propose (by gengri5.py). -/
set_option maxRecDepth 20000 in
set_option maxHeartbeats 8000000 in
theorem iProp (w0 : World) (gb N k : Nat) (hN : N ≤ 9) (hk : k < N) (s : Gst) (pb : Nat → Nat) (la : Nat → Option Addr) (lc mb : Nat → Nat) (hT : (s k).lg.length ≤ 500) (kd mbr dt : Int) (pa : Option Addr) (pc : Nat) (pe : List Int) (tx : ByteArray) (htx : tx.size ≤ 1048576) (w : World) (h : GpL w w0.heap.size gb N s pb la lc mb) (hb : Below w0.heap.size w0 w) :
    Calls Try.prog 30 #[.pointer (some ⟨pb k, 0, none⟩), .agg #[.int .i64 kd, .int .i64 mbr, .int .i64 dt, .slice pa pe.length pc, .string tx]] w fun e w' => e = .returned (gv (gProp N s k tx).2) ∧ GpAt w' w0.heap.size gb N (gProp N s k tx).1 pb ∧ Kq w w' ∧ Below w0.heap.size w0 w' := by
  obtain ⟨GG, hGG⟩ : ∃ G, G = gProp N s k tx := ⟨_, rfl⟩
  rw [← hGG]
  have HGG := hid hGG
  obtain ⟨X3, hX3⟩ : ∃ X, X = w.heap.size := ⟨_, rfl⟩
  obtain ⟨W1, hW1⟩ : ∃ W, W = (w.alloc (.cells #[.int .i64 kd, .int .i64 mbr, .int .i64 dt, .slice pa pe.length pc, .string tx] 42)).alloc (.cells #[.int .i64 0, .int .i64 0, .int .i64 0] 34) := ⟨_, rfl⟩
  have b1 : Below w.heap.size w W1 := by rw [hW1]; exact ((Below.refl _ _).alloc (Nat.le_refl _) _).alloc (by simp) _
  have P1 : Hid (RowAt W1 X3 42 #[.int .i64 kd, .int .i64 mbr, .int .i64 dt, .slice pa pe.length pc, .string tx]) := by rw [hW1, hX3]; exact (RowAt.new _ _ _).alloc _
  have R1 : Hid (RowAt W1 (X3 + 1) 34 #[.int .i64 0, .int .i64 0, .int .i64 0]) := by rw [hW1, hX3]; exact RowAt.next _ _ _ (by simp only [size_al])
  have GX := hid (h.below b1)
  have K1 : Hid (Kq w W1) := (Kq.refl w).below b1
  have BX := hid (hb.trans (b1.mono hb.size))
  have KA : Hid (Kq W1 W1) := Kq.refl W1
  have hwX : Hid (w.heap.size ≤ X3) := by rw [hX3]; exact Nat.le_refl _
  have hw0X : Hid (w0.heap.size ≤ X3) := by rw [hX3]; exact hb.size
  have HX3 := hid hX3
  have HW1 := hid hW1
  obtain ⟨LD, hLD⟩ : ∃ b, b = (s k).ld := ⟨_, rfl⟩
  obtain ⟨TM, hTM⟩ : ∃ t, t = (s k).tm := ⟨_, rfl⟩
  obtain ⟨L, hL⟩ : ∃ l, l = (s k).lg := ⟨_, rfl⟩
  have r1 := GX.out.mem k hk
  have c2 : W1.cell? ⟨pb k, 2, none⟩ = some (.bool LD) := (r1.cell 2).trans (by rw [hLD]; rfl)
  have c4 : W1.cell? ⟨pb k, 4, none⟩ = some (.slice (la k) L.length (lc k)) := (r1.cell 4).trans (by rw [hL]; rfl)
  have c0 : W1.cell? ⟨pb k, 0, none⟩ = some (.int .i64 TM) := (r1.cell 0).trans (by rw [hTM]; rfl)
  have x4 : W1.cell? ⟨X3, 4, none⟩ = some (.string tx) := P1.out.cell 4
  have hLn : L.length ≤ 500 := by rw [hL]; exact hT
  have HLD := hid hLD
  have HTM := hid hTM
  have HL := hid hL
  clear hX3 hW1 hGG h hb b1 hLD hTM hL r1 hT
  cases LD with
  | false =>
    have HR : Hid (GG = (s, ⟨6, 0, 0⟩)) := hid (by rw [HGG.out]; unfold gProp; rw [if_pos HLD.out.symm])
    go_enter Try.func30, Try.ntmps30
    go_upto_region 1 with fail
    rw [← HW1.out, ← HX3.out]
    clear HW1 HX3
    have RZ := hid (KA.out.row _ _ _ (by decide) (by decide) (by decide) R1.out)
    have PZ := hid (GX.out.asideR RZ.out (by decide) (by decide) (by decide) (by decide) #[.int .i64 6, .int .i64 0, .int .i64 0])
    have KZ := hid ((K1.out.trans KA.out).setRowNew (X := X3 + 1) (Nat.le_trans hwX.out (Nat.le_add_right _ _)) #[.int .i64 6, .int .i64 0, .int .i64 0])
    have BZ := hid (below_setRow BX.out (X3 + 1) #[.int .i64 6, .int .i64 0, .int .i64 0] (Nat.le_trans hw0X.out (Nat.le_add_right _ _)))
    go_upto_region 2 with fail
    go_wp2_with (refine wpList_store_row rfl 34 (.tmp 4) (.tmp 12) rfl (X3 + 1) #[.int .i64 6, .int .i64 0, .int .i64 0] rfl rfl _ _ RZ.out (by kernel_rfl) rfl (by simp [Value.oneCell']) ?_)
    try simp only [Exit.inBlock, Exit.then]
    refine bodyPost_ret (v := .agg #[.int .i64 6, .int .i64 0, .int .i64 0]) ?_ rfl ⟨by rw [HR.out], by rw [HR.out]; exact ⟨_, _, _, PZ.out⟩, KZ.out, BZ.out⟩
    exact results_cell_row Try.results30 _ _ (X3 + 1) _ _ _ _ rfl (RZ.out.setRow _) Try.underlying34 rfl (by kernel_rfl)
  | true =>
    have HLD2 : Hid ((s k).ld ≠ false) := hid (by rw [← HLD.out]; decide)
    by_cases hfull : 500 ≤ L.length
    · have d1 : (500 : Int) ≤ (L.length : Int) := by omega
      have HR : Hid (GG = (s, ⟨7, 0, 0⟩)) := hid (by rw [HGG.out]; unfold gProp; rw [if_neg HLD2.out, if_pos (by rw [← HL.out]; exact hfull)])
      go_enter Try.func30, Try.ntmps30
      go_upto_region 1 with fail
      rw [← HW1.out, ← HX3.out]
      clear HW1 HX3
      have RZ := hid (KA.out.row _ _ _ (by decide) (by decide) (by decide) R1.out)
      have PZ := hid (GX.out.asideR RZ.out (by decide) (by decide) (by decide) (by decide) #[.int .i64 7, .int .i64 0, .int .i64 0])
      have KZ := hid ((K1.out.trans KA.out).setRowNew (X := X3 + 1) (Nat.le_trans hwX.out (Nat.le_add_right _ _)) #[.int .i64 7, .int .i64 0, .int .i64 0])
      have BZ := hid (below_setRow BX.out (X3 + 1) #[.int .i64 7, .int .i64 0, .int .i64 0] (Nat.le_trans hw0X.out (Nat.le_add_right _ _)))
      go_upto_region 4 with fail
      go_wp2_with (refine wpList_store_row rfl 34 (.tmp 4) (.tmp 21) rfl (X3 + 1) #[.int .i64 7, .int .i64 0, .int .i64 0] rfl rfl _ _ RZ.out (by kernel_rfl) rfl (by simp [Value.oneCell']) ?_)
      try simp only [Exit.inBlock, Exit.then]
      refine bodyPost_ret (v := .agg #[.int .i64 7, .int .i64 0, .int .i64 0]) ?_ rfl ⟨by rw [HR.out], by rw [HR.out]; exact ⟨_, _, _, PZ.out⟩, KZ.out, BZ.out⟩
      exact results_cell_row Try.results30 _ _ (X3 + 1) _ _ _ _ rfl (RZ.out.setRow _) Try.underlying34 rfl (by kernel_rfl)
    · have d1 : ¬ (500 : Int) ≤ (L.length : Int) := by omega
      by_cases hlong : 1000 < tx.size
      · have d2 : (1000 : Int) < (tx.size : Int) := by omega
        have HR : Hid (GG = (s, ⟨2, 0, 0⟩)) := hid (by rw [HGG.out]; unfold gProp; rw [if_neg HLD2.out, if_neg (by rw [← HL.out]; exact hfull), if_pos hlong])
        go_enter Try.func30, Try.ntmps30
        go_upto_region 1 with fail
        rw [← HW1.out, ← HX3.out]
        clear HW1 HX3
        have RZ := hid (KA.out.row _ _ _ (by decide) (by decide) (by decide) R1.out)
        have PZ := hid (GX.out.asideR RZ.out (by decide) (by decide) (by decide) (by decide) #[.int .i64 2, .int .i64 0, .int .i64 0])
        have KZ := hid ((K1.out.trans KA.out).setRowNew (X := X3 + 1) (Nat.le_trans hwX.out (Nat.le_add_right _ _)) #[.int .i64 2, .int .i64 0, .int .i64 0])
        have BZ := hid (below_setRow BX.out (X3 + 1) #[.int .i64 2, .int .i64 0, .int .i64 0] (Nat.le_trans hw0X.out (Nat.le_add_right _ _)))
        go_upto_region 6 with fail
        go_wp2_with (refine wpList_store_row rfl 34 (.tmp 4) (.tmp 27) rfl (X3 + 1) #[.int .i64 2, .int .i64 0, .int .i64 0] rfl rfl _ _ RZ.out (by kernel_rfl) rfl (by simp [Value.oneCell']) ?_)
        try simp only [Exit.inBlock, Exit.then]
        refine bodyPost_ret (v := .agg #[.int .i64 2, .int .i64 0, .int .i64 0]) ?_ rfl ⟨by rw [HR.out], by rw [HR.out]; exact ⟨_, _, _, PZ.out⟩, KZ.out, BZ.out⟩
        exact results_cell_row Try.results30 _ _ (X3 + 1) _ _ _ _ rfl (RZ.out.setRow _) Try.underlying34 rfl (by kernel_rfl)
      · have d2 : ¬ (1000 : Int) < (tx.size : Int) := by omega
        have HR : Hid (GG = (putM s k (gCount N { s k with lg := (s k).lg ++ [⟨(s k).tm, tx⟩], mt := (s k).mt.set k ((s k).lg.length + 1 : Nat) }), ⟨0, 0, 0⟩)) := hid (by rw [HGG.out]; unfold gProp; rw [if_neg HLD2.out, if_neg (by rw [← HL.out]; exact hfull), if_neg hlong])
        have KC := fun x => hid (clone_any tx x (by omega))
        have OW : Hid (OwnGe W1 w0.heap.size (.slice (la k) L.length (lc k)) L) := by rw [HL.out]; exact GX.out.log k hk
        have hBs := BX.out.size
        have HB := hid hBs
        clear hBs
        go_enter Try.func30, Try.ntmps30
        go_upto_region 1 with fail
        rw [← HW1.out, ← HX3.out]
        clear HW1 HX3
        go_upto_region 7 with fail
        clear c2
        go_cut [] from 28 to 47 (fun wx => ∃ la2 lc2, GpL wx w0.heap.size gb N (putM s k { s k with lg := (s k).lg ++ [⟨(s k).tm, tx⟩] }) pb la2 lc2 mb ∧ Kq W1 wx ∧ Below w0.heap.size w0 wx)
        case first =>
          go_region_law (first | (go_simp; go_at_call 39; refine (KC _).out.mono ?_; rintro e w5 ⟨rfl, hb5⟩; have b5 : Hid (Below W1.heap.size W1 w5) := (by first | exact hb5 | exact (Below.refl _ _).drew.trans hb5); have d4 := (b5.out.cell (p := ⟨pb k, 4, none⟩) (GX.out.mem k hk).lt).trans c4; have d0 := (b5.out.cell (p := ⟨pb k, 0, none⟩) (GX.out.mem k hk).lt).trans c0; have e4 : (w5.alloc (.cells #[.int .i64 TM, .string tx] 46)).cell? ⟨pb k, 4, none⟩ = some (.slice (la k) L.length (lc k)) := ((b5.out.alloc b5.out.size _).cell (p := ⟨pb k, 4, none⟩) (GX.out.mem k hk).lt).trans c4; clear hb5; dsimp only) | (refine step_append_ges w0.heap.size _ (by rfl) _ _ (by rfl) (.slice (la k) L.length (lc k)) L [⟨TM, tx⟩] (by rfl) (by first | exact (OW.out.keep fun g cs _ hr => hr.below b5.out hr.lt).alloc _ | exact World.ownsRow.drew ((OW.out.keep fun g cs _ hr => hr.below b5.out hr.lt).alloc _)) (by have h1 := HB.out; have h2 := b5.out.size; first | (simp; omega) | omega) _ 1 (by rfl) (by intro k9 hk9; have e9 : k9 = 0 := (by simp at hk9; exact hk9); subst e9; constructor <;> simp [Addr.add, geAt]) (Nat.succ_pos _) (by simp; omega) ?_; intro g7 c7 w7 hO7 hg7 hl7; have Z7 := hid (GpL.afterApp (n := 0) (M := L ++ [⟨TM, tx⟩]) GX.out hk HL.out (Nat.zero_le _) HB.out (by first | exact b5.out.alloc b5.out.size _ | exact (b5.out.alloc b5.out.size _).drew) (.slice (la k) L.length (lc k)) (by rw [HL.out]) (by rw [List.length_append]; exact hO7) hg7 hl7); have y1 := Z7.out.1; have y2 := Z7.out.2.1; clear hO7 hg7 hl7; dsimp only))
          all_goals go_wp2_with fail
          all_goals go_meet
          all_goals have z := Z7.out.2.2
          all_goals simp only [List.length_append, List.length_cons, List.length_nil, Nat.zero_add] at z
          all_goals rw [show L ++ [⟨TM, tx⟩] = (s k).lg ++ [⟨(s k).tm, tx⟩] by rw [HL.out, HTM.out]] at z
          all_goals exact ⟨_, _, z.1, z.2.1, BX.out.trans z.2.2⟩
        case rest =>
          obtain ⟨la2, lc2, hG8, hK8, hB8⟩ := hcut
          obtain ⟨W8, hW8⟩ : ∃ W, W = wc := ⟨_, rfl⟩
          rw [← hW8] at hG8 hK8 hB8 ⊢
          have G8 := hid hG8
          have K8 := hid hK8
          have B8 := hid hB8
          clear hG8 hK8 hB8 hW8 GX BX KA OW HB KC c0 c4 x4
          have d4 : W8.cell? ⟨pb k, 4, none⟩ = some (.slice (la2 k) (L.length + 1) (lc2 k)) := ((G8.out.mem k hk).cell 4).trans (by rw [putM_self, HL.out]; show some (Value.slice _ ((s k).lg ++ [_]).length _) = _; rw [List.length_append]; rfl)
          have d5 : W8.cell? ⟨pb k, 5, none⟩ = some (.slice (some ⟨mb k, 0, none⟩) N N) := (G8.out.mem k hk).cell 5
          have d6 : W8.cell? ⟨pb k, 6, none⟩ = some (.int .i64 (k : Int)) := (G8.out.mem k hk).cell 6
          have zr := (G8.out.mat k hk).1
          have zl := (G8.out.mat k hk).2.2
          have z6 : W8.cell? ⟨mb k, k, none⟩ = some (.int .i64 ((putM s k { s k with lg := (s k).lg ++ [⟨(s k).tm, tx⟩] } k).mt.getD k 0)) := by rw [zr.cell k]; exact ints_at (by rw [zl]; exact hk)
          have f6 := zr.free k
          have hmB := (G8.out.mat k hk).2.1
          obtain ⟨W9, hW9⟩ : ∃ W, W = (W8.setCell ⟨mb k, k, none⟩ (.int .i64 ((L.length : Int) + 1))).drew := ⟨_, rfl⟩
          have G9 : Hid (GpL W9 w0.heap.size gb N (putM s k { s k with lg := (s k).lg ++ [⟨(s k).tm, tx⟩], mt := (s k).mt.set k ((s k).lg.length + 1 : Nat) }) pb la2 lc2 mb) := by
            have q := G8.out.putMt hk k ((L.length : Int) + 1)
            rw [putM_self, putM_putM] at q
            rw [hW9, show (((s k).lg.length + 1 : Nat) : Int) = (L.length : Int) + 1 by rw [HL.out]; rfl]
            exact q.below (Below.refl _ _).drew
          have K9 : Hid (Kq W1 W9) := by rw [hW9]; exact (K8.out.set (a := ⟨mb k, k, none⟩) _ zr (.inr rfl)).drew
          have B9 : Hid (Below w0.heap.size w0 W9) := by rw [hW9]; exact (B8.out.setCell hmB _).drew
          have kN : (k : Int) < (N : Int) := by omega
          have k0 : (0 : Int) ≤ (k : Int) := by omega
          have HW9 := hid hW9
          generalize (putM s k { s k with lg := (s k).lg ++ [⟨(s k).tm, tx⟩] } k).mt.getD k 0 = old at z6
          clear hW9 zr zl hmB G8 K8 B8
          go_upto_region 8 with fail
          go_region
          rw [← HW9.out]
          clear HW9 d4 d5 d6 z6 f6
          have KN := hid (iCount w0.heap.size gb N k hk hN _ pb la2 lc2 mb (by rw [putM_self]; show ((s k).lg ++ [_]).length ≤ 500; rw [List.length_append, ← HL.out]; simp; omega) W9 G9.out)
          rw [putM_self, putM_putM] at KN
          go_upto_region 9 with fail
          go_wp2_with fail
          refine KN.out.mono ?_
          rintro e w10 ⟨rfl, h10, hg10⟩
          have GX := hid h10
          have KA := hid (K9.out.grownP G9.out hk hg10)
          have BX := hid (B9.out.grown hg10 B9.out.size (fun x hx => by cases hx; exact G9.out.mlo k hk))
          clear h10 hg10 KN G9 K9 B9
          have RZ := hid (KA.out.row _ _ _ (by decide) (by decide) (by decide) R1.out)
          have PZ := hid (GX.out.asideR RZ.out (by decide) (by decide) (by decide) (by decide) #[.int .i64 0, .int .i64 0, .int .i64 0])
          have KZ := hid ((K1.out.trans KA.out).setRowNew (X := X3 + 1) (Nat.le_trans hwX.out (Nat.le_add_right _ _)) #[.int .i64 0, .int .i64 0, .int .i64 0])
          have BZ := hid (below_setRow BX.out (X3 + 1) #[.int .i64 0, .int .i64 0, .int .i64 0] (Nat.le_trans hw0X.out (Nat.le_add_right _ _)))
          go_upto_region 10 with fail
          go_wp2_with (refine wpList_store_row rfl 34 (.tmp 4) (.tmp 66) rfl (X3 + 1) #[.int .i64 0, .int .i64 0, .int .i64 0] rfl rfl _ _ RZ.out (by kernel_rfl) rfl (by simp [Value.oneCell']) ?_)
          try simp only [Exit.inBlock, Exit.then]
          refine bodyPost_ret (v := .agg #[.int .i64 0, .int .i64 0, .int .i64 0]) ?_ rfl ⟨by rw [HR.out], by rw [HR.out]; exact ⟨_, _, _, PZ.out⟩, KZ.out, BZ.out⟩
          exact results_cell_row Try.results30 _ _ (X3 + 1) _ _ _ _ rfl (RZ.out.setRow _) Try.underlying34 rfl (by kernel_rfl)
end Go.Proofs.Ytmhkelfmciepaaa
