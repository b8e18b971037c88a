import Derived.Test.YtmhkelfmciepaaaGrI13
namespace Go.Proofs.Ytmhkelfmciepaaa
open Go.RowKit
set_option linter.unusedVariables false
/-! The program's copyLog (by gengri6.py). -/
theorem putM_swap (s : Gst) {t k : Nat} (h : t ≠ k) (A L A2 : Mb) : putM (putM (putM s t A) k L) t A2 = putM (putM s k L) t A2 := by
  funext j
  unfold putM
  split
  · rfl
  · split
    · rfl
    · rfl
set_option maxRecDepth 20000 in
set_option maxHeartbeats 8000000 in
theorem iCopyL (w0 : World) (gb N k : Nat) (hN : N ≤ 9) (hk : k < N) (s : Gst) (pb : Nat → Nat) (la : Nat → Option Addr) (lc mb : Nat → Nat) (hT : ∀ j, j < N → (s j).lg.length ≤ 500) (kd mbr dt : Int) (pa : Option Addr) (pc : Nat) (pe : List Int) (tx : ByteArray) (w : World) (h : GpL w w0.heap.size gb N s pb la lc mb) (hb : Below w0.heap.size w0 w) :
    Calls Try.prog 31 #[.pointer (some ⟨pb k, 0, none⟩), .agg #[.int .i64 kd, .int .i64 mbr, .int .i64 dt, .slice pa pe.length pc, .string tx]] w fun e w' => e = .returned (gv (gCopy N s k dt).2) ∧ GpAt w' w0.heap.size gb N (gCopy N s k dt).1 pb ∧ Kq w w' ∧ Below w0.heap.size w0 w' := by
  obtain ⟨GG, hGG⟩ : ∃ G, G = gCopy N s k dt := ⟨_, rfl⟩
  rw [← hGG]
  have HGG := hid hGG
  obtain ⟨X3, hX3⟩ : ∃ X, X = w.heap.size := ⟨_, rfl⟩
  obtain ⟨W1, hW1⟩ : ∃ W, W = (w.alloc (.cells #[.int .i64 kd, .int .i64 mbr, .int .i64 dt, .slice pa pe.length pc, .string tx] 42)).alloc (.cells #[.int .i64 0, .int .i64 0, .int .i64 0] 34) := ⟨_, rfl⟩
  have b1 : Below w.heap.size w W1 := by rw [hW1]; exact ((Below.refl _ _).alloc (Nat.le_refl _) _).alloc (by simp) _
  have P1 : Hid (RowAt W1 X3 42 #[.int .i64 kd, .int .i64 mbr, .int .i64 dt, .slice pa pe.length pc, .string tx]) := by rw [hW1, hX3]; exact (RowAt.new _ _ _).alloc _
  have R1 : Hid (RowAt W1 (X3 + 1) 34 #[.int .i64 0, .int .i64 0, .int .i64 0]) := by rw [hW1, hX3]; exact RowAt.next _ _ _ (by simp only [size_al])
  have GX := hid (h.below b1)
  have K1 : Hid (Kq w W1) := (Kq.refl w).below b1
  have BX := hid (hb.trans (b1.mono hb.size))
  have KA : Hid (Kq W1 W1) := Kq.refl W1
  have hwX : Hid (w.heap.size ≤ X3) := by rw [hX3]; exact Nat.le_refl _
  have hw0X : Hid (w0.heap.size ≤ X3) := by rw [hX3]; exact hb.size
  have HX3 := hid hX3
  have HW1 := hid hW1
  have HT := hid hT
  have m7 : W1.cell? ⟨pb k, 7, none⟩ = some (.slice (some ⟨gb, 0, none⟩) N N) := (GX.out.mem k hk).cell 7
  have m6 : W1.cell? ⟨pb k, 6, none⟩ = some (.int .i64 (k : Int)) := (GX.out.mem k hk).cell 6
  have p2 : W1.cell? ⟨X3, 2, none⟩ = some (.int .i64 dt) := P1.out.cell 2
  have KL := fun x => hid (iLacks (some ⟨gb, 0, none⟩) N N dt (W1.drewN x))
  obtain ⟨IN, hIN⟩ : ∃ b, b = gIn N dt := ⟨_, rfl⟩
  rw [← hIN] at KL
  have HIN := hid hIN
  clear hX3 hW1 hGG h hb b1 hT hIN
  go_enter Try.func31, Try.ntmps31
  go_upto_region 1 with fail
  rw [← HW1.out, ← HX3.out]
  clear HW1 HX3
  cases IN with
  | false =>
    have HR : Hid (GG = (s, ⟨1, 0, 0⟩)) := hid (by rw [HGG.out]; unfold gCopy; rw [if_pos (.inl HIN.out.symm)])
    go_quiet ((go_at_call 23; exact Calls.quiet_of_same (KL _).out))
    clear KL m7 m6 p2
    obtain ⟨W2, hW2⟩ : ∃ W, W = W1.drewN nq := ⟨_, rfl⟩
    have b9 : Below W1.heap.size W1 W2 := by rw [hW2]; exact below_drewN' (Below.refl _ _) nq
    have GXn := hid (GX.out.below b9)
    have KAn : Hid (Kq W1 W2) := KA.out.below b9
    have BXn := hid (BX.out.trans (b9.mono BX.out.size))
    rw [← hW2]
    clear hW2 b9 nq GX KA BX
    have GX := GXn
    have KA := KAn
    have BX := BXn
    clear GXn KAn BXn
    have RZ := hid (KA.out.row _ _ _ (by decide) (by decide) (by decide) R1.out)
    have PZ := hid (GX.out.asideR RZ.out (by decide) (by decide) (by decide) (by decide) #[.int .i64 1, .int .i64 0, .int .i64 0])
    have KZ := hid ((K1.out.trans KA.out).setRowNew (X := X3 + 1) (Nat.le_trans hwX.out (Nat.le_add_right _ _)) #[.int .i64 1, .int .i64 0, .int .i64 0])
    have BZ := hid (below_setRow BX.out (X3 + 1) #[.int .i64 1, .int .i64 0, .int .i64 0] (Nat.le_trans hw0X.out (Nat.le_add_right _ _)))
    go_upto_region 2 with fail
    go_wp2_with (refine wpList_store_row rfl 34 (.tmp 4) (.tmp 23) rfl (X3 + 1) #[.int .i64 1, .int .i64 0, .int .i64 0] rfl rfl _ _ RZ.out (by kernel_rfl) rfl (by simp [Value.oneCell']) ?_)
    try simp only [Exit.inBlock, Exit.then]
    refine bodyPost_ret (v := .agg #[.int .i64 1, .int .i64 0, .int .i64 0]) ?_ rfl ⟨by rw [HR.out], by rw [HR.out]; exact ⟨_, _, _, PZ.out⟩, KZ.out, BZ.out⟩
    exact results_cell_row Try.results31 _ _ (X3 + 1) _ _ _ _ rfl (RZ.out.setRow _) Try.underlying34 rfl (by kernel_rfl)
  | true =>
    by_cases hd : dt = (k : Int)
    · have d1 : (dt == (k : Int)) = true := by rw [beq_iff_eq]; exact hd
      have HR : Hid (GG = (s, ⟨1, 0, 0⟩)) := hid (by rw [HGG.out]; unfold gCopy; rw [if_pos (.inr hd)])
      clear hd
      go_quiet ((go_at_call 23; exact Calls.quiet_of_same (KL _).out))
      clear KL m7 m6 p2 d1
      obtain ⟨W2, hW2⟩ : ∃ W, W = W1.drewN nq := ⟨_, rfl⟩
      have b9 : Below W1.heap.size W1 W2 := by rw [hW2]; exact below_drewN' (Below.refl _ _) nq
      have GXn := hid (GX.out.below b9)
      have KAn : Hid (Kq W1 W2) := KA.out.below b9
      have BXn := hid (BX.out.trans (b9.mono BX.out.size))
      rw [← hW2]
      clear hW2 b9 nq GX KA BX
      have GX := GXn
      have KA := KAn
      have BX := BXn
      clear GXn KAn BXn
      have RZ := hid (KA.out.row _ _ _ (by decide) (by decide) (by decide) R1.out)
      have PZ := hid (GX.out.asideR RZ.out (by decide) (by decide) (by decide) (by decide) #[.int .i64 1, .int .i64 0, .int .i64 0])
      have KZ := hid ((K1.out.trans KA.out).setRowNew (X := X3 + 1) (Nat.le_trans hwX.out (Nat.le_add_right _ _)) #[.int .i64 1, .int .i64 0, .int .i64 0])
      have BZ := hid (below_setRow BX.out (X3 + 1) #[.int .i64 1, .int .i64 0, .int .i64 0] (Nat.le_trans hw0X.out (Nat.le_add_right _ _)))
      go_upto_region 2 with fail
      go_wp2_with (refine wpList_store_row rfl 34 (.tmp 4) (.tmp 23) rfl (X3 + 1) #[.int .i64 1, .int .i64 0, .int .i64 0] rfl rfl _ _ RZ.out (by kernel_rfl) rfl (by simp [Value.oneCell']) ?_)
      try simp only [Exit.inBlock, Exit.then]
      refine bodyPost_ret (v := .agg #[.int .i64 1, .int .i64 0, .int .i64 0]) ?_ rfl ⟨by rw [HR.out], by rw [HR.out]; exact ⟨_, _, _, PZ.out⟩, KZ.out, BZ.out⟩
      exact results_cell_row Try.results31 _ _ (X3 + 1) _ _ _ _ rfl (RZ.out.setRow _) Try.underlying34 rfl (by kernel_rfl)
    · have d1 : (dt == (k : Int)) = false := by rw [beq_eq_false_iff_ne]; exact hd
      have HC1 : Hid (¬ (gIn N dt = false ∨ dt = (k : Int))) := hid (fun q => by rcases q with q | q; · rw [← HIN.out] at q; cases q
                                                                                 · exact hd q)
      have hin : 0 ≤ dt ∧ dt < N := by have := HIN.out.symm; unfold gIn at this; simp at this; exact this
      obtain ⟨t, ht⟩ := Int.eq_ofNat_of_zero_le hin.1
      subst ht
      have tN : t < N := by omega
      have tk : t ≠ k := by omega
      have tI : (t : Int) < (N : Int) := by omega
      have t0 : (0 : Int) ≤ (t : Int) := by omega
      clear hd hin
      go_quiet ((go_at_call 23; exact Calls.quiet_of_same (KL _).out))
      clear KL m7 m6 p2 d1
      obtain ⟨W2, hW2⟩ : ∃ W, W = W1.drewN nq := ⟨_, rfl⟩
      have b9 : Below W1.heap.size W1 W2 := by rw [hW2]; exact below_drewN' (Below.refl _ _) nq
      have GXn := hid (GX.out.below b9)
      have KAn : Hid (Kq W1 W2) := KA.out.below b9
      have BXn := hid (BX.out.trans (b9.mono BX.out.size))
      rw [← hW2]
      clear hW2 b9 nq GX KA BX
      have GX := GXn
      have KA := KAn
      have BX := BXn
      clear GXn KAn BXn
      obtain ⟨LD, hLD⟩ : ∃ b, b = (s k).ld := ⟨_, rfl⟩
      have c2 : W2.cell? ⟨pb k, 2, none⟩ = some (.bool LD) := ((GX.out.mem k hk).cell 2).trans (by rw [hLD]; rfl)
      have HLD := hid hLD
      clear hLD
      cases LD with
      | false =>
        have HR : Hid (GG = (s, ⟨6, 0, 0⟩)) := hid (by rw [HGG.out]; unfold gCopy; rw [if_neg HC1.out, if_pos HLD.out.symm])
        have RZ := hid (KA.out.row _ _ _ (by decide) (by decide) (by decide) R1.out)
        have PZ := hid (GX.out.asideR RZ.out (by decide) (by decide) (by decide) (by decide) #[.int .i64 6, .int .i64 0, .int .i64 0])
        have KZ := hid ((K1.out.trans KA.out).setRowNew (X := X3 + 1) (Nat.le_trans hwX.out (Nat.le_add_right _ _)) #[.int .i64 6, .int .i64 0, .int .i64 0])
        have BZ := hid (below_setRow BX.out (X3 + 1) #[.int .i64 6, .int .i64 0, .int .i64 0] (Nat.le_trans hw0X.out (Nat.le_add_right _ _)))
        go_upto_region 4 with fail
        go_wp2_with (refine wpList_store_row rfl 34 (.tmp 4) (.tmp 31) rfl (X3 + 1) #[.int .i64 6, .int .i64 0, .int .i64 0] rfl rfl _ _ RZ.out (by kernel_rfl) rfl (by simp [Value.oneCell']) ?_)
        try simp only [Exit.inBlock, Exit.then]
        refine bodyPost_ret (v := .agg #[.int .i64 6, .int .i64 0, .int .i64 0]) ?_ rfl ⟨by rw [HR.out], by rw [HR.out]; exact ⟨_, _, _, PZ.out⟩, KZ.out, BZ.out⟩
        exact results_cell_row Try.results31 _ _ (X3 + 1) _ _ _ _ rfl (RZ.out.setRow _) Try.underlying34 rfl (by kernel_rfl)
      | true =>
        have HLD2 : Hid (¬ (s k).ld = false) := hid (by rw [← HLD.out]; decide)
        have m7 : W2.cell? ⟨pb k, 7, none⟩ = some (.slice (some ⟨gb, 0, none⟩) N N) := (GX.out.mem k hk).cell 7
        have p2 : W2.cell? ⟨X3, 2, none⟩ = some (.int .i64 (t : Int)) := (KA.out.row _ _ _ (by decide) (by decide) (by decide) P1.out).cell 2
        have mq : W2.cell? ⟨gb, t, none⟩ = some (.pointer (some ⟨pb t, 0, none⟩)) := (GX.out.all.cell t).trans (ptrs_at pb tN)
        go_upto_region 5 with fail
        clear c2
        go_quiet (fail)
        clear m7 p2 mq
        obtain ⟨W3, hW3⟩ : ∃ W, W = W2.drewN nq := ⟨_, rfl⟩
        have b9 : Below W2.heap.size W2 W3 := by rw [hW3]; exact below_drewN' (Below.refl _ _) nq
        have GXn := hid (GX.out.below b9)
        have KAn : Hid (Kq W1 W3) := KA.out.below b9
        have BXn := hid (BX.out.trans (b9.mono BX.out.size))
        rw [← hW3]
        clear hW3 b9 nq GX KA BX
        have GX := GXn
        have KA := KAn
        have BX := BXn
        clear GXn KAn BXn
        obtain ⟨TT, hTT⟩ : ∃ x, x = (s t).tm := ⟨_, rfl⟩
        obtain ⟨TK, hTK⟩ : ∃ x, x = (s k).tm := ⟨_, rfl⟩
        have a0 : W3.cell? ⟨pb t, 0, none⟩ = some (.int .i64 TT) := ((GX.out.mem t tN).cell 0).trans (by rw [hTT]; rfl)
        have b0 : W3.cell? ⟨pb k, 0, none⟩ = some (.int .i64 TK) := ((GX.out.mem k hk).cell 0).trans (by rw [hTK]; rfl)
        have HTT := hid hTT
        have HTK := hid hTK
        clear hTT hTK
        by_cases hlt : TK < TT
        · have d2 : decide (TK < TT) = true := decide_eq_true hlt
          have HR : Hid (GG = (putM s k { s k with tm := TT, vt := -1, ld := false }, ⟨13, 0, 0⟩)) := hid (by rw [HGG.out]; unfold gCopy; rw [if_neg HC1.out, if_neg HLD2.out, Int.toNat_natCast, if_pos (by rw [← HTT.out, ← HTK.out]; exact hlt), ← HTT.out])
          clear hlt
          go_upto_region 6 with fail
          go_quiet (fail)
          clear a0 b0
          obtain ⟨W4, hW4⟩ : ∃ W, W = W3.drewN nq := ⟨_, rfl⟩
          have b9 : Below W3.heap.size W3 W4 := by rw [hW4]; exact below_drewN' (Below.refl _ _) nq
          have GXn := hid (GX.out.below b9)
          have KAn : Hid (Kq W1 W4) := KA.out.below b9
          have BXn := hid (BX.out.trans (b9.mono BX.out.size))
          rw [← hW4]
          clear hW4 b9 nq GX KA BX
          have GX := GXn
          have KA := KAn
          have BX := BXn
          clear GXn KAn BXn
          have a0 : W4.cell? ⟨pb t, 0, none⟩ = some (.int .i64 TT) := ((GX.out.mem t tN).cell 0).trans (by rw [HTT.out]; rfl)
          have KE := hid (iEnter w0.heap.size gb N k hk s pb la lc mb TT W4 GX.out)
          go_upto_region 7 with fail
          go_wp2_with fail
          refine KE.out.mono ?_
          rintro e w5 ⟨rfl, h5, hg5⟩
          have KA5 := hid (KA.out.grownP GX.out hk hg5)
          have BX5 := hid (BX.out.grown hg5 BX.out.size (fun x hx => by cases hx; exact GX.out.mlo k hk))
          clear KA BX GX a0 KE hg5
          have GX := hid h5
          have KA := KA5
          have BX := BX5
          clear h5 KA5 BX5
          have RZ := hid (KA.out.row _ _ _ (by decide) (by decide) (by decide) R1.out)
          have PZ := hid (GX.out.asideR RZ.out (by decide) (by decide) (by decide) (by decide) #[.int .i64 13, .int .i64 0, .int .i64 0])
          have KZ := hid ((K1.out.trans KA.out).setRowNew (X := X3 + 1) (Nat.le_trans hwX.out (Nat.le_add_right _ _)) #[.int .i64 13, .int .i64 0, .int .i64 0])
          have BZ := hid (below_setRow BX.out (X3 + 1) #[.int .i64 13, .int .i64 0, .int .i64 0] (Nat.le_trans hw0X.out (Nat.le_add_right _ _)))
          go_upto_region 8 with fail
          go_wp2_with (refine wpList_store_row rfl 34 (.tmp 4) (.tmp 58) rfl (X3 + 1) #[.int .i64 13, .int .i64 0, .int .i64 0] rfl rfl _ _ RZ.out (by kernel_rfl) rfl (by simp [Value.oneCell']) ?_)
          try simp only [Exit.inBlock, Exit.then]
          refine bodyPost_ret (v := .agg #[.int .i64 13, .int .i64 0, .int .i64 0]) ?_ rfl ⟨by rw [HR.out], by rw [HR.out]; exact ⟨_, _, _, PZ.out⟩, KZ.out, BZ.out⟩
          exact results_cell_row Try.results31 _ _ (X3 + 1) _ _ _ _ rfl (RZ.out.setRow _) Try.underlying34 rfl (by kernel_rfl)
        · have d2 : decide (TK < TT) = false := decide_eq_false hlt
          have HLT : Hid (¬ (s k).tm < (s t).tm) := hid (by rw [← HTT.out, ← HTK.out]; exact hlt)
          clear hlt
          go_upto_region 6 with fail
          go_quiet (fail)
          clear a0 b0 d2
          obtain ⟨W4, hW4⟩ : ∃ W, W = W3.drewN nq := ⟨_, rfl⟩
          have b9 : Below W3.heap.size W3 W4 := by rw [hW4]; exact below_drewN' (Below.refl _ _) nq
          have GXn := hid (GX.out.below b9)
          have KAn : Hid (Kq W1 W4) := KA.out.below b9
          have BXn := hid (BX.out.trans (b9.mono BX.out.size))
          rw [← hW4]
          clear hW4 b9 nq GX KA BX
          have GX := GXn
          have KA := KAn
          have BX := BXn
          clear GXn KAn BXn
          have KT := hid (iTake w0.heap.size gb N t k tN hk tk s pb la lc mb (by have := HLT.out; omega) ⟨HT.out t tN, HT.out k hk⟩ W4 BX.out.size GX.out)
          obtain ⟨A1, hA1⟩ : ∃ A : Mb, A = { s t with tm := (s k).tm, vt := if (s t).tm < (s k).tm then -1 else (s t).vt, ld := false, lg := gNext (s t).lg (s k).lg } := ⟨_, rfl⟩
          rw [← hA1] at KT
          have HA1 := hid hA1
          clear hA1
          go_upto_region 9 with fail
          go_wp2_with fail
          refine KT.out.mono ?_
          rintro e w5 ⟨rfl, ⟨la5, lc5, mb5, h5⟩, hk5, hb5⟩
          have KA5 := hid (KA.out.trans hk5)
          have BX5 := hid (BX.out.trans hb5)
          clear KA BX GX KT hk5 hb5
          have GX := hid h5
          have KA := KA5
          have BX := BX5
          clear h5 KA5 BX5
          obtain ⟨LN, hLN⟩ : ∃ n, n = (s k).lg.length := ⟨_, rfl⟩
          have HLN := hid hLN
          have ek : Hid (putM s t A1 k = s k) := putM_ne _ _ _ (Ne.symm tk)
          have d4 : w5.cell? ⟨pb k, 4, none⟩ = some (.slice (la5 k) LN (lc5 k)) := ((GX.out.mem k hk).cell 4).trans (by rw [ek.out, hLN]; rfl)
          have d5 : w5.cell? ⟨pb k, 5, none⟩ = some (.slice (some ⟨mb5 k, 0, none⟩) N N) := (GX.out.mem k hk).cell 5
          have p2 : w5.cell? ⟨X3, 2, none⟩ = some (.int .i64 (t : Int)) := (KA.out.row _ _ _ (by decide) (by decide) (by decide) P1.out).cell 2
          have zr := (GX.out.mat k hk).1
          have zl := (GX.out.mat k hk).2.2
          have z6 : w5.cell? ⟨mb5 k, t, none⟩ = some (.int .i64 ((putM s t A1 k).mt.getD t 0)) := by rw [zr.cell t]; exact ints_at (by rw [zl]; exact tN)
          have f6 := zr.free t
          have hmB := (GX.out.mat k hk).2.1
          generalize (putM s t A1 k).mt.getD t 0 = old at z6
          obtain ⟨W6, hW6⟩ : ∃ W, W = (w5.setCell ⟨mb5 k, t, none⟩ (.int .i64 (LN : Int))).drew := ⟨_, rfl⟩
          have G6 : Hid (GpL W6 w0.heap.size gb N (putM (putM s t A1) k { s k with mt := (s k).mt.set t (LN : Int) }) pb la5 lc5 mb5) := by
            have q := GX.out.putMt hk t (LN : Int)
            rw [ek.out] at q
            rw [hW6]
            exact q.below (Below.refl _ _).drew
          have K6 : Hid (Kq W1 W6) := by rw [hW6]; exact (KA.out.set (a := ⟨mb5 k, t, none⟩) _ zr (.inr rfl)).drew
          have B6 : Hid (Below w0.heap.size w0 W6) := by rw [hW6]; exact (BX.out.setCell hmB _).drew
          have HW6 := hid hW6
          clear hW6 zr zl hmB hLN GX KA BX
          go_upto_region 10 with fail
          go_region
          rw [← HW6.out]
          clear HW6 d4 d5 p2 z6 f6
          obtain ⟨LE, hLE⟩ : ∃ A : Mb, A = gCount N { s k with mt := (s k).mt.set t (LN : Int) } := ⟨_, rfl⟩
          have KN := hid (iCount w0.heap.size gb N k hk hN _ pb la5 lc5 mb5 (by rw [putM_self]; exact HT.out k hk) W6 G6.out)
          rw [putM_self, putM_putM, ← hLE] at KN
          have HLE := hid hLE
          clear hLE
          go_upto_region 11 with fail
          go_wp2_with fail
          refine KN.out.mono ?_
          rintro e w7 ⟨rfl, h7, hg7⟩
          have G7 := hid h7
          have K7 := hid (K6.out.grownP G6.out hk hg7)
          have B7 := hid (B6.out.grown hg7 B6.out.size (fun x hx => by cases hx; exact G6.out.mlo k hk))
          clear h7 hg7 KN G6 K6 B6
          have et : Hid (putM (putM s t A1) k LE t = A1) := hid (by rw [putM_ne _ _ _ tk, putM_self])
          obtain ⟨CT, hCT⟩ : ∃ n, n = A1.cm := ⟨_, rfl⟩
          obtain ⟨CK, hCK⟩ : ∃ n, n = LE.cm := ⟨_, rfl⟩
          obtain ⟨LT, hLT⟩ : ∃ n, n = A1.lg.length := ⟨_, rfl⟩
          have c3 : w7.cell? ⟨pb t, 3, none⟩ = some (.int .i64 (CT : Int)) := ((G7.out.mem t tN).cell 3).trans (by rw [et.out, hCT]; rfl)
          have f3 := (G7.out.mem t tN).free 3
          have c4 : w7.cell? ⟨pb t, 4, none⟩ = some (.slice (la5 t) LT (lc5 t)) := ((G7.out.mem t tN).cell 4).trans (by rw [et.out, hLT]; rfl)
          have k3 : w7.cell? ⟨pb k, 3, none⟩ = some (.int .i64 (CK : Int)) := ((G7.out.mem k hk).cell 3).trans (by rw [putM_self, hCK]; rfl)
          have hmm : max (CT : Int) (min (CK : Int) (LT : Int)) = ((max CT (min CK LT) : Nat) : Int) := by omega
          obtain ⟨W8, hW8⟩ : ∃ W, W = (w7.setCell ⟨pb t, 3, none⟩ (.int .i64 ((max CT (min CK LT) : Nat) : Int))).drew := ⟨_, rfl⟩
          have GX : Hid (GpL W8 w0.heap.size gb N (putM (putM s k LE) t { A1 with cm := max CT (min CK LT) }) pb la5 lc5 mb5) := by
            have q := G7.out.setCm tN (max CT (min CK LT))
            rw [et.out, putM_swap s tk] at q
            rw [hW8]
            exact q.below (Below.refl _ _).drew
          have KA : Hid (Kq W1 W8) := by rw [hW8]; exact (K7.out.set (a := ⟨pb t, 3, none⟩) _ (G7.out.mem t tN) (.inl rfl)).drew
          have BX : Hid (Below w0.heap.size w0 W8) := by rw [hW8]; exact (B7.out.setCell (G7.out.mlo t tN) _).drew
          have HR : Hid (GG = (putM (putM s k LE) t { A1 with cm := max CT (min CK LT) }, ⟨0, 0, 0⟩)) := hid (by
            rw [HGG.out]
            unfold gCopy
            rw [if_neg HC1.out, if_neg HLD2.out, Int.toNat_natCast, if_neg (by have := HLT.out; omega), hCT, hCK, hLT, HLE.out, HA1.out, HLN.out])
          obtain ⟨CM, hCM⟩ : ∃ n, n = max CT (min CK LT) := ⟨_, rfl⟩
          rw [← hCM] at hmm hW8 GX HR
          have HW8 := hid hW8
          clear hW8 hCT hCK hLT hCM G7 K7 B7
          go_upto_region 12 with fail
          go_region
          try rw [hmm]
          rw [← HW8.out]
          clear HW8 c3 f3 c4 k3 hmm
          have RZ := hid (KA.out.row _ _ _ (by decide) (by decide) (by decide) R1.out)
          have PZ := hid (GX.out.asideR RZ.out (by decide) (by decide) (by decide) (by decide) #[.int .i64 0, .int .i64 0, .int .i64 0])
          have KZ := hid ((K1.out.trans KA.out).setRowNew (X := X3 + 1) (Nat.le_trans hwX.out (Nat.le_add_right _ _)) #[.int .i64 0, .int .i64 0, .int .i64 0])
          have BZ := hid (below_setRow BX.out (X3 + 1) #[.int .i64 0, .int .i64 0, .int .i64 0] (Nat.le_trans hw0X.out (Nat.le_add_right _ _)))
          go_upto_region 13 with fail
          go_wp2_with (refine wpList_store_row rfl 34 (.tmp 4) (.tmp 100) rfl (X3 + 1) #[.int .i64 0, .int .i64 0, .int .i64 0] rfl rfl _ _ RZ.out (by kernel_rfl) rfl (by simp [Value.oneCell']) ?_)
          try simp only [Exit.inBlock, Exit.then]
          refine bodyPost_ret (v := .agg #[.int .i64 0, .int .i64 0, .int .i64 0]) ?_ rfl ⟨by rw [HR.out], by rw [HR.out]; exact ⟨_, _, _, PZ.out⟩, KZ.out, BZ.out⟩
          exact results_cell_row Try.results31 _ _ (X3 + 1) _ _ _ _ rfl (RZ.out.setRow _) Try.underlying34 rfl (by kernel_rfl)
end Go.Proofs.Ytmhkelfmciepaaa
