import Derived.Test.YtmhkelfmciepaaaGrI7
namespace Go.Proofs.Ytmhkelfmciepaaa
open Go.RowKit
set_option linter.unusedVariables false
/-! The program's elect (by gengri3.py). -/
theorem GpL.asideR {w : World} {B gb N : Nat} {s : Gst} {pb : Nat → Nat} {la : Nat → Option Addr} {lc mb : Nat → Nat} (h : GpL w B gb N s pb la lc mb) {X : Nat} {t : TypeId} {cs : Array Value} (hX : RowAt w X t cs) (t1 : 63 ≠ t) (t2 : 65 ≠ t) (t3 : 46 ≠ t) (t4 : 2 ≠ t) (c : Array Value) : GpL (w.setRow X c) B gb N s pb la lc mb := by
  refine h.rows fun g t' ds hr ho => hr.otherRow _ _ ?_
  rcases ho with rfl | rfl | rfl | rfl
  · exact row_apart hr hX t1
  · exact row_apart hr hX t2
  · exact row_apart hr hX t3
  · exact row_apart hr hX t4
theorem Kq.setRowNew {w W : World} (h : Kq w W) {X : Nat} (hX : w.heap.size ≤ X) (c : Array Value) : Kq w (W.setRow X c) :=
  ⟨by rw [setRow_size]; exact h.size, fun g t cs x y z r => (h.row g t cs x y z r).otherRow _ _ (by have := r.lt; omega)⟩
theorem Kq.grownP {w W W' : World} {B gb N : Nat} {s : Gst} {pb : Nat → Nat} {la : Nat → Option Addr} {lc mb : Nat → Nat} (h : Kq w W) (g : GpL W B gb N s pb la lc mb) {k : Nat} (hk : k < N) (hg : W.grownBy W' (some (pb k))) : Kq w W' :=
  h.grownM hg fun x e => by cases e; exact .inr ⟨_, _, g.mem k hk, .inl rfl⟩
theorem gGath_le (k : Nat) : ∀ (pe : List Int) (A : Nat → Bool) (s : Gst) (v : Nat), (gGath k pe A s v).2 ≤ v + pe.length
  | [], _, _, _ => Nat.le_refl _
  | p :: r, A, s, v => by
    unfold gGath
    split
    · have := gGath_le k r A s v
      simp only [List.length_cons]
      omega
    · have := gGath_le k r (gAsked A p.toNat) (putM s p.toNat (gVote (s k) k (s p.toNat))) (v + (gWill (s k) k (gLate (s k) (s p.toNat))).toNat)
      have h2 : (gWill (s k) k (gLate (s k) (s p.toNat))).toNat ≤ 1 := by cases gWill (s k) k (gLate (s k) (s p.toNat)) <;> decide
      simp only [List.length_cons]
      omega
set_option maxRecDepth 20000 in
set_option maxHeartbeats 4000000 in
theorem iElect (w0 : World) (gb N k : Nat) (hN : N ≤ 9) (hk : k < N) (s : Gst) (pb : Nat → Nat) (la : Nat → Option Addr) (lc mb : Nat → Nat) (hT : ∀ j, j < N → 0 ≤ (s j).tm ∧ (s j).tm ≤ 1000000 ∧ (s j).lg.length ≤ 500) (kd mbr dt : Int) (pa : Option Addr) (pc : Nat) (pe : List Int) (tx : ByteArray) (hpl : pe.length ≤ 1048576) (hp : Ints .i64 w0 pa pe.length pc pe) (w : World) (h : GpL w w0.heap.size gb N s pb la lc mb) (hb : Below w0.heap.size w0 w) :
    Calls Try.prog 29 #[.pointer (some ⟨pb k, 0, none⟩), .agg #[.int .i64 kd, .int .i64 mbr, .int .i64 dt, .slice pa pe.length pc, .string tx]] w fun e w' => e = .returned (gv (gElect N s k pe).2) ∧ GpL w' w0.heap.size gb N (gElect N s k pe).1 pb la lc mb ∧ Kq w w' ∧ Below w0.heap.size w0 w' := by
  obtain ⟨GG, hGG⟩ : ∃ G, G = gElect N s k pe := ⟨_, rfl⟩
  rw [← hGG]
  have HGG := hid hGG
  have HP := hid hp
  have HT := hid hT
  obtain ⟨X3, hX3⟩ : ∃ X, X = w.heap.size := ⟨_, rfl⟩
  obtain ⟨W1, hW1⟩ : ∃ W, W = (w.alloc (.cells #[.int .i64 kd, .int .i64 mbr, .int .i64 dt, .slice pa pe.length pc, .string tx] 42)).alloc (.cells #[.int .i64 0, .int .i64 0, .int .i64 0] 34) := ⟨_, rfl⟩
  have b1 : Below w.heap.size w W1 := by rw [hW1]; exact ((Below.refl _ _).alloc (Nat.le_refl _) _).alloc (by simp) _
  have P1 : Hid (RowAt W1 X3 42 #[.int .i64 kd, .int .i64 mbr, .int .i64 dt, .slice pa pe.length pc, .string tx]) := by rw [hW1, hX3]; exact (RowAt.new _ _ _).alloc _
  have R1 : Hid (RowAt W1 (X3 + 1) 34 #[.int .i64 0, .int .i64 0, .int .i64 0]) := by rw [hW1, hX3]; exact RowAt.next _ _ _ (by simp only [size_al])
  have G1 := hid (h.below b1)
  have K1 : Hid (Kq w W1) := (Kq.refl w).below b1
  have B1 := hid (hb.trans (b1.mono hb.size))
  have hwX : Hid (w.heap.size ≤ X3) := by rw [hX3]; exact Nat.le_refl _
  have hw0X : Hid (w0.heap.size ≤ X3) := by rw [hX3]; exact hb.size
  have HX3 := hid hX3
  have HW1 := hid hW1
  obtain ⟨TK, hTK⟩ : ∃ t, t = (s k).tm := ⟨_, rfl⟩
  obtain ⟨tk0, tk1, lk⟩ := hT k hk
  rw [← hTK] at tk0 tk1
  have HTK := hid hTK
  clear hX3 hW1 hGG hp hT h hb b1 hTK
  have m7 : W1.cell? ⟨pb k, 7, none⟩ = some (.slice (some ⟨gb, 0, none⟩) N N) := (G1.out.mem k hk).cell 7
  have p3 : W1.cell? ⟨X3, 3, none⟩ = some (.slice pa pe.length pc) := P1.out.cell 3
  have HPB : Hid (∀ wx, Below w0.heap.size w0 wx → Ints .i64 wx pa pe.length pc pe) := fun wx hx => HP.out.below hx
  have KC := fun x => hid (iContL pa pe.length pc pe hpl gb N (W1.drewN x) (HPB.out _ (below_drewN' B1.out x)))
  go_enter Try.func29, Try.ntmps29
  go_upto_region 1 with fail
  rw [← HW1.out, ← HX3.out]
  clear HW1 HX3
  go_quiet ((go_at_call 34; exact Calls.quiet_of_same (KC _).out))
  obtain ⟨W2, hW2⟩ : ∃ W, W = W1.drewN nq := ⟨_, rfl⟩
  have b2 : Below W1.heap.size W1 W2 := by rw [hW2]; exact below_drewN' (Below.refl _ _) nq
  have GX := hid (G1.out.below b2)
  have KA : Hid (Kq W1 W2) := (Kq.refl W1).below b2
  have BX := hid (B1.out.trans (b2.mono B1.out.size))
  rw [← hW2]
  clear hW2 b2 nq m7 p3 KC
  cases hPA : pe.all (gIn N) with
  | false =>
    have HR : Hid (GG = (s, ⟨1, 0, 0⟩)) := hid (by rw [HGG.out]; unfold gElect; rw [hPA]; rfl)
    have RZ := hid (KA.out.row _ _ _ (by decide) (by decide) (by decide) R1.out)
    have PZ := hid (GX.out.asideR RZ.out (by decide) (by decide) (by decide) (by decide) #[.int .i64 1, .int .i64 0, .int .i64 0])
    have KZ := hid ((K1.out.trans KA.out).setRowNew (X := X3 + 1) (Nat.le_trans hwX.out (Nat.le_add_right _ _)) #[.int .i64 1, .int .i64 0, .int .i64 0])
    have BZ := hid (below_setRow BX.out (X3 + 1) #[.int .i64 1, .int .i64 0, .int .i64 0] (Nat.le_trans hw0X.out (Nat.le_add_right _ _)))
    go_upto_region 2 with fail
    go_wp2_with (refine wpList_store_row rfl 34 (.tmp 4) (.tmp 14) rfl (X3 + 1) #[.int .i64 1, .int .i64 0, .int .i64 0] rfl rfl _ _ RZ.out (by kernel_rfl) rfl (by simp [Value.oneCell']) ?_)
    try simp only [Exit.inBlock, Exit.then]
    refine bodyPost_ret (v := .agg #[.int .i64 1, .int .i64 0, .int .i64 0]) ?_ rfl ⟨by rw [HR.out], by rw [HR.out]; exact PZ.out, KZ.out, BZ.out⟩
    exact results_cell_row Try.results29 _ _ (X3 + 1) _ _ _ _ rfl (RZ.out.setRow _) Try.underlying34 rfl (by kernel_rfl)
  | true =>
    have HPA := hid hPA
    clear hPA
    have c0 : W2.cell? ⟨pb k, 0, none⟩ = some (.int .i64 TK) := ((GX.out.mem k hk).cell 0).trans (by rw [HTK.out]; rfl)
    have KE := hid (iEnter w0.heap.size gb N k hk s pb la lc mb (TK + 1) W2 GX.out)
    go_upto_region 3 with fail
    go_wp2_with fail
    refine KE.out.mono ?_
    rintro e w3 ⟨rfl, h3, hg3⟩
    have KA3 := hid (KA.out.grownP GX.out hk hg3)
    have BX3 := hid (BX.out.grown hg3 BX.out.size (fun x hx => by cases hx; exact GX.out.mlo k hk))
    have GX3 := hid h3
    clear h3 hg3 KE KA BX GX c0 G1 B1
    have c1 : w3.cell? ⟨pb k, 1, none⟩ = some (.int .i64 (-1)) := ((GX3.out.mem k hk).cell 1).trans (by rw [putM_self]; rfl)
    have f1 := (GX3.out.mem k hk).free 1
    have c6 : w3.cell? ⟨pb k, 6, none⟩ = some (.int .i64 (k : Int)) := (GX3.out.mem k hk).cell 6
    obtain ⟨W4, hW4⟩ : ∃ W, W = w3.setCell ⟨pb k, 1, none⟩ (.int .i64 (k : Int)) := ⟨_, rfl⟩
    have GX : Hid (GpL W4 w0.heap.size gb N (gStart s k) pb la lc mb) := by
      have z := GX3.out.setVt hk (k : Int)
      rw [putM_self, putM_putM] at z
      unfold gStart
      rw [hW4, ← HTK.out]
      exact z
    have KA : Hid (Kq W1 W4) := by rw [hW4]; exact KA3.out.set (a := ⟨pb k, 1, none⟩) _ (GX3.out.mem k hk) (.inl rfl)
    have BX : Hid (Below w0.heap.size w0 W4) := by rw [hW4]; exact BX3.out.setCell (GX3.out.mlo k hk) _
    have HW4 := hid hW4
    clear hW4 GX3 KA3 BX3
    go_upto_region 5 with fail
    rw [← HW4.out]
    clear HW4 c1 f1 c6
    have p3 : W4.cell? ⟨X3, 3, none⟩ = some (.slice pa pe.length pc) := (KA.out.row _ _ _ (by decide) (by decide) (by decide) P1.out).cell 3
    have hlg : ∀ j, j < N → (gStart s k j).lg.length ≤ 500 := fun j hj => by
      unfold gStart putM
      split
      · exact lk
      · exact (HT.out j hj).2.2
    have KG := hid (iGather w0 gb N k hN hk (gStart s k) pb la lc mb hlg pa pc pe hpl HPA.out HP.out W4 GX.out BX.out)
    have RB := gGath_le k pe (fun j => decide (j = k)) (gStart s k) 1
    rcases hRG : gGath k pe (fun j => decide (j = k)) (gStart s k) 1 with ⟨RS, RV⟩
    rw [hRG] at KG RB
    dsimp only at KG RB
    have HE : Hid (∀ x y, (if N < 2 * RV then (putM RS k (gLead N k (RS k)), (⟨0, (RV : Int), 0⟩ : Gou)) else (RS, ⟨6, (RV : Int), 0⟩)) = (x, y) → GG = (x, y)) := fun x y hxy => by
      rw [HGG.out, ← hxy]
      unfold gElect
      rw [HPA.out, if_pos rfl, hRG]
    clear hRG hlg
    go_wp2_with fail
    refine KG.out.mono ?_
    rintro e w5 ⟨rfl, h5, hk5, hb5⟩
    have KA5 := hid (KA.out.trans hk5)
    clear KA GX BX p3 KG
    have GX := hid h5
    have KA := KA5
    have BX := hid hb5
    clear h5 hk5 hb5 KA5
    have m7 : w5.cell? ⟨pb k, 7, none⟩ = some (.slice (some ⟨gb, 0, none⟩) N N) := (GX.out.mem k hk).cell 7
    have KJ := hid (iMajor (some ⟨gb, 0, none⟩) N N RV (by omega) w5)
    by_cases hm : N < 2 * RV
    · have HR := hid (HE.out _ _ (if_pos hm))
      rw [decide_eq_true hm] at KJ
      go_wp2_with fail
      refine KJ.out.mono ?_
      rintro e w6 ⟨rfl, hw⟩
      obtain rfl := hw.symm
      clear hw KJ m7
      have KL := hid (iLead w0.heap.size gb N k hk RS pb la lc mb w5 GX.out)
      go_wp2_with fail
      refine KL.out.mono ?_
      rintro e w7 ⟨rfl, h7, hk7, hb7⟩
      have KA7 := hid (KA.out.trans hk7)
      have BX7 := hid (BX.out.trans hb7)
      clear KA GX BX KL
      have GX := hid h7
      have KA := KA7
      have BX := BX7
      clear h7 hk7 hb7 KA7 BX7
      have RZ := hid (KA.out.row _ _ _ (by decide) (by decide) (by decide) R1.out)
      have PZ := hid (GX.out.asideR RZ.out (by decide) (by decide) (by decide) (by decide) #[.int .i64 0, .int .i64 (RV : Int), .int .i64 0])
      have KZ := hid ((K1.out.trans KA.out).setRowNew (X := X3 + 1) (Nat.le_trans hwX.out (Nat.le_add_right _ _)) #[.int .i64 0, .int .i64 (RV : Int), .int .i64 0])
      have BZ := hid (below_setRow BX.out (X3 + 1) #[.int .i64 0, .int .i64 (RV : Int), .int .i64 0] (Nat.le_trans hw0X.out (Nat.le_add_right _ _)))
      go_upto_region 9 with fail
      go_wp2_with (refine wpList_store_row rfl 34 (.tmp 4) (.tmp 47) rfl (X3 + 1) #[.int .i64 0, .int .i64 (RV : Int), .int .i64 0] rfl rfl _ _ RZ.out (by kernel_rfl) rfl (by simp [Value.oneCell']) ?_)
      try simp only [Exit.inBlock, Exit.then]
      refine bodyPost_ret (v := .agg #[.int .i64 0, .int .i64 (RV : Int), .int .i64 0]) ?_ rfl ⟨by rw [HR.out], by rw [HR.out]; exact PZ.out, KZ.out, BZ.out⟩
      exact results_cell_row Try.results29 _ _ (X3 + 1) _ _ _ _ rfl (RZ.out.setRow _) Try.underlying34 rfl (by kernel_rfl)
    · have HR := hid (HE.out _ _ (if_neg hm))
      rw [decide_eq_false hm] at KJ
      go_wp2_with fail
      refine KJ.out.mono ?_
      rintro e w6 ⟨rfl, hw⟩
      obtain rfl := hw.symm
      clear hw KJ m7
      have RZ := hid (KA.out.row _ _ _ (by decide) (by decide) (by decide) R1.out)
      have PZ := hid (GX.out.asideR RZ.out (by decide) (by decide) (by decide) (by decide) #[.int .i64 6, .int .i64 (RV : Int), .int .i64 0])
      have KZ := hid ((K1.out.trans KA.out).setRowNew (X := X3 + 1) (Nat.le_trans hwX.out (Nat.le_add_right _ _)) #[.int .i64 6, .int .i64 (RV : Int), .int .i64 0])
      have BZ := hid (below_setRow BX.out (X3 + 1) #[.int .i64 6, .int .i64 (RV : Int), .int .i64 0] (Nat.le_trans hw0X.out (Nat.le_add_right _ _)))
      go_upto_region 7 with fail
      go_wp2_with (refine wpList_store_row rfl 34 (.tmp 4) (.tmp 43) rfl (X3 + 1) #[.int .i64 6, .int .i64 (RV : Int), .int .i64 0] rfl rfl _ _ RZ.out (by kernel_rfl) rfl (by simp [Value.oneCell']) ?_)
      try simp only [Exit.inBlock, Exit.then]
      refine bodyPost_ret (v := .agg #[.int .i64 6, .int .i64 (RV : Int), .int .i64 0]) ?_ rfl ⟨by rw [HR.out], by rw [HR.out]; exact PZ.out, KZ.out, BZ.out⟩
      exact results_cell_row Try.results29 _ _ (X3 + 1) _ _ _ _ rfl (RZ.out.setRow _) Try.underlying34 rfl (by kernel_rfl)
end Go.Proofs.Ytmhkelfmciepaaa
