import Derived.Test.YtmhkelfmciepaaaGrI8
namespace Go.Proofs.Ytmhkelfmciepaaa
open Go.RowKit
set_option linter.unusedVariables false
/-! The program's crash and partingOf (by gengri4.py). -/
set_option maxRecDepth 20000 in
set_option maxHeartbeats 4000000 in
theorem iCrash (w0 : World) (gb N k : Nat) (hk : k < N) (s : Gst) (pb : Nat → Nat) (la : Nat → Option Addr) (lc mb : Nat → Nat) (kd mbr dt : Int) (pa : Option Addr) (pc : Nat) (pe : List Int) (tx : ByteArray) (w : World) (h : GpL w w0.heap.size gb N s pb la lc mb) (hb : Below w0.heap.size w0 w) :
    Calls Try.prog 32 #[.pointer (some ⟨pb k, 0, none⟩), .agg #[.int .i64 kd, .int .i64 mbr, .int .i64 dt, .slice pa pe.length pc, .string tx]] w fun e w' => e = .returned (gv (gCrash N s k).2) ∧ GpL w' w0.heap.size gb N (gCrash N s k).1 pb la lc mb ∧ Kq w w' ∧ Below w0.heap.size w0 w' := by
  obtain ⟨GG, hGG⟩ : ∃ G, G = gCrash N s k := ⟨_, rfl⟩
  rw [← hGG]
  have HR : Hid (GG = (putM s k { s k with ld := false, cm := 0, mt := List.replicate N 0 }, ⟨0, 0, 0⟩)) := hid (by rw [hGG]; rfl)
  obtain ⟨X3, hX3⟩ : ∃ X, X = w.heap.size := ⟨_, rfl⟩
  obtain ⟨W1, hW1⟩ : ∃ W, W = (w.alloc (.cells #[.int .i64 kd, .int .i64 mbr, .int .i64 dt, .slice pa pe.length pc, .string tx] 42)).alloc (.cells #[.int .i64 0, .int .i64 0, .int .i64 0] 34) := ⟨_, rfl⟩
  have b1 : Below w.heap.size w W1 := by rw [hW1]; exact ((Below.refl _ _).alloc (Nat.le_refl _) _).alloc (by simp) _
  have R1 : Hid (RowAt W1 (X3 + 1) 34 #[.int .i64 0, .int .i64 0, .int .i64 0]) := by rw [hW1, hX3]; exact RowAt.next _ _ _ (by simp only [size_al])
  have G1 := hid (h.below b1)
  have K1 : Hid (Kq w W1) := (Kq.refl w).below b1
  have B1 := hid (hb.trans (b1.mono hb.size))
  have hwX : Hid (w.heap.size ≤ X3) := by rw [hX3]; exact Nat.le_refl _
  have hw0X : Hid (w0.heap.size ≤ X3) := by rw [hX3]; exact hb.size
  have hpB := h.mlo k hk
  have HX3 := hid hX3
  have HW1 := hid hW1
  clear hX3 hW1 hGG h hb b1
  have r1 := G1.out.mem k hk
  have c2 : W1.cell? ⟨pb k, 2, none⟩ = some (.bool (s k).ld) := r1.cell 2
  have f2 := r1.free 2
  obtain ⟨W2, hW2⟩ : ∃ W, W = W1.setCell ⟨pb k, 2, none⟩ (.bool false) := ⟨_, rfl⟩
  have G2 : Hid (GpL W2 w0.heap.size gb N (putM s k { s k with ld := false }) pb la lc mb) := by rw [hW2]; exact G1.out.setLd hk false
  have K2 : Hid (Kq W1 W2) := by rw [hW2]; exact (Kq.refl W1).set (a := ⟨pb k, 2, none⟩) _ r1 (.inl rfl)
  have B2 : Hid (Below w0.heap.size w0 W2) := by rw [hW2]; exact B1.out.setCell hpB _
  have r2 := G2.out.mem k hk
  have c3 : W2.cell? ⟨pb k, 3, none⟩ = some (.int .i64 ((s k).cm : Int)) := (r2.cell 3).trans (by rw [putM_self]; rfl)
  have f3 := r2.free 3
  obtain ⟨W3, hW3⟩ : ∃ W, W = W2.setCell ⟨pb k, 3, none⟩ (.int .i64 0) := ⟨_, rfl⟩
  have G3 : Hid (GpL W3 w0.heap.size gb N (putM s k { s k with ld := false, cm := 0 }) pb la lc mb) := by
    have z := G2.out.setCm hk 0
    rw [putM_self, putM_putM] at z
    rw [hW3]
    exact z
  have K3 : Hid (Kq W1 W3) := by rw [hW3]; exact K2.out.set (a := ⟨pb k, 3, none⟩) _ r2 (.inl rfl)
  have B3 : Hid (Below w0.heap.size w0 W3) := by rw [hW3]; exact B2.out.setCell hpB _
  have c5 : W3.cell? ⟨pb k, 5, none⟩ = some (.slice (some ⟨mb k, 0, none⟩) N N) := (G3.out.mem k hk).cell 5
  have hcl := fun ty => G3.out.clear_run hk ty
  obtain ⟨W4, hW4⟩ : ∃ W, W = W3.setCells (mb k) 0 (List.replicate N (.int .i64 0)) := ⟨_, rfl⟩
  have GX : Hid (GpL W4 w0.heap.size gb N (putM s k { s k with ld := false, cm := 0, mt := List.replicate N 0 }) pb la lc mb) := by
    have q := G3.out.clr hk
    rw [putM_self, putM_putM] at q
    rw [hW4]
    exact q
  have g4 := setCells_grown (b := mb k) (List.replicate N (.int .i64 0)) 0 W3
  have hmB := (G3.out.mat k hk).2.1
  have KA : Hid (Kq W1 W4) := by rw [hW4]; exact K3.out.grownM g4 fun g e => by cases e; exact .inr ⟨_, _, (G3.out.mat k hk).1, .inr (.inl rfl)⟩
  have BX : Hid (Below w0.heap.size w0 W4) := by rw [hW4]; exact B3.out.grown g4 B3.out.size fun x hx => by cases hx; exact hmB
  rw [← hW4] at hcl
  have HW2 := hid hW2
  have HW3 := hid hW3
  generalize (s k).ld = o2 at c2
  generalize ((s k).cm : Int) = o3 at c3
  clear hW2 hW3 hW4 r1 r2 G1 G2 G3 K2 K3 B1 B2 B3 g4 hmB hpB
  go_enter Try.func32, Try.ntmps32
  go_upto_region 1 with fail
  rw [← HW1.out, ← HX3.out]
  clear HW1 HX3
  go_upto_region 2 with fail
  rw [← HW2.out]
  clear HW2 c2 f2
  go_upto_region 3 with fail
  rw [← HW3.out]
  clear HW3 c3 f3
  go_upto_region 4 with fail
  clear hcl c5
  have RZ := hid (KA.out.row _ _ _ (by decide) (by decide) (by decide) R1.out)
  have PZ := hid (GX.out.asideR RZ.out (by decide) (by decide) (by decide) (by decide) #[.int .i64 0, .int .i64 0, .int .i64 0])
  have KZ := hid ((K1.out.trans KA.out).setRowNew (X := X3 + 1) (Nat.le_trans hwX.out (Nat.le_add_right _ _)) #[.int .i64 0, .int .i64 0, .int .i64 0])
  have BZ := hid (below_setRow BX.out (X3 + 1) #[.int .i64 0, .int .i64 0, .int .i64 0] (Nat.le_trans hw0X.out (Nat.le_add_right _ _)))
  go_upto_region 4 with fail
  go_wp2_with (refine wpList_store_row rfl 34 (.tmp 4) (.tmp 18) rfl (X3 + 1) #[.int .i64 0, .int .i64 0, .int .i64 0] rfl rfl _ _ RZ.out (by kernel_rfl) rfl (by simp [Value.oneCell']) ?_)
  try simp only [Exit.inBlock, Exit.then]
  refine bodyPost_ret (v := .agg #[.int .i64 0, .int .i64 0, .int .i64 0]) ?_ rfl ⟨by rw [HR.out], by rw [HR.out]; exact PZ.out, KZ.out, BZ.out⟩
  exact results_cell_row Try.results32 _ _ (X3 + 1) _ _ _ _ rfl (RZ.out.setRow _) Try.underlying34 rfl (by kernel_rfl)
end Go.Proofs.Ytmhkelfmciepaaa
