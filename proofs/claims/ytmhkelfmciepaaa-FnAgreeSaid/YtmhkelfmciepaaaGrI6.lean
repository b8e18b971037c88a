import Derived.Test.YtmhkelfmciepaaaGrI5
import Derived.Lib.SliceRun
namespace Go.Proofs.Ytmhkelfmciepaaa
open Go.RowKit
set_option linter.unusedVariables false
/-! The program's partingOf and lead. -/
theorem zero64 (w : World) : (zeroValue 2).run Try.prog w = .ok (.int .i64 0) w := by kernel_rfl
theorem clr_rows {w : World} {Y N : Nat} {M : List Int} (h : RowAt w Y 2 (ints .i64 M)) (hM : M.length = N) : RowAt (w.setCells Y 0 (List.replicate N (.int .i64 0))) Y 2 (ints .i64 (List.replicate N 0)) := by
  have F : FRow w Y 2 N (fun p => .int .i64 (M.getD p 0)) := FRow.of h (by rw [ints_size, hM]) fun p hp => ints_at (by omega)
  have q := (F.setCells (List.replicate N (.int .i64 0)) 0).row
  have e : ((List.range N).map (layF (fun p => Value.int .i64 (M.getD p 0)) 0 (List.replicate N (.int .i64 0)))).toArray = ints .i64 (List.replicate N 0) := by
    unfold ints
    congr 1
    apply List.ext_getElem
    · simp
    · intro i h1 h2
      simp at h1
      simp [layF, h1]
  rw [e] at q
  exact q
section
variable {w : World} {B gb N : Nat} {s : Gst} {pb : Nat → Nat} {la : Nat → Option Addr} {lc mb : Nat → Nat}
theorem GpL.clr (h : GpL w B gb N s pb la lc mb) {k : Nat} (hk : k < N) : GpL (w.setCells (mb k) 0 (List.replicate N (.int .i64 0))) B gb N (putM s k { s k with mt := List.replicate N 0 }) pb la lc mb := by
  have hg := setCells_grown (b := mb k) (List.replicate N (.int .i64 0)) 0 w
  have far : ∀ {g t cs}, RowAt w g t cs → g ≠ mb k → RowAt (w.setCells (mb k) 0 (List.replicate N (.int .i64 0))) g t cs := fun hr hn => (hg.block _ hr.lt (fun e => hn (Option.some.inj e))).trans hr
  have ho : ∀ {g t cs}, RowAt w g t cs → t ≠ 2 → RowAt (w.setCells (mb k) 0 (List.replicate N (.int .i64 0))) g t cs := fun hr ht => far hr (row_apart hr (h.mat k hk).1 ht)
  have hl : ∀ j, (putM s k { s k with mt := List.replicate N 0 } j).lg = (s j).lg := fun j => by
    by_cases e : j = k
    · rw [e, putM_self]
    · rw [putM_ne _ _ _ e]
  refine ⟨h.lo, ho h.all (by decide), fun j hj => ?_, h.mlo, fun j hj => ?_, fun j hj => ?_, h.nep, h.nem, fun i' j hi hj hij => ?_⟩
  · have q := ho (h.mem j hj) (by decide)
    by_cases e : j = k
    · subst e; rw [putM_self]; exact q
    · rw [putM_ne _ _ _ e]; exact q
  · rw [hl j]
    exact (h.log j hj).keep fun g cs _ hr => ho hr (by decide)
  · by_cases e : j = k
    · subst e
      rw [putM_self]
      exact ⟨clr_rows (h.mat j hj).1 (h.mat j hj).2.2, (h.mat j hj).2.1, List.length_replicate⟩
    · rw [putM_ne _ _ _ e]
      exact ⟨far (h.mat j hj).1 (h.nem j k hj hk e), (h.mat j hj).2⟩
  · rw [hl i', hl j]
    exact h.nel i' j hi hj hij
theorem Kq.grownM {W W' : World} {r : Option Nat} (h : Kq w W) (hg : W.grownBy W' r) (hr : ∀ g, r = some g → w.heap.size ≤ g ∨ ∃ t cs, RowAt W g t cs ∧ (t = 65 ∨ t = 2 ∨ t = 46)) : Kq w W' := by
  refine ⟨Nat.le_trans h.size hg.size, fun g t cs a b c r => ?_⟩
  have q := h.row g t cs a b c r
  refine (hg.block g q.lt fun e => ?_).trans q
  rcases hr g e.symm with h1 | ⟨t2, c2, h1, h2⟩
  · have := r.lt
    omega
  · rcases h2 with rfl | rfl | rfl
    · exact row_apart q h1 a rfl
    · exact row_apart q h1 b rfl
    · exact row_apart q h1 c rfl
theorem GpL.clear_run (h : GpL w B gb N s pb la lc mb) {k : Nat} (hk : k < N) (ty : TypeId) : (Builtin.clear_ #[27] ty #[.slice (some ⟨mb k, 0, none⟩) N N]).run Try.prog w = .ok (.tuple #[]) (w.setCells (mb k) 0 (List.replicate N (.int .i64 0))) := by
  obtain ⟨r, _, hl⟩ := h.mat k hk
  exact Go.Lib.run_clear_slice w 27 2 ty (.int .i64 0) Try.underlying27 zero64 rfl rfl (mb k) 0 N N (by omega) (fun j hj => by rw [Nat.zero_add, r.cell, ints_at (by omega)]; rfl) (fun j hj => r.free _)
end
set_option maxRecDepth 20000 in
set_option maxHeartbeats 2000000 in
theorem iLead (B gb N k : Nat) (hk : k < N) (s : Gst) (pb : Nat → Nat) (la : Nat → Option Addr) (lc mb : Nat → Nat) (w : World) (h : GpL w B gb N s pb la lc mb) :
    Calls Try.prog 38 #[.pointer (some ⟨pb k, 0, none⟩)] w fun e w' => e = .returned (.tuple #[]) ∧ GpL w' B gb N (putM s k (gLead N k (s k))) pb la lc mb ∧ Kq w w' ∧ Below B w w' := by
  have r := h.mem k hk
  have hpB := h.mlo k hk
  have c2 : w.cell? ⟨pb k, 2, none⟩ = some (.bool (s k).ld) := r.cell 2
  have f2 := r.free 2
  obtain ⟨W1, hW1⟩ : ∃ W, W = w.setCell ⟨pb k, 2, none⟩ (.bool true) := ⟨_, rfl⟩
  have G1 : Hid (GpL W1 B gb N (putM s k { s k with ld := true }) pb la lc mb) := by rw [hW1]; exact h.setLd hk true
  have K1 : Hid (Kq w W1) := by rw [hW1]; exact (Kq.refl w).set (a := ⟨pb k, 2, none⟩) _ r (.inl rfl)
  have B1 : Hid (Below B w W1) := by rw [hW1]; exact (Below.refl B w).setCell hpB _
  have c5 : W1.cell? ⟨pb k, 5, none⟩ = some (.slice (some ⟨mb k, 0, none⟩) N N) := (G1.out.mem k hk).cell 5
  have hcl := fun ty => G1.out.clear_run hk ty
  obtain ⟨W2, hW2⟩ : ∃ W, W = W1.setCells (mb k) 0 (List.replicate N (.int .i64 0)) := ⟨_, rfl⟩
  have G2 : Hid (GpL W2 B gb N (putM s k { s k with ld := true, mt := List.replicate N 0 }) pb la lc mb) := by
    have q := G1.out.clr hk
    rw [putM_self, putM_putM] at q
    rw [hW2]
    exact q
  have g2 := setCells_grown (b := mb k) (List.replicate N (.int .i64 0)) 0 W1
  have hmB := (G1.out.mat k hk).2.1
  have K2 : Hid (Kq w W2) := by rw [hW2]; exact K1.out.grownM g2 fun g e => by cases e; exact .inr ⟨_, _, (G1.out.mat k hk).1, .inr (.inl rfl)⟩
  have B2 : Hid (Below B w W2) := by
    rw [hW2]
    exact ⟨g2.os.trans B1.out.os, g2.tape.trans B1.out.tape, g2.output.trans B1.out.output, Nat.le_trans B1.out.size g2.size, fun x hx => (g2.block x (Nat.lt_of_lt_of_le hx (Nat.le_trans hmB (Nat.le_of_lt (G1.out.mat k hk).1.lt))) (fun e => by have := Option.some.inj e; omega)).trans (B1.out.block x hx)⟩
  rw [← hW2] at hcl
  have d4 : W2.cell? ⟨pb k, 4, none⟩ = some (.slice (la k) (s k).lg.length (lc k)) := ((G2.out.mem k hk).cell 4).trans (by rw [putM_self]; rfl)
  have d5 : W2.cell? ⟨pb k, 5, none⟩ = some (.slice (some ⟨mb k, 0, none⟩) N N) := (G2.out.mem k hk).cell 5
  have d6 : W2.cell? ⟨pb k, 6, none⟩ = some (.int .i64 (k : Int)) := (G2.out.mem k hk).cell 6
  obtain ⟨LN, hLN⟩ : ∃ l, l = (s k).lg.length := ⟨_, rfl⟩
  rw [← hLN] at d4
  obtain ⟨Y, hY⟩ : ∃ y, y = mb k := ⟨_, rfl⟩
  have zr := (G2.out.mat k hk).1
  rw [putM_self] at zr
  have z6 : W2.cell? ⟨mb k, k, none⟩ = some (.int .i64 0) := by rw [zr.cell k, ints_at (by simpa using hk)]; simp [hk]
  have f6 := zr.free k
  obtain ⟨W3, hW3⟩ : ∃ W, W = (W2.setCell ⟨mb k, k, none⟩ (.int .i64 (LN : Int))).drew := ⟨_, rfl⟩
  have G3 : Hid (GpL W3 B gb N (putM s k (gLead N k (s k))) pb la lc mb) := by
    have q := G2.out.putMt hk k (LN : Int)
    rw [putM_self, putM_putM] at q
    unfold gLead
    rw [hW3, ← hLN]
    exact q.below (Below.refl _ _).drew
  have K3 : Hid (Kq w W3) := by rw [hW3]; exact (K2.out.set (a := ⟨mb k, k, none⟩) _ zr (.inr rfl)).drew
  have B3 : Hid (Below B w W3) := by rw [hW3]; exact (B2.out.setCell hmB _).drew
  have kN : (k : Int) < (N : Int) := by omega
  have k0 : (0 : Int) ≤ (k : Int) := by omega
  have HW1 := hid hW1
  have HW3 := hid hW3
  generalize (s k).ld = old at c2
  clear hW1 hW2 hW3 hLN hY zr r h G1 K1 B1 G2 K2 B2 g2 hmB hpB
  go_enter Try.func38, Try.ntmps38
  go_upto_region 1 with fail
  rw [← HW1.out]
  clear HW1 c2 f2
  go_upto_region 2 with fail
  clear hcl c5
  go_region
  rw [← HW3.out]
  clear HW3 d4 d5 d6 z6 f6
  go_wp2
  go_end0
  exact ⟨rfl, G3.out, K3.out, B3.out⟩
end Go.Proofs.Ytmhkelfmciepaaa
