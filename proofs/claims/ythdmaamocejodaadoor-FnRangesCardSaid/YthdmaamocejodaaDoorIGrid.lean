import Derived.Test.YthdmaamocejodaaDoorIInv8
import Derived.Test.YthdmaamocejodaaDoorISide
import Derived.Test.YthdmaamocejodaaDoorSSwap
import Derived.Deep.RegionHeld3
namespace Go.Proofs.YthdmaamocejodaaDoor
open Go.RowKit
/-! The program's grids: bytes in one block. -/
abbrev grv (R C g q : Nat) : Value := .agg #[.int .i64 R, .int .i64 C, .slice (some ⟨g, 0, none⟩) q q]
def Gr (w : World) (g : Nat) (zs : List Nat) : Prop := RowAt w g 5 (cells8 zs)
theorem Gr.lt {w : World} {g : Nat} {zs : List Nat} (h : Gr w g zs) : g < w.heap.size := RowAt.lt h
theorem cells8_getD {zs : List Nat} {i : Nat} (hi : i < zs.length) : (cells8 zs)[i]? = some (.int .u8 ((zs.getD i 0 : Nat) : Int)) := by
  refine cells8_at ?_
  rw [List.getD_eq_getElem?_getD, List.getElem?_eq_getElem hi]; rfl
theorem Gr.cell {w : World} {g : Nat} {zs : List Nat} (h : Gr w g zs) {i : Nat} (hi : i < zs.length) : w.cell? ⟨g, i, none⟩ = some (.int .u8 ((zs.getD i 0 : Nat) : Int)) :=
  (RowAt.cell h i).trans (cells8_getD hi)
theorem Gr.free {w : World} {g : Nat} {zs : List Nat} (h : Gr w g zs) (i : Nat) : w.frozen? ⟨g, i, none⟩ = false := RowAt.free h i
theorem Gr.set {w : World} {g : Nat} {zs : List Nat} (h : Gr w g zs) (i x : Nat) : Gr (w.setCell ⟨g, i, none⟩ (.int .u8 x)) g (zs.set i x) := by
  unfold Gr; rw [← cells8_set]; exact RowAt.set h i _
theorem Gr.alloc {w : World} {g : Nat} {zs : List Nat} (h : Gr w g zs) (o : Obj) : Gr (w.alloc o) g zs := RowAt.alloc h o
theorem Gr.drew {w : World} {g : Nat} {zs : List Nat} (h : Gr w g zs) : Gr w.drew g zs := h
theorem Gr.drewN {w : World} {g : Nat} {zs : List Nat} (h : Gr w g zs) (n : Nat) : Gr (w.drewN n) g zs := h
theorem Gr.below {w w' : World} {g n : Nat} {zs : List Nat} (h : Gr w g zs) (hb : Below n w w') (hn : g < n) : Gr w' g zs := RowAt.below h hb hn
theorem Gr.other {w : World} {g : Nat} {zs : List Nat} (h : Gr w g zs) (a : Addr) (v : Value) (hn : g ≠ a.block) : Gr (w.setCell a v) g zs := RowAt.other h a v hn
theorem Gr.otherRow {w : World} {g : Nat} {zs : List Nat} (h : Gr w g zs) (b : Nat) (c : Array Value) (hn : g ≠ b) : Gr (w.setRow b c) g zs := RowAt.otherRow h b c hn
theorem Gr.far {w w' : World} {g : Nat} {r : Option Nat} {zs : List Nat} (h : Gr w g zs) (hg : w.grownBy w' r) (hne : some g ≠ r) : Gr w' g zs := (hg.block g h.lt hne).trans h
theorem rowFar {w w' : World} {b : Nat} {t : TypeId} {c : Array Value} {r : Option Nat} (h : RowAt w b t c) (hg : w.grownBy w' r) (hne : some b ≠ r) : RowAt w' b t c := (hg.block b h.lt hne).trans h
theorem made8 (n : Nat) : madeCells (Value.int .u8 0).cells (n * 1) = cells8 (List.replicate n 0) := by
  apply Array.ext
  · simp [madeCells, cells8]
  · intro i h1 h2
    simp [madeCells, cells8, Value.cells, Nat.mod_one]
theorem Tryd.info8 : (Tryd.prog.info? 5).map (fun i => (i.zero, i.size, i.bytes)) = some (some (.int .u8 0), 1, 1) := by kernel_rfl
theorem mk8 (w : World) (n : Nat) (hn : n ≤ 17592186044416) : (Instr.makeSlice 22 (.int .i64 n) (.int .i64 n)).run Tryd.prog w = .ok (.slice (some ⟨w.heap.size, 0, none⟩) n n) (w.alloc (.cells (cells8 (List.replicate n 0)) 5)) := by
  obtain ⟨i0, hi, hz0, hz1, hz2⟩ := info_parts Tryd.info8
  have := run_make (P := Tryd.prog) w 22 5 i0 (.int .u8 0) Tryd.underlying22 hi hz0 .i64 .i64 n n (by omega) (Int.le_refl _) (by rw [hz2]; omega) (by omega)
  rw [this, hz1]
  simp only [Int.toNat_natCast, made8]
set_option maxRecDepth 20000 in
set_option maxHeartbeats 400000 in
theorem inew (R C q : Nat) (w : World) (hq : Hid ((R : Int) * (C : Int) = (q : Int))) (hl : q ≤ 1048576) :
    Calls Tryd.prog 54 #[.int .i64 R, .int .i64 C] w fun e w' => e = .returned (grv R C (w.heap.size + 1) q) ∧ w' = (w.alloc (.cells #[.int .i64 R, .int .i64 C, .slice (some ⟨w.heap.size + 1, 0, none⟩) q q] 121)).alloc (.cells (cells8 (List.replicate q 0)) 5) := by
  have hmk := fun w => mk8 w q (by omega)
  have hq' := hq.out
  go_enter Tryd.func54, Tryd.ntmps54
  go_wp2
  have r : RowAt ((w.alloc (.cells #[.int .i64 R, .int .i64 C, .slice (some ⟨w.heap.size + 1, 0, none⟩) q q] 121)).alloc (.cells (cells8 (List.replicate q 0)) 5)) w.heap.size 121 #[.int .i64 R, .int .i64 C, .slice (some ⟨w.heap.size + 1, 0, none⟩) q q] := (RowAt.new w _ _).alloc _
  refine bodyPost_ret (v := grv R C (w.heap.size + 1) q) ?_ rfl ⟨rfl, rfl⟩
  · exact results_cell_row Tryd.results54 _ _ w.heap.size _ _ _ _ rfl r Tryd.underlying121 rfl (by kernel_rfl)
/-- a new grid of nothing -/
theorem inewB (R C q : Nat) (w : World) (hq : Hid ((R : Int) * (C : Int) = (q : Int))) (hl : q ≤ 1048576) :
    Calls Tryd.prog 54 #[.int .i64 R, .int .i64 C] w fun e w' => ∃ g, e = .returned (grv R C g q) ∧ w.heap.size ≤ g ∧ Gr w' g (List.replicate q 0) ∧ Below w.heap.size w w' := by
  refine (inew R C q w hq hl).mono ?_
  rintro e w' ⟨rfl, rfl⟩
  exact ⟨_, rfl, by omega, RowAt.next (w.alloc _) _ _ (by rw [size_al]), ((Below.refl _ _).alloc (Nat.le_refl _) _).alloc (by simp only [size_al]; omega) _⟩
set_option maxRecDepth 20000 in
set_option maxHeartbeats 400000 in
theorem irow (R C g q i o : Nat) (hq : q ≤ 1048576) (w : World) (h1 : Hid ((i : Int) * (C : Int) = (o : Int))) (h2 : Hid (((i : Int) + 1) * (C : Int) = (o : Int) + (C : Int))) (ho : o + C ≤ q) (hi : i ≤ 1048576) (hg : 0 < C) :
    Calls Tryd.prog 50 #[grv R C g q, .int .i64 i] w fun e w' => e = .returned (.slice (some ⟨g, o, none⟩) C (q - o)) ∧ w' = w.alloc (.cells #[.int .i64 R, .int .i64 C, .slice (some ⟨g, 0, none⟩) q q] 121) := by
  have a1 := h1.out
  have a2 := h2.out
  have b1 : (o : Int) ≤ (o : Int) + (C : Int) := by omega
  have b2 : (o : Int) + (C : Int) ≤ (q : Int) := by omega
  have b3 : ((o : Int) + (C : Int)).toNat - (o : Int).toNat = C := by omega
  have b4 : ((o : Int) + (C : Int)).toNat - o = C := by omega
  go_enter Tryd.func50, Tryd.ntmps50
  go_wp2
  go_ret
  exact ⟨rfl, rfl⟩
end Go.Proofs.YthdmaamocejodaaDoor
