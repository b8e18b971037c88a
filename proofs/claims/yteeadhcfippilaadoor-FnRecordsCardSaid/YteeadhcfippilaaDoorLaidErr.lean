import Derived.Test.YteeadhcfippilaaDoorRows
import Derived.Test.YteeadhcfippilaaDoorIFrame
import Derived.LaidMore
import Derived.OpenShut
import Derived.Stop.Joined
import Derived.Stop.LaidTwo
import Derived.ProofKit
namespace Go.Proofs.YteeadhcfippilaaDoor
open Go.ChangeShapes Go.WideShapes Go.ChangeAt Go.RowKit
/-! The two errors lie where the row lays them. -/
def laidL : List (String × DataW Unit) := [("loop.example/g00020/impl.errNoMark", Rows.laid_loop_example_g00020_impl_errNoMark), ("loop.example/g00020/impl.errBent", Rows.laid_loop_example_g00020_impl_errBent)]
theorem gErrA : Tryd.prog.globalNamed "loop.example/g00020/impl.errNoMark" = some 0 := by kernel_rfl
theorem gErrB : Tryd.prog.globalNamed "loop.example/g00020/impl.errBent" = some 1 := by kernel_rfl
theorem tErrA : (Tryd.prog.globals[0]?).map (·.type) = some 49 := by kernel_rfl
theorem tErrB : (Tryd.prog.globals[1]?).map (·.type) = some 49 := by kernel_rfl
theorem door_met (os : Os) (args : Array Value) : laidMetH Tryd.prog laidL ((World.doorLaid Tryd.prog 400 os).forCall (fun _ _ => 0) ⟨#[], args, []⟩).memory :=
  laidMetH_of_parts3 (fuel := 8) (laidMet_of_run' 8 (by kernel_rfl) (by kernel_rfl)) (by kernel_rfl) (by kernel_rfl)
theorem starErr : "*" ++ "errors.errorString" = "*errors.errorString" := by decide
theorem rowErr (u : TypeId) (h : Tryd.prog.typeName? 3 u = some "*errors.errorString") : u = 74 :=
  typeName_ptr_named (nm := "errors.errorString") (by rw [starErr]; kernel_rfl) (by kernel_rfl) (by decide) u (by rw [starErr]; exact h)
theorem cell_lt {W : World} {b : Nat} {v : Value} (h : W.cell? ⟨b, 0, none⟩ = some v) : b < W.heap.size := by
  rcases Nat.lt_or_ge b W.heap.size with q | q
  · exact q
  · simp [World.cell?, Array.getElem?_eq_none q] at h
theorem var_below {P : Program} {W W' : World} {n : String} {g : Nat} {cs : Array Value} (hg : P.globalNamed n = some g) (h : W.var? P n = some cs) (hb : Below W.heap.size W W') (hlt : g < W.heap.size) : W'.var? P n = some cs := by
  simp only [World.var?, hg, Option.bind_some] at h ⊢
  rw [hb.block g hlt]; exact h
theorem errs_of_laid {W : World} (h : laidMetH Tryd.prog laidL W) : ∃ ea eb, Errs W ea eb := by
  rw [MakeChecks.laidMetH_plain _ _ _ (by kernel_rfl)] at h
  obtain ⟨a0, a1, s0, s1, c0, c1, t0, t1, hv0, hv1, hc0, hs0, hz0, hc1, hs1, hz1, hne, hb0, hb1⟩ := laid_sentinels2 h gErrA tErrA gErrB tErrB Tryd.underlying49 rowErr Tryd.underlying74 Tryd.underlying89 rfl rfl Tryd.underlying9 (by kernel_rfl) (by kernel_rfl)
  have m0 := World.var?_cell gErrA hv0 0
  have m1 := World.var?_cell gErrB hv1 0
  exact ⟨a0, a1, m0, m1, cell_lt m1, hne, ⟨_, _, hb0⟩, ⟨_, _, hb1⟩⟩
end Go.Proofs.YteeadhcfippilaaDoor
