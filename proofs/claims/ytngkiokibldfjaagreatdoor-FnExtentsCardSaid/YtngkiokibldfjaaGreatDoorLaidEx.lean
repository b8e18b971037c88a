import Derived.Test.YtngkiokibldfjaaGreatDoorRows
import Derived.Test.YtngkiokibldfjaaGreatDoorPX
import Derived.Test.YtngkiokibldfjaaGreatDoorPG
import Derived.LaidMore
import Derived.OpenShut
import Derived.Stop.Joined
import Derived.Stop.LaidTwo
import Derived.ProofKit
namespace Go.Proofs.YtngkiokibldfjaaGreatDoor
open Go.ChangeShapes Go.WideShapes Go.ChangeAt Go.RowKit
/-! The two errors lie where the row lays them. -/
def laidL : List (String × DataW Unit) := [("math/bits.deBruijn32tab", Rows.laid_math_bits_deBruijn32tab), ("math/bits.deBruijn64tab", Rows.laid_math_bits_deBruijn64tab), ("internal/strconv.uint64pow10", Rows.laid_internal_strconv_uint64pow10), ("loop.example/g00020/impl.errNoMark", Rows.laid_loop_example_g00020_impl_errNoMark), ("loop.example/g00020/impl.errBent", Rows.laid_loop_example_g00020_impl_errBent)]
theorem gErrA : Tryz.prog.globalNamed "loop.example/g00020/impl.errNoMark" = some 0 := by kernel_rfl
theorem gErrB : Tryz.prog.globalNamed "loop.example/g00020/impl.errBent" = some 1 := by kernel_rfl
theorem tErrA : (Tryz.prog.globals[0]?).map (·.type) = some 127 := by kernel_rfl
theorem tErrB : (Tryz.prog.globals[1]?).map (·.type) = some 127 := by kernel_rfl
theorem door_met (os : Os) (args : Array Value) : laidMetH Tryz.prog laidL ((World.doorLaid Tryz.prog 400 os).forCall (fun _ _ => 0) ⟨#[], args, []⟩).memory :=
  laidMetH_of_parts3 (fuel := 8) (laidMet_of_run' 8 (by kernel_rfl) (by kernel_rfl)) (by kernel_rfl) (by kernel_rfl)
theorem starErr : "*" ++ "errors.errorString" = "*errors.errorString" := by decide
theorem rowErr (u : TypeId) (h : Tryz.prog.typeName? 3 u = some "*errors.errorString") : u = 213 :=
  typeName_ptr_named (nm := "errors.errorString") (by rw [starErr]; kernel_rfl) (by kernel_rfl) (by decide) u (by rw [starErr]; exact h)
theorem cell_lt {W : World} {b : Nat} {v : Value} (h : W.cell? ⟨b, 0, none⟩ = some v) : b < W.heap.size := by
  rcases Nat.lt_or_ge b W.heap.size with q | q
  · exact q
  · simp [World.cell?, Array.getElem?_eq_none q] at h
theorem var_below {P : Program} {W W' : World} {n : String} {g : Nat} {cs : Array Value} (hg : P.globalNamed n = some g) (h : W.var? P n = some cs) (hb : Below W.heap.size W W') (hlt : g < W.heap.size) : W'.var? P n = some cs := by
  simp only [World.var?, hg, Option.bind_some] at h ⊢
  rw [hb.block g hlt]; exact h
/-- what is laid behind the first -/
theorem laid_tail {P : Program} {x : String × DataW Unit} {l : List (String × DataW Unit)} {W : World} (h : laidMet P (x :: l) W) : laidMet P l W := by
  obtain ⟨ps, ⟨g, t, cs, f, p, q, hg, ht, hv, hd, hr, rfl⟩, hn, hc⟩ := h
  exact ⟨q, hr, (List.nodup_append.1 hn).2.1, fun b off hm => hc b off (List.mem_append_right _ hm)⟩
theorem gPow : Tryz.prog.globalNamed "internal/strconv.uint64pow10" = some 2 := by kernel_rfl
theorem tPow : (Tryz.prog.globals[2]?).map (·.type) = some 204 := by kernel_rfl
theorem pow_of5 {W : World} (h : laidMetH Tryz.prog laidL W) : TB W := by
  rw [MakeChecks.laidMetH_plain _ _ _ (by kernel_rfl)] at h
  obtain ⟨ps, ⟨g0, t0, cs0, f0, p0, q0, hg0, ht0, hv0, hd0, ⟨g1, t1, cs1, f1, p1, q1, hg1, ht1, hv1, hd1, ⟨g2, t2, cs2, f2, p2, q2, hg2, ht2, hv2, hd2, _, _⟩, _⟩, _⟩, _, _⟩ := h
  obtain rfl := Option.some.inj (gPow.symm.trans hg2)
  obtain rfl := Option.some.inj (tPow.symm.trans ht2)
  have e : (Rows.laid_internal_strconv_uint64pow10 : DataW Unit) = Lib.tabData .u64 Lib.pow10Tab := by rfl
  rw [e] at hd2
  unfold TB Lib.TabIs
  rw [hv2, ← Lib.cells_of_tab Tryz.underlying204 Tryz.underlying173 (by kernel_rfl) (by kernel_rfl) hd2]
theorem errs_of5 {W : World} (h : laidMetH Tryz.prog laidL W) : ∃ ea eb, Errs W ea eb := by
  rw [MakeChecks.laidMetH_plain _ _ _ (by kernel_rfl)] at h
  replace h := laid_tail (laid_tail (laid_tail h))
  obtain ⟨a0, a1, s0, s1, c0, c1, t0, t1, hv0, hv1, hc0, hs0, hz0, hc1, hs1, hz1, hne, hb0, hb1⟩ := laid_sentinels2 h gErrA tErrA gErrB tErrB Tryz.underlying127 rowErr Tryz.underlying213 Tryz.underlying235 rfl rfl Tryz.underlying9 (by kernel_rfl) (by kernel_rfl)
  have m0 := World.var?_cell gErrA hv0 0
  have m1 := World.var?_cell gErrB hv1 0
  exact ⟨a0, a1, m0, m1, cell_lt m1, hne, ⟨_, _, hb0⟩, ⟨_, _, hb1⟩⟩
theorem errs_of_laid {W : World} (h : laidMetH Tryz.prog laidL W) : TB W ∧ ∃ ea eb, Errs W ea eb := ⟨pow_of5 h, errs_of5 h⟩
end Go.Proofs.YtngkiokibldfjaaGreatDoor
