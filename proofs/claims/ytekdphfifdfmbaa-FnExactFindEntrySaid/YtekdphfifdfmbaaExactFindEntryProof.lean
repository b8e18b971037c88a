import Derived.Test.YtekdphfifdfmbaaRows
import Derived.Test.YtekdphfifdfmbaaFindEntryWalk
import Derived.WalkKit
import Derived.ProofKit
import Derived.OpenShut
import Derived.ShutString
import Derived.ChangeOld
import Derived.Below
import Derived.Deep.Strs
namespace Go.Proofs.Ytekdphfifdfmbaa
open Go.ChangeShapes Go.WideShapes Go.ChangeAt Go.RowKit
open Go.ChangeMaps (open_string shut_string)
namespace fnExactFindEntry
theorem own : ownKnob Try.prog.godebug = none := by kernel_rfl
theorem laidOut : laidOutB Try.prog = true := by kernel_rfl
set_option linter.unusedVariables false
set_option maxRecDepth 100000 in
theorem lifted (os : Os) (started : os.Started) (H : Type) (enc : TypeId × Value → H) :
    ReturnsInHanded {} Try.checked os 5 .any (Rows.fnExactFindEntrySpec.pre6 enc Try.prog Try.f5 Rows.fnExactFindEntryRow.domain false) (Rows.fnExactFindEntrySpec.post enc Try.prog Try.f5 false true false false) := by
  refine returnsInHanded_of_change (C := Try.checked) own started (by kernel_rfl) Try.func5
    (ChangeSpec.witness6 (enc := enc) (C := Try.checked) false ⟨#[], #[.agg #[.int .i64 0, .int .i64 0, .slice none 0 0, .slice none 0 0], .string ⟨#[]⟩, .int .i64 0], []⟩ 8 (by kernel_rfl) (by kernel_rfl) (by kernel_rfl) (by kernel_rfl)) ?_
  intro W base args ds gs before hval0 hW hcnd _
  have hval : ∀ (j : Nat) t v, Try.f5.params[j]? = some t → args[j]? = some v → Value.okWide Try.prog W .any base t v := hval0
  have hW' := hW
  obtain ⟨p, q, hA0, hV, rfl, hfz, hnd⟩ := hW
  have hA : DataW.TrodAll enc Try.prog W 0 (fun _ => true) true Try.f5.params.toList args.toList ds p := hA0
  rw [Try.params5] at hA hval
  obtain ⟨v0, vs0, d0, ds0, p0, q0, hargs, rfl, rfl, h0, r0⟩ := trodAll_cons hA
  obtain ⟨v1, vs1, d1, ds1, p1, q1, rfl, rfl, rfl, h1, r1⟩ := trodAll_cons r0
  obtain ⟨v2, vs2, d2, ds2, p2, q2, rfl, rfl, rfl, h2, r2⟩ := trodAll_cons r1
  obtain ⟨rfl, rfl, rfl⟩ := trodAll_nil r2
  obtain rfl : args = #[v0, v1, v2] := by cases args; simp_all
  obtain ⟨rfl, rfl⟩ := trodVars_none hV
  obtain ⟨cs0, rfl, sz0⟩ := okWide_struct Try.underlying49 (hval 0 49 v0 rfl rfl)
  have k0 := h0
  have lt0 : ∀ x ∈ p0, x.block < W.heap.size := by obtain ⟨m, hm⟩ := k0; exact DataW.trod_lt m _ _ _ hm
  obtain ⟨fu0, hf0⟩ := h0
  obtain ⟨e0_0, e0_1, e0_2, e0_3, rfl⟩ := arr4 (show cs0.size = 4 by rw [sz0]; kernel_rfl)
  obtain ⟨_, _, _, _, _, _, _, g0_0, g0_1, g0_2, g0_3⟩ := Go.Joins.trod_struct4 Try.underlying49 hf0
  obtain ⟨s0, i0_0, _, _⟩ := DataW.trod_int Try.underlying2 g0_0
  simp [Value.cells, show Try.prog.cellsOf 2 = 1 from by kernel_rfl] at i0_0
  subst i0_0
  obtain ⟨f0, i0_1, _, _⟩ := DataW.trod_int Try.underlying2 g0_1
  simp [Value.cells, show Try.prog.cellsOf 2 = 1 from by kernel_rfl] at i0_1
  subst i0_1
  simp only [Value.cells, show Try.prog.cellsOf 47 = 1 from by kernel_rfl, show Try.prog.cellsOf 37 = 1 from by kernel_rfl] at g0_2 g0_3
  obtain ⟨a0, len0, cap0, o0, i0_2, w0⟩ := open_run Try.underlying47 rfl (by kernel_rfl) Try.underlying45 (EnTy.mk ⟨_, _, _, _, Try.underlying124, ⟨rfl, rfl, rfl, rfl⟩, ⟨by kernel_rfl, by kernel_rfl, by kernel_rfl, by kernel_rfl⟩, Try.underlying9, Try.underlying2, Try.underlying4, Try.underlying9⟩ (by kernel_rfl)) (show DataW.trod _ _ _ _ _ _ _ 47 [e0_2] = _ from g0_2)
  subst i0_2
  obtain ⟨b0, m0, cb0, R0, i0_3, x0⟩ := open_rns Try.underlying37 (by kernel_rfl) Try.underlying47 rfl (by kernel_rfl) Try.underlying45 (EnTy.mk ⟨_, _, _, _, Try.underlying124, ⟨rfl, rfl, rfl, rfl⟩, ⟨by kernel_rfl, by kernel_rfl, by kernel_rfl, by kernel_rfl⟩, Try.underlying9, Try.underlying2, Try.underlying4, Try.underlying9⟩ (by kernel_rfl)) (show DataW.trod _ _ _ _ _ _ _ 37 [e0_3] = _ from g0_3)
  simp at i0_3
  subst i0_3
  obtain ⟨a1, rfl, rfl, rfl, w1⟩ := open_string Try.underlying9 (hval 1 9 v1 rfl rfl) h1
  obtain ⟨a2, rfl, rfl, rfl, w2⟩ := open_int Try.underlying2 (hval 2 2 v2 rfl rfl) h2
  clear hA0 hval0
  refine (fnExactFindEntry_walk s0 f0 a0 len0 cap0 o0 w0 b0 m0 cb0 R0 x0 a1 w1 a2 w2 (w := W)).mono fun e W' ⟨he, bel⟩ => ?_
  subst he
  exact ⟨_, rfl, _, _, _, [], _, [], hW', trodAll_mk1 (shut_bool Try.underlying4 _), (trodAll_cons_mk (Below.trod laidOut (by kernel_rfl) (of_decide_eq_true (by kernel_rfl)) k0 bel lt0) (trodAll_cons_mk (shut_string Try.underlying9 w1) (trodAll_cons_mk (shut_int Try.underlying2 w2) trodAll_mk0))), rfl, bel.frame _, fun h => by cases h⟩
theorem over : Rows.fnExactFindEntryRow.holds Try.pinned (OpenSpec.ofChange Rows.fnExactFindEntrySpec) :=
  OpenClaim.holds_of_wide 5 Try.f5 rfl rfl rfl rfl rfl rfl rfl ⟨rfl, rfl, rfl, rfl, rfl⟩ rfl rfl rfl rfl rfl (by kernel_rfl) Try.func5 (by kernel_rfl)
    (of_decide_eq_true (by kernel_rfl)) (by unfold Func.isWrapper; first | (rw [if_pos (by decide +kernel)]; kernel_rfl) | (rw [if_neg (by decide +kernel)]; exact ⟨rfl, rfl⟩))
    (fun os started H enc _ => lifted os started H enc)
end fnExactFindEntry
theorem fnExactFindEntry_proved : Rows.FnExactFindEntrySaid := fnExactFindEntry.over
#print axioms fnExactFindEntry_proved
end Go.Proofs.Ytekdphfifdfmbaa
