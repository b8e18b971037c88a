import Derived.Test.YtnkekdnfbndfbaaRows
import Derived.Test.YtnkekdnfbndfbaaOpenTab
import Derived.WalkKit
import Derived.ProofKit
import Derived.OpenShut
import Derived.ShutString
import Derived.ChangeOld
import Derived.Below
import Derived.Deep.Strs
namespace Go.Proofs.Ytnkekdnfbndfbaa
open Go.ChangeShapes Go.WideShapes Go.ChangeAt Go.RowKit
open Go.ChangeMaps (open_string shut_string)
namespace fnExactTableFault
theorem own : ownKnob Try.prog.godebug = none := by kernel_rfl
theorem laidOut : laidOutB Try.prog = true := by kernel_rfl
set_option linter.unusedVariables false
set_option maxRecDepth 100000 in
theorem lifted (os : Os) (started : os.Started) (H : Type) (enc : TypeId × Value → H) :
    ReturnsInHanded {} Try.checked os 5 .any (Rows.fnExactTableFaultSpec.pre6 enc Try.prog Try.f5 Rows.fnExactTableFaultRow.domain false) (Rows.fnExactTableFaultSpec.post enc Try.prog Try.f5 false true false false) := by
  refine returnsInHanded_of_change (C := Try.checked) own started (by kernel_rfl) Try.func5
    (ChangeSpec.witness6 (enc := enc) (C := Try.checked) false ⟨#[], #[.agg #[.int .i64 0, .int .i64 0, .slice none 0 0, .slice none 0 0]], []⟩ 8 (by kernel_rfl) (by kernel_rfl) (by kernel_rfl) (by kernel_rfl)) ?_
  intro W base args ds gs before hval0 hW hcnd _
  have hval : ∀ (j : Nat) t v, Try.f5.params[j]? = some t → args[j]? = some v → Value.okWide Try.prog W .any base t v := hval0
  have hW' := hW
  obtain ⟨p, q, hA0, hV, rfl, hfz, hnd⟩ := hW
  have hA : DataW.TrodAll enc Try.prog W 0 (fun _ => true) true Try.f5.params.toList args.toList ds p := hA0
  rw [Try.params5] at hA hval
  obtain ⟨v0, vs0, d0, ds0, p0, q0, hargs, rfl, rfl, h0, r0⟩ := trodAll_cons hA
  obtain ⟨rfl, rfl, rfl⟩ := trodAll_nil r0
  obtain rfl : args = #[v0] := by cases args; simp_all
  obtain ⟨rfl, rfl⟩ := trodVars_none hV
  obtain ⟨cs0, rfl, sz0⟩ := okWide_struct Try.underlying46 (hval 0 46 v0 rfl rfl)
  have k0 := h0
  have lt0 : ∀ x ∈ p0, x.block < W.heap.size := by obtain ⟨m, hm⟩ := k0; exact DataW.trod_lt m _ _ _ hm
  obtain ⟨fu0, hf0⟩ := h0
  obtain ⟨e0_0, e0_1, e0_2, e0_3, rfl⟩ := arr4 (show cs0.size = 4 by rw [sz0]; kernel_rfl)
  obtain ⟨_, _, _, _, _, _, _, g0_0, g0_1, g0_2, g0_3⟩ := Go.Joins.trod_struct4 Try.underlying46 hf0
  obtain ⟨s0, i0_0, _, _⟩ := DataW.trod_int Try.underlying2 g0_0
  simp [Value.cells, show Try.prog.cellsOf 2 = 1 from by kernel_rfl] at i0_0
  subst i0_0
  obtain ⟨f0, i0_1, _, _⟩ := DataW.trod_int Try.underlying2 g0_1
  simp [Value.cells, show Try.prog.cellsOf 2 = 1 from by kernel_rfl] at i0_1
  subst i0_1
  simp only [Value.cells, show Try.prog.cellsOf 39 = 1 from by kernel_rfl, show Try.prog.cellsOf 44 = 1 from by kernel_rfl] at g0_2 g0_3
  obtain ⟨a0, len0, cap0, o0, i0_2, w0⟩ := open_run Try.underlying39 rfl (by kernel_rfl) Try.underlying37 (EnTy.mk ⟨_, _, _, _, Try.underlying92, ⟨rfl, rfl, rfl, rfl⟩, ⟨by kernel_rfl, by kernel_rfl, by kernel_rfl, by kernel_rfl⟩, Try.underlying9, Try.underlying2, Try.underlying4, Try.underlying9⟩ (by kernel_rfl)) (show DataW.trod _ _ _ _ _ _ _ 39 [e0_2] = _ from g0_2)
  subst i0_2
  obtain ⟨b0, m0, cb0, R0, i0_3, x0⟩ := open_rns Try.underlying44 (by kernel_rfl) Try.underlying39 rfl (by kernel_rfl) Try.underlying37 (EnTy.mk ⟨_, _, _, _, Try.underlying92, ⟨rfl, rfl, rfl, rfl⟩, ⟨by kernel_rfl, by kernel_rfl, by kernel_rfl, by kernel_rfl⟩, Try.underlying9, Try.underlying2, Try.underlying4, Try.underlying9⟩ (by kernel_rfl)) (show DataW.trod _ _ _ _ _ _ _ 44 [e0_3] = _ from g0_3)
  simp at i0_3
  subst i0_3
  clear hA0 hval0
  refine (fnExactTableFault_walk s0 f0 a0 len0 cap0 o0 w0 b0 m0 cb0 R0 x0 (w := W)).mono fun e W' ⟨he, bel⟩ => ?_
  subst he
  exact ⟨_, rfl, _, _, _, [], _, [], hW', trodAll_mk1 (shut_bool Try.underlying4 _), (trodAll_cons_mk (Below.trod laidOut (by kernel_rfl) (of_decide_eq_true (by kernel_rfl)) k0 bel lt0) trodAll_mk0), rfl, bel.frame _, fun h => by cases h⟩
theorem over : Rows.fnExactTableFaultRow.holds Try.pinned (OpenSpec.ofChange Rows.fnExactTableFaultSpec) :=
  OpenClaim.holds_of_wide 5 Try.f5 rfl rfl rfl rfl rfl rfl rfl ⟨rfl, rfl, rfl, rfl, rfl⟩ rfl rfl rfl rfl rfl (by kernel_rfl) Try.func5 (by kernel_rfl)
    (of_decide_eq_true (by kernel_rfl)) (by unfold Func.isWrapper; first | (rw [if_pos (by decide +kernel)]; kernel_rfl) | (rw [if_neg (by decide +kernel)]; exact ⟨rfl, rfl⟩))
    (fun os started H enc _ => lifted os started H enc)
end fnExactTableFault
theorem fnExactTableFault_proved : Rows.FnExactTableFaultSaid := fnExactTableFault.over
#print axioms fnExactTableFault_proved
end Go.Proofs.Ytnkekdnfbndfbaa
