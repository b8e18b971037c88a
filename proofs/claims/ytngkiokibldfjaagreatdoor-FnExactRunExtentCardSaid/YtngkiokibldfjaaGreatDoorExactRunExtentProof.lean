import Derived.Test.YtngkiokibldfjaaGreatDoorRows
import Derived.Test.YtngkiokibldfjaaGreatDoorRunExtentWalk
import Derived.WalkKit
import Derived.ProofKit
import Derived.OpenShut
import Derived.ShutString
import Derived.ChangeOld
import Derived.Below
import Derived.Deep.Strs
import Derived.Test.YtngkiokibldfjaaGreatDoorLaidEx
import Derived.Test.YtngkiokibldfjaaGreatDoorCards
import Derived.Test.YtngkiokibldfjaaGreatDoorTie
import Derived.SevenTiedAt
import Derived.Stop.LaidErr
namespace Go.Proofs.YtngkiokibldfjaaGreatDoor
open Go.ChangeShapes Go.WideShapes Go.ChangeAt Go.RowKit
open Go.ChangeMaps (open_string shut_string)
namespace fnExactRunExtent
theorem own : ownKnob Tryz.prog.godebug = none := by kernel_rfl
theorem laidOut : laidOutB Tryz.prog = true := by kernel_rfl
set_option linter.unusedVariables false
set_option maxHeartbeats 20000000 in
set_option maxRecDepth 100000 in
theorem lifted (os : Os) (started : os.Started) (H : Type) (enc : TypeId × Value → H) :
    ReturnsInHanded {} Tryz.checked os 5 .any (fun w args => (Rows.fnExactRunExtentSpec.pre enc Tryz.prog Tryz.f5 [] false w args ∧ laidMetH Tryz.prog laidL w) ∧ sizedMet enc Tryz.prog Tryz.f5 (OpenSpec.ofChange Rows.fnExactRunExtentSpec) false w args)
      (Rows.fnExactRunExtentSpec.post enc Tryz.prog Tryz.f5 false true false false) := by
  refine returnsInHanded_of_change_and (C := Tryz.checked) (X := fun w _ => laidMetH Tryz.prog laidL w) (fun _ _ _ hh h => h.of_heap hh) own started (by kernel_rfl) Tryz.func5
    (ChangeSpec.witness_shaped (enc := enc) (C := Tryz.checked) (os := os) (X := fun w _ => laidMetH Tryz.prog laidL w) false (World.doorLaid Tryz.prog 400 os) #[.agg #[.string ⟨#[]⟩, .int .i64 0], .slice none 0 0] 8 rfl (World.shaped_of_RefB (by kernel_rfl) (by kernel_rfl)) (by kernel_rfl) (by kernel_rfl) (by kernel_rfl) (door_met os _)) ?_
  intro W base args ds gs before hval0 hW _ _ hL _
  have hval : ∀ (j : Nat) t v, Tryz.f5.params[j]? = some t → args[j]? = some v → Value.okWide Tryz.prog W .any base t v := hval0
  have hW' := hW
  obtain ⟨p, q, hA0, hV, rfl, hfz, hnd⟩ := hW
  have hA : DataW.TrodAll enc Tryz.prog W 0 (fun _ => true) true Tryz.f5.params.toList args.toList ds p := hA0
  rw [Tryz.params5] at hA hval
  obtain ⟨v0, vs0, d0, ds0, p0, q0, hargs, rfl, rfl, h0, r0⟩ := trodAll_cons hA
  obtain ⟨v1, vs1, d1, ds1, p1, q1, rfl, rfl, rfl, h1, r1⟩ := trodAll_cons r0
  obtain ⟨rfl, rfl, rfl⟩ := trodAll_nil r1
  obtain rfl : args = #[v0, v1] := by cases args; simp_all
  obtain ⟨xg0, xt0, xc0, xf0, xe0, xq0, xg1, xt1, xc1, xf1, xe1, xq1, rfl, xh0, xk0, xv0, xd0, xh1, xk1, xv1, xd1, rfl⟩ := trodVars_two hV
  obtain rfl := Option.some.inj (gErrA.symm.trans xh0)
  obtain rfl := Option.some.inj (tErrA.symm.trans xk0)
  obtain rfl := Option.some.inj (gErrB.symm.trans xh1)
  obtain rfl := Option.some.inj (tErrB.symm.trans xk1)
  obtain ⟨xo0, rfl, xi0, rfl, rfl, xz0⟩ := token_of xh0 Tryz.underlying127 xv0 xd0
  obtain ⟨xo1, rfl, xi1, rfl, rfl, xz1⟩ := token_of xh1 Tryz.underlying127 xv1 xd1
  obtain ⟨cs0, rfl, sz0⟩ := okWide_struct Tryz.underlying46 (hval 0 46 v0 rfl rfl)
  have k0 := h0
  have lt0 : ∀ x ∈ p0, x.block < W.heap.size := by obtain ⟨m, hm⟩ := k0; exact DataW.trod_lt m _ _ _ hm
  obtain ⟨fu0, hf0⟩ := h0
  obtain ⟨e0_0, e0_1, rfl⟩ := arr2 (show cs0.size = 2 by rw [sz0]; kernel_rfl)
  obtain ⟨_, _, _, _, _, g0_0, g0_1⟩ := trod_struct2 Tryz.underlying46 hf0
  obtain ⟨a0_0, i0_0, _, w0_0⟩ := DataW.trod_string Tryz.underlying9 g0_0
  simp [Value.cells, show Tryz.prog.cellsOf 9 = 1 from by kernel_rfl] at i0_0
  obtain rfl := i0_0
  obtain ⟨a0_1, i0_1, _, w0_1⟩ := DataW.trod_int Tryz.underlying2 g0_1
  simp [Value.cells, show Tryz.prog.cellsOf 2 = 1 from by kernel_rfl] at i0_1
  obtain rfl := i0_1
  obtain ⟨a1, len1, cap1, rfl⟩ := okWide_slice Tryz.underlying47 (hval 1 47 v1 rfl rfl)
  have k1 := h1
  have lt1 : ∀ x ∈ p1, x.block < W.heap.size := by obtain ⟨m, hm⟩ := k1; exact DataW.trod_lt m _ _ _ hm
  obtain ⟨fu1, hf1⟩ := h1
  obtain ⟨b1, m1, cb1, o1, i1, x1⟩ := open_ops Tryz.underlying47 (OpTy.mk ⟨_, _, _, _, _, _, Tryz.underlying84, ⟨rfl, rfl, rfl, rfl, rfl, rfl⟩, ⟨by kernel_rfl, by kernel_rfl, by kernel_rfl, by kernel_rfl, by kernel_rfl, by kernel_rfl⟩, Tryz.underlying2, Tryz.underlying9, Tryz.underlying9, Tryz.underlying2, Tryz.underlying2, Tryz.underlying2⟩ (by kernel_rfl)) hf1
  simp [Value.cells] at i1
  obtain ⟨rfl, rfl, rfl⟩ := i1
  clear hA0 hval0
  refine (fnExactRunExtent_walk (errs_of_laid hL) a0_0 w0_0 a0_1 w0_1 a1 len1 cap1 o1 x1 (w := W)).mono fun e W' ⟨he, bel⟩ => ?_
  subst he
  exact ⟨_, rfl, _, _, _, [], _, _, hW', trodAll_mk1 (shut_bool Tryz.underlying4 _), (trodAll_cons_mk (Below.trod laidOut (by kernel_rfl) (of_decide_eq_true (by kernel_rfl)) k0 bel lt0) (trodAll_cons_mk (Below.trod laidOut (by kernel_rfl) (of_decide_eq_true (by kernel_rfl)) k1 bel lt1) trodAll_mk0)), vars_read2 enc xh0 xk0 Tryz.underlying127 (var_below xh0 xv0 bel (cell_lt xz0)) xi0 xh1 xk1 Tryz.underlying127 (var_below xh1 xv1 bel (cell_lt xz1)) xi1 _, bel.frame _, fun h => by cases h⟩
theorem over : Rows.fnExactRunExtentRow.holds Tryz.pinned (OpenSpec.ofChange Rows.fnExactRunExtentSpec) :=
  OpenClaim.holds_of_wide 5 Tryz.f5 rfl rfl rfl rfl rfl rfl rfl ⟨rfl, rfl, rfl, rfl, rfl⟩ rfl rfl rfl rfl rfl (by kernel_rfl) Tryz.func5 (by kernel_rfl)
    (of_decide_eq_true (by kernel_rfl)) (by unfold Func.isWrapper; first | (rw [if_pos (by decide +kernel)]; kernel_rfl) | (rw [if_neg (by decide +kernel)]; exact ⟨rfl, rfl⟩))
    (fun os started H enc _ => lifted os started H enc)
end fnExactRunExtent
theorem fnExactRunExtent_proved : Rows.FnExactRunExtentCardSaid :=
  Claim7.holds_tied_plain_at .later [] [.data, .data, .data, .sentinel, .sentinel] true (true, "517a704f5f76f9e3d5110e919afb53e672b176816ae673929a32819a89c66348") true
    fnExactRunExtent.over (fun _ h => by cases h) (by kernel_rfl) (fun _ h => by cases h) fnExactRunExtent_row_tie rfl ⟨rfl, rfl⟩ (by kernel_rfl) rfl
    (fun f fn hf hfn => by
      obtain rfl : f = 5 := Option.some.inj ((show Tryz.prog.funcNamed "loop.example/g00020/laws.FnExactRunExtent" = some 5 by kernel_rfl).symm.trans hf) |>.symm
      obtain rfl : fn = Tryz.f5 := (Option.some.inj (Tryz.func5.symm.trans hfn)).symm
      exact ⟨by kernel_rfl, fun j t ht => by
        rw [Tryz.params5] at ht
        have hm : t ∈ [46, 47] := by simpa using Array.mem_of_getElem? ht
        have hall : ([46, 47].all fun u => !Tryz.prog.wantsStandIn u) = true := by kernel_rfl
        exact (show Tryz.prog.wantsStandIn t = false by simpa using List.all_eq_true.1 hall t hm)⟩)
    (by kernel_rfl)
#print axioms fnExactRunExtent_proved
end Go.Proofs.YtngkiokibldfjaaGreatDoor
