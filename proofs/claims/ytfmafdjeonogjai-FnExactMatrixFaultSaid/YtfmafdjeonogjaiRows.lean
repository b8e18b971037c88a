/-
  No cell of these rows narrows 'for every input' (looked for: loops, veiled, ifaces, maps, wideKeys, modest, calm, conditions, laid).
  DERIVED. THE GIVEN ROWS OF THIS SEAT. 6 by the template 'for every input the law returns true; each argument reads behind the call as it read before'; 0 by the template 'total and deterministic' (their statements: YtfmafdjeonogjaiTotals.lean).
  GIVEN WITH THE SEED: the statements are not yours to turn. If you find one false, say at which input.
  Laid BY PROGRAM, IN A SANDBOX (cutbox-rows.mjs): the forced cells as the released guide's own fill.sh prints them over the translation fba0b9dbcb52ab82… (all of the seat's roots in one cut). By AI agents, Wed Nov 11 2026. No macro, syntax, notation, axiom, sorry.
-/
import Derived.Test.YtfmafdjeonogjaiChecked
import GoSem.Claim
import GoSem.ClaimJoined
import GoSem.ClaimMapViews
import Derived.JoinedTies
import Derived.KernelRfl
namespace Go.Proofs.Ytfmafdjeonogjai
/- THE CELL 'sum', in the pinned program and in every row, IS THE sha256 OF THE DUMP (.gsa) THAT YtfmafdjeonogjaiProg.lean LOADS. Nothing in Lean hashes anything: it is a label: what it is worth is what the hold of that sum in a sandbox is worth. -/
noncomputable def Try.pinned : Pinned := { name := "ytfmafdjeonogjai", sum := "fba0b9dbcb52ab82b36bf31236fe8651372f4685223ced6f3446a8f9f87f94b3", checked := Try.checked }
namespace Rows
def none {H : Type} : Left H := { results := [], args := [] }

/-- 'laws.FnExactMul8': WHATEVER THE INPUT: true; the input reads as it did. -/
def fnExactMul8Spec : ChangeSpec := { name := "fnExactMul8", fn := fun _ => fun
  | [d1, d2] => { results := [.lit (.bool true)], args := [d1, d2] }
  | _ => none }
def fnExactMul8Row : OpenClaim := { program := "ytfmafdjeonogjai", sum := "fba0b9dbcb52ab82b36bf31236fe8651372f4685223ced6f3446a8f9f87f94b3", func := "loop.example/g00020/laws.FnExactMul8", spec := "fnExactMul8", apart := false }
def FnExactMul8Said : Prop := fnExactMul8Row.holds Try.pinned (OpenSpec.ofChange fnExactMul8Spec)

/-- ITS FALSE NEIGHBOUR: 'it returns false'. Refute it at one input. -/
def fnExactMul8Wrong : ChangeSpec := { name := "fnExactMul8", fn := fun _ => fun
  | [d1, d2] => { results := [.lit (.bool false)], args := [d1, d2] }
  | _ => none }
def FnExactMul8WrongFalsely : Prop := fnExactMul8Row.holds Try.pinned (OpenSpec.ofChange fnExactMul8Wrong)

/-- 'laws.FnExactInv8': WHATEVER THE INPUT: true; the input reads as it did. -/
def fnExactInv8Spec : ChangeSpec := { name := "fnExactInv8", fn := fun _ => fun
  | [d] => { results := [.lit (.bool true)], args := [d] }
  | _ => none }
def fnExactInv8Row : OpenClaim := { program := "ytfmafdjeonogjai", sum := "fba0b9dbcb52ab82b36bf31236fe8651372f4685223ced6f3446a8f9f87f94b3", func := "loop.example/g00020/laws.FnExactInv8", spec := "fnExactInv8", apart := false }
def FnExactInv8Said : Prop := fnExactInv8Row.holds Try.pinned (OpenSpec.ofChange fnExactInv8Spec)

/-- ITS FALSE NEIGHBOUR: 'it returns false'. Refute it at one input. -/
def fnExactInv8Wrong : ChangeSpec := { name := "fnExactInv8", fn := fun _ => fun
  | [d] => { results := [.lit (.bool false)], args := [d] }
  | _ => none }
def FnExactInv8WrongFalsely : Prop := fnExactInv8Row.holds Try.pinned (OpenSpec.ofChange fnExactInv8Wrong)

/-- 'laws.FnExactPow8': WHATEVER THE INPUT: true; the input reads as it did. -/
def fnExactPow8Spec : ChangeSpec := { name := "fnExactPow8", fn := fun _ => fun
  | [d1, d2] => { results := [.lit (.bool true)], args := [d1, d2] }
  | _ => none }
def fnExactPow8Row : OpenClaim := { program := "ytfmafdjeonogjai", sum := "fba0b9dbcb52ab82b36bf31236fe8651372f4685223ced6f3446a8f9f87f94b3", func := "loop.example/g00020/laws.FnExactPow8", spec := "fnExactPow8", apart := false }
def FnExactPow8Said : Prop := fnExactPow8Row.holds Try.pinned (OpenSpec.ofChange fnExactPow8Spec)

/-- ITS FALSE NEIGHBOUR: 'it returns false'. Refute it at one input. -/
def fnExactPow8Wrong : ChangeSpec := { name := "fnExactPow8", fn := fun _ => fun
  | [d1, d2] => { results := [.lit (.bool false)], args := [d1, d2] }
  | _ => none }
def FnExactPow8WrongFalsely : Prop := fnExactPow8Row.holds Try.pinned (OpenSpec.ofChange fnExactPow8Wrong)

/-- 'laws.FnExactMul16': WHATEVER THE INPUT: true; the input reads as it did. -/
def fnExactMul16Spec : ChangeSpec := { name := "fnExactMul16", fn := fun _ => fun
  | [d1, d2] => { results := [.lit (.bool true)], args := [d1, d2] }
  | _ => none }
def fnExactMul16Row : OpenClaim := { program := "ytfmafdjeonogjai", sum := "fba0b9dbcb52ab82b36bf31236fe8651372f4685223ced6f3446a8f9f87f94b3", func := "loop.example/g00020/laws.FnExactMul16", spec := "fnExactMul16", apart := false }
def FnExactMul16Said : Prop := fnExactMul16Row.holds Try.pinned (OpenSpec.ofChange fnExactMul16Spec)

/-- ITS FALSE NEIGHBOUR: 'it returns false'. Refute it at one input. -/
def fnExactMul16Wrong : ChangeSpec := { name := "fnExactMul16", fn := fun _ => fun
  | [d1, d2] => { results := [.lit (.bool false)], args := [d1, d2] }
  | _ => none }
def FnExactMul16WrongFalsely : Prop := fnExactMul16Row.holds Try.pinned (OpenSpec.ofChange fnExactMul16Wrong)

/-- 'laws.FnExactInv16': WHATEVER THE INPUT: true; the input reads as it did. -/
def fnExactInv16Spec : ChangeSpec := { name := "fnExactInv16", fn := fun _ => fun
  | [d] => { results := [.lit (.bool true)], args := [d] }
  | _ => none }
def fnExactInv16Row : OpenClaim := { program := "ytfmafdjeonogjai", sum := "fba0b9dbcb52ab82b36bf31236fe8651372f4685223ced6f3446a8f9f87f94b3", func := "loop.example/g00020/laws.FnExactInv16", spec := "fnExactInv16", apart := false }
def FnExactInv16Said : Prop := fnExactInv16Row.holds Try.pinned (OpenSpec.ofChange fnExactInv16Spec)

/-- ITS FALSE NEIGHBOUR: 'it returns false'. Refute it at one input. -/
def fnExactInv16Wrong : ChangeSpec := { name := "fnExactInv16", fn := fun _ => fun
  | [d] => { results := [.lit (.bool false)], args := [d] }
  | _ => none }
def FnExactInv16WrongFalsely : Prop := fnExactInv16Row.holds Try.pinned (OpenSpec.ofChange fnExactInv16Wrong)

/-- 'laws.FnExactMatrixFault': WHATEVER THE INPUT: true; the input reads as it did. -/
def fnExactMatrixFaultSpec : ChangeSpec := { name := "fnExactMatrixFault", fn := fun _ => fun
  | [d] => { results := [.lit (.bool true)], args := [d] }
  | _ => none }
def fnExactMatrixFaultRow : OpenClaim := { program := "ytfmafdjeonogjai", sum := "fba0b9dbcb52ab82b36bf31236fe8651372f4685223ced6f3446a8f9f87f94b3", func := "loop.example/g00020/laws.FnExactMatrixFault", spec := "fnExactMatrixFault", apart := false }
def FnExactMatrixFaultSaid : Prop := fnExactMatrixFaultRow.holds Try.pinned (OpenSpec.ofChange fnExactMatrixFaultSpec)

/-- ITS FALSE NEIGHBOUR: 'it returns false'. Refute it at one input. -/
def fnExactMatrixFaultWrong : ChangeSpec := { name := "fnExactMatrixFault", fn := fun _ => fun
  | [d] => { results := [.lit (.bool false)], args := [d] }
  | _ => none }
def FnExactMatrixFaultWrongFalsely : Prop := fnExactMatrixFaultRow.holds Try.pinned (OpenSpec.ofChange fnExactMatrixFaultWrong)

/- THE SECOND FORM. 'bulk': how many values and letters a reading holds, each counted each time it is reached (what is shared counts as often as it is met; a slice's spare places count too). A statement '..UptoSaid' is the law's where the arguments, and the package variables that the reading takes, are together of bulk at most 1048576: NARROWER than '..Said'. Prove '..Said' where nothing that the law and all that it calls make is longer than what came in: it says more and counts as full. Else prove '..UptoSaid'. A law counts once. -/
mutual
def uptoBulk {H : Type} : DataW H → Nat
  | .lit (.string bytes) => bytes.length + 1
  | .lit _ => 1
  | .nil => 1
  | .ptr d => uptoBulk d + 1
  | .slice elems spare => uptoBulkAll elems + uptoBulkAll spare + 1
  | .agg parts => uptoBulkAll parts + 1
  | .iface _ d => uptoBulk d + 1
  | .map entries => uptoBulkEntries entries + 1
  | .held _ => 1
def uptoBulkAll {H : Type} : List (DataW H) → Nat
  | [] => 0
  | d :: r => uptoBulk d + uptoBulkAll r
def uptoBulkEntries {H : Type} : List (Lit × DataW H) → Nat
  | [] => 0
  | x :: r => uptoBulkEntry x + uptoBulkEntries r
def uptoBulkEntry {H : Type} : Lit × DataW H → Nat
  | (.string bytes, d) => bytes.length + uptoBulk d + 1
  | (_, d) => uptoBulk d + 1
 end
def uptoSmall : (H : Type) → List (DataW H) → Bool := fun _ ds => decide (uptoBulkAll ds ≤ 1048576)
def OpenSpec.upto (s : _root_.Go.ChangeSpec) : _root_.Go.OpenSpec := { _root_.Go.OpenSpec.ofChange s with cond := some uptoSmall }

/-- 'laws.FnExactMul8', WHERE WHAT IT READS IS OF BULK AT MOST 1048576: true; the input reads as it did. -/
def fnExactMul8UptoRow : OpenClaim := { program := "ytfmafdjeonogjai", sum := "fba0b9dbcb52ab82b36bf31236fe8651372f4685223ced6f3446a8f9f87f94b3", func := "loop.example/g00020/laws.FnExactMul8", spec := "fnExactMul8", apart := false, narrowed := true }
def FnExactMul8UptoSaid : Prop := fnExactMul8UptoRow.holds Try.pinned (OpenSpec.upto fnExactMul8Spec)

/-- 'laws.FnExactInv8', WHERE WHAT IT READS IS OF BULK AT MOST 1048576: true; the input reads as it did. -/
def fnExactInv8UptoRow : OpenClaim := { program := "ytfmafdjeonogjai", sum := "fba0b9dbcb52ab82b36bf31236fe8651372f4685223ced6f3446a8f9f87f94b3", func := "loop.example/g00020/laws.FnExactInv8", spec := "fnExactInv8", apart := false, narrowed := true }
def FnExactInv8UptoSaid : Prop := fnExactInv8UptoRow.holds Try.pinned (OpenSpec.upto fnExactInv8Spec)

/-- 'laws.FnExactPow8', WHERE WHAT IT READS IS OF BULK AT MOST 1048576: true; the input reads as it did. -/
def fnExactPow8UptoRow : OpenClaim := { program := "ytfmafdjeonogjai", sum := "fba0b9dbcb52ab82b36bf31236fe8651372f4685223ced6f3446a8f9f87f94b3", func := "loop.example/g00020/laws.FnExactPow8", spec := "fnExactPow8", apart := false, narrowed := true }
def FnExactPow8UptoSaid : Prop := fnExactPow8UptoRow.holds Try.pinned (OpenSpec.upto fnExactPow8Spec)

/-- 'laws.FnExactMul16', WHERE WHAT IT READS IS OF BULK AT MOST 1048576: true; the input reads as it did. -/
def fnExactMul16UptoRow : OpenClaim := { program := "ytfmafdjeonogjai", sum := "fba0b9dbcb52ab82b36bf31236fe8651372f4685223ced6f3446a8f9f87f94b3", func := "loop.example/g00020/laws.FnExactMul16", spec := "fnExactMul16", apart := false, narrowed := true }
def FnExactMul16UptoSaid : Prop := fnExactMul16UptoRow.holds Try.pinned (OpenSpec.upto fnExactMul16Spec)

/-- 'laws.FnExactInv16', WHERE WHAT IT READS IS OF BULK AT MOST 1048576: true; the input reads as it did. -/
def fnExactInv16UptoRow : OpenClaim := { program := "ytfmafdjeonogjai", sum := "fba0b9dbcb52ab82b36bf31236fe8651372f4685223ced6f3446a8f9f87f94b3", func := "loop.example/g00020/laws.FnExactInv16", spec := "fnExactInv16", apart := false, narrowed := true }
def FnExactInv16UptoSaid : Prop := fnExactInv16UptoRow.holds Try.pinned (OpenSpec.upto fnExactInv16Spec)

/-- 'laws.FnExactMatrixFault', WHERE WHAT IT READS IS OF BULK AT MOST 1048576: true; the input reads as it did. -/
def fnExactMatrixFaultUptoRow : OpenClaim := { program := "ytfmafdjeonogjai", sum := "fba0b9dbcb52ab82b36bf31236fe8651372f4685223ced6f3446a8f9f87f94b3", func := "loop.example/g00020/laws.FnExactMatrixFault", spec := "fnExactMatrixFault", apart := false, narrowed := true }
def FnExactMatrixFaultUptoSaid : Prop := fnExactMatrixFaultUptoRow.holds Try.pinned (OpenSpec.upto fnExactMatrixFaultSpec)

end Rows
end Go.Proofs.Ytfmafdjeonogjai
