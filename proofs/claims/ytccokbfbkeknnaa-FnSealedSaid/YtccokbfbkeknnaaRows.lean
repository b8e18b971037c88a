/-
  No cell of these rows narrows 'for every input' (looked for: loops, veiled, ifaces, maps, wideKeys, modest, calm, conditions, laid).
  DERIVED. THE GIVEN ROWS OF THIS SEAT. 5 by the template 'for every input the law returns true; each argument reads behind the call as it read before'; 0 by the template 'total and deterministic' (their statements: YtccokbfbkeknnaaTotals.lean).
  GIVEN WITH THE SEED: the statements are not yours to turn. If you find one false, say at which input.
  Laid BY PROGRAM, IN A SANDBOX (cutbox-rows.mjs): the forced cells as the released guide's own fill.sh prints them over the translation e8e21c0ab386beac… (all of the seat's roots in one cut). By AI agents, Wed Nov 11 2026. No macro, syntax, notation, axiom, sorry.
-/
import Derived.Test.YtccokbfbkeknnaaChecked
import GoSem.Claim
import GoSem.ClaimJoined
import GoSem.ClaimMapViews
import Derived.JoinedTies
import Derived.KernelRfl
namespace Go.Proofs.Ytccokbfbkeknnaa
/- THE CELL 'sum', in the pinned program and in every row, IS THE sha256 OF THE DUMP (.gsa) THAT YtccokbfbkeknnaaProg.lean LOADS. Nothing in Lean hashes anything: it is a label: what it is worth is what the hold of that sum in a sandbox is worth. -/
noncomputable def Try.pinned : Pinned := { name := "ytccokbfbkeknnaa", sum := "e8e21c0ab386beac7960f29b923fafc11d6f25f754f65c4c782b7b080aa397a4", checked := Try.checked }
namespace Rows
def none {H : Type} : Left H := { results := [], args := [] }

/-- 'laws.FnSealed': WHATEVER THE INPUT: true; the input reads as it did. -/
def fnSealedSpec : ChangeSpec := { name := "fnSealed", fn := fun _ => fun
  | [d1, d2] => { results := [.lit (.bool true)], args := [d1, d2] }
  | _ => none }
def fnSealedRow : OpenClaim := { program := "ytccokbfbkeknnaa", sum := "e8e21c0ab386beac7960f29b923fafc11d6f25f754f65c4c782b7b080aa397a4", func := "loop.example/g00020/laws.FnSealed", spec := "fnSealed", unfollowed := true, recurses := true, apart := false }
def FnSealedSaid : Prop := fnSealedRow.holds Try.pinned (OpenSpec.ofChange fnSealedSpec)

/-- ITS FALSE NEIGHBOUR: 'it returns false'. Refute it at one input. -/
def fnSealedWrong : ChangeSpec := { name := "fnSealed", fn := fun _ => fun
  | [d1, d2] => { results := [.lit (.bool false)], args := [d1, d2] }
  | _ => none }
def FnSealedWrongFalsely : Prop := fnSealedRow.holds Try.pinned (OpenSpec.ofChange fnSealedWrong)

/-- 'laws.FnExactStreamOf': WHATEVER THE INPUT: true; the input reads as it did. -/
def fnExactStreamOfSpec : ChangeSpec := { name := "fnExactStreamOf", fn := fun _ => fun
  | [d1, d2, d3] => { results := [.lit (.bool true)], args := [d1, d2, d3] }
  | _ => none }
def fnExactStreamOfRow : OpenClaim := { program := "ytccokbfbkeknnaa", sum := "e8e21c0ab386beac7960f29b923fafc11d6f25f754f65c4c782b7b080aa397a4", func := "loop.example/g00020/laws.FnExactStreamOf", spec := "fnExactStreamOf", unfollowed := true, recurses := true, apart := false }
def FnExactStreamOfSaid : Prop := fnExactStreamOfRow.holds Try.pinned (OpenSpec.ofChange fnExactStreamOfSpec)

/-- ITS FALSE NEIGHBOUR: 'it returns false'. Refute it at one input. -/
def fnExactStreamOfWrong : ChangeSpec := { name := "fnExactStreamOf", fn := fun _ => fun
  | [d1, d2, d3] => { results := [.lit (.bool false)], args := [d1, d2, d3] }
  | _ => none }
def FnExactStreamOfWrongFalsely : Prop := fnExactStreamOfRow.holds Try.pinned (OpenSpec.ofChange fnExactStreamOfWrong)

/-- 'laws.FnExactSealObject': WHATEVER THE INPUT: true; the input reads as it did. -/
def fnExactSealObjectSpec : ChangeSpec := { name := "fnExactSealObject", fn := fun _ => fun
  | [d1, d2, d3, d4] => { results := [.lit (.bool true)], args := [d1, d2, d3, d4] }
  | _ => none }
def fnExactSealObjectRow : OpenClaim := { program := "ytccokbfbkeknnaa", sum := "e8e21c0ab386beac7960f29b923fafc11d6f25f754f65c4c782b7b080aa397a4", func := "loop.example/g00020/laws.FnExactSealObject", spec := "fnExactSealObject", unfollowed := true, recurses := true, apart := false }
def FnExactSealObjectSaid : Prop := fnExactSealObjectRow.holds Try.pinned (OpenSpec.ofChange fnExactSealObjectSpec)

/-- ITS FALSE NEIGHBOUR: 'it returns false'. Refute it at one input. -/
def fnExactSealObjectWrong : ChangeSpec := { name := "fnExactSealObject", fn := fun _ => fun
  | [d1, d2, d3, d4] => { results := [.lit (.bool false)], args := [d1, d2, d3, d4] }
  | _ => none }
def FnExactSealObjectWrongFalsely : Prop := fnExactSealObjectRow.holds Try.pinned (OpenSpec.ofChange fnExactSealObjectWrong)

/-- 'laws.FnExactOpenSealed': WHATEVER THE INPUT: true; the input reads as it did. -/
def fnExactOpenSealedSpec : ChangeSpec := { name := "fnExactOpenSealed", fn := fun _ => fun
  | [d1, d2, d3] => { results := [.lit (.bool true)], args := [d1, d2, d3] }
  | _ => none }
def fnExactOpenSealedRow : OpenClaim := { program := "ytccokbfbkeknnaa", sum := "e8e21c0ab386beac7960f29b923fafc11d6f25f754f65c4c782b7b080aa397a4", func := "loop.example/g00020/laws.FnExactOpenSealed", spec := "fnExactOpenSealed", unfollowed := true, recurses := true, apart := false }
def FnExactOpenSealedSaid : Prop := fnExactOpenSealedRow.holds Try.pinned (OpenSpec.ofChange fnExactOpenSealedSpec)

/-- ITS FALSE NEIGHBOUR: 'it returns false'. Refute it at one input. -/
def fnExactOpenSealedWrong : ChangeSpec := { name := "fnExactOpenSealed", fn := fun _ => fun
  | [d1, d2, d3] => { results := [.lit (.bool false)], args := [d1, d2, d3] }
  | _ => none }
def FnExactOpenSealedWrongFalsely : Prop := fnExactOpenSealedRow.holds Try.pinned (OpenSpec.ofChange fnExactOpenSealedWrong)

/-- 'laws.FnExactRewrap': WHATEVER THE INPUT: true; the input reads as it did. -/
def fnExactRewrapSpec : ChangeSpec := { name := "fnExactRewrap", fn := fun _ => fun
  | [d1, d2, d3, d4] => { results := [.lit (.bool true)], args := [d1, d2, d3, d4] }
  | _ => none }
def fnExactRewrapRow : OpenClaim := { program := "ytccokbfbkeknnaa", sum := "e8e21c0ab386beac7960f29b923fafc11d6f25f754f65c4c782b7b080aa397a4", func := "loop.example/g00020/laws.FnExactRewrap", spec := "fnExactRewrap", unfollowed := true, recurses := true, apart := false }
def FnExactRewrapSaid : Prop := fnExactRewrapRow.holds Try.pinned (OpenSpec.ofChange fnExactRewrapSpec)

/-- ITS FALSE NEIGHBOUR: 'it returns false'. Refute it at one input. -/
def fnExactRewrapWrong : ChangeSpec := { name := "fnExactRewrap", fn := fun _ => fun
  | [d1, d2, d3, d4] => { results := [.lit (.bool false)], args := [d1, d2, d3, d4] }
  | _ => none }
def FnExactRewrapWrongFalsely : Prop := fnExactRewrapRow.holds Try.pinned (OpenSpec.ofChange fnExactRewrapWrong)

/- THE SECOND FORM. 'bulk': how many values and letters a reading holds, each counted each time it is reached (what is shared counts as often as it is met; a slice's spare places count too). A statement '..UptoSaid' is the law's where the arguments, and the package variables that the reading takes, are together of bulk at most 1048576: NARROWER than '..Said'. Prove '..Said' where nothing that the law and all that it calls make is longer than what came in: it says more and counts as full. Else prove '..UptoSaid'. A law counts once. -/
mutual
def uptoBulk {H : Type} : DataW H → Nat
  | .lit (.string bytes) => bytes.length + 1
  | .lit _ => 1
  | .nil => 1
  | .ptr d => uptoBulk d + 1
  | .slice elems spare => uptoBulkAll elems + uptoBulkAll spare + 1
  | .agg parts => uptoBulkAll parts + 1
  | .iface _ d => uptoBulk d + 1
  | .map entries => uptoBulkEntries entries + 1
  | .held _ => 1
def uptoBulkAll {H : Type} : List (DataW H) → Nat
  | [] => 0
  | d :: r => uptoBulk d + uptoBulkAll r
def uptoBulkEntries {H : Type} : List (Lit × DataW H) → Nat
  | [] => 0
  | x :: r => uptoBulkEntry x + uptoBulkEntries r
def uptoBulkEntry {H : Type} : Lit × DataW H → Nat
  | (.string bytes, d) => bytes.length + uptoBulk d + 1
  | (_, d) => uptoBulk d + 1
 end
def uptoSmall : (H : Type) → List (DataW H) → Bool := fun _ ds => decide (uptoBulkAll ds ≤ 1048576)
def OpenSpec.upto (s : _root_.Go.ChangeSpec) : _root_.Go.OpenSpec := { _root_.Go.OpenSpec.ofChange s with cond := some uptoSmall }

/-- 'laws.FnSealed', WHERE WHAT IT READS IS OF BULK AT MOST 1048576: true; the input reads as it did. -/
def fnSealedUptoRow : OpenClaim := { program := "ytccokbfbkeknnaa", sum := "e8e21c0ab386beac7960f29b923fafc11d6f25f754f65c4c782b7b080aa397a4", func := "loop.example/g00020/laws.FnSealed", spec := "fnSealed", unfollowed := true, recurses := true, apart := false, narrowed := true }
def FnSealedUptoSaid : Prop := fnSealedUptoRow.holds Try.pinned (OpenSpec.upto fnSealedSpec)

/-- 'laws.FnExactStreamOf', WHERE WHAT IT READS IS OF BULK AT MOST 1048576: true; the input reads as it did. -/
def fnExactStreamOfUptoRow : OpenClaim := { program := "ytccokbfbkeknnaa", sum := "e8e21c0ab386beac7960f29b923fafc11d6f25f754f65c4c782b7b080aa397a4", func := "loop.example/g00020/laws.FnExactStreamOf", spec := "fnExactStreamOf", unfollowed := true, recurses := true, apart := false, narrowed := true }
def FnExactStreamOfUptoSaid : Prop := fnExactStreamOfUptoRow.holds Try.pinned (OpenSpec.upto fnExactStreamOfSpec)

/-- 'laws.FnExactSealObject', WHERE WHAT IT READS IS OF BULK AT MOST 1048576: true; the input reads as it did. -/
def fnExactSealObjectUptoRow : OpenClaim := { program := "ytccokbfbkeknnaa", sum := "e8e21c0ab386beac7960f29b923fafc11d6f25f754f65c4c782b7b080aa397a4", func := "loop.example/g00020/laws.FnExactSealObject", spec := "fnExactSealObject", unfollowed := true, recurses := true, apart := false, narrowed := true }
def FnExactSealObjectUptoSaid : Prop := fnExactSealObjectUptoRow.holds Try.pinned (OpenSpec.upto fnExactSealObjectSpec)

/-- 'laws.FnExactOpenSealed', WHERE WHAT IT READS IS OF BULK AT MOST 1048576: true; the input reads as it did. -/
def fnExactOpenSealedUptoRow : OpenClaim := { program := "ytccokbfbkeknnaa", sum := "e8e21c0ab386beac7960f29b923fafc11d6f25f754f65c4c782b7b080aa397a4", func := "loop.example/g00020/laws.FnExactOpenSealed", spec := "fnExactOpenSealed", unfollowed := true, recurses := true, apart := false, narrowed := true }
def FnExactOpenSealedUptoSaid : Prop := fnExactOpenSealedUptoRow.holds Try.pinned (OpenSpec.upto fnExactOpenSealedSpec)

/-- 'laws.FnExactRewrap', WHERE WHAT IT READS IS OF BULK AT MOST 1048576: true; the input reads as it did. -/
def fnExactRewrapUptoRow : OpenClaim := { program := "ytccokbfbkeknnaa", sum := "e8e21c0ab386beac7960f29b923fafc11d6f25f754f65c4c782b7b080aa397a4", func := "loop.example/g00020/laws.FnExactRewrap", spec := "fnExactRewrap", unfollowed := true, recurses := true, apart := false, narrowed := true }
def FnExactRewrapUptoSaid : Prop := fnExactRewrapUptoRow.holds Try.pinned (OpenSpec.upto fnExactRewrapSpec)

end Rows
end Go.Proofs.Ytccokbfbkeknnaa
