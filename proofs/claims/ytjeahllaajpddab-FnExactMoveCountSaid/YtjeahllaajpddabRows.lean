/-
  No cell of these rows narrows 'for every input' (looked for: loops, veiled, ifaces, maps, wideKeys, modest, calm, conditions, laid).
  DERIVED. THE GIVEN ROWS OF THIS SEAT. 3 by the template 'for every input the law returns true; each argument reads behind the call as it read before'; 0 by the template 'total and deterministic' (their statements: YtjeahllaajpddabTotals.lean).
  GIVEN WITH THE SEED: the statements are not yours to turn. If you find one false, say at which input.
  Laid BY PROGRAM, IN A SANDBOX (cutbox-rows.mjs): the forced cells as the released guide's own fill.sh prints them over the translation 09352f439d75690e… (all of the seat's roots in one cut). By AI agents, Wed Nov 11 2026. No macro, syntax, notation, axiom, sorry.
-/
import Derived.Test.YtjeahllaajpddabChecked
import GoSem.Claim
import GoSem.ClaimJoined
import GoSem.ClaimMapViews
import Derived.JoinedTies
import Derived.KernelRfl
namespace Go.Proofs.Ytjeahllaajpddab
/- THE CELL 'sum', in the pinned program and in every row, IS THE sha256 OF THE DUMP (.gsa) THAT YtjeahllaajpddabProg.lean LOADS. Nothing in Lean hashes anything: it is a label: what it is worth is what the hold of that sum in a sandbox is worth. -/
noncomputable def Try.pinned : Pinned := { name := "ytjeahllaajpddab", sum := "09352f439d75690e4fc6391209a8d14a4cdb9a6ac705459f7d1c8f1a90557f13", checked := Try.checked }
namespace Rows
def none {H : Type} : Left H := { results := [], args := [] }

/-- 'laws.FnExactNodesFault': WHATEVER THE INPUT: true; the input reads as it did. -/
def fnExactNodesFaultSpec : ChangeSpec := { name := "fnExactNodesFault", fn := fun _ => fun
  | [d] => { results := [.lit (.bool true)], args := [d] }
  | _ => none }
def fnExactNodesFaultRow : OpenClaim := { program := "ytjeahllaajpddab", sum := "09352f439d75690e4fc6391209a8d14a4cdb9a6ac705459f7d1c8f1a90557f13", func := "loop.example/g00020/laws.FnExactNodesFault", spec := "fnExactNodesFault", apart := false }
def FnExactNodesFaultSaid : Prop := fnExactNodesFaultRow.holds Try.pinned (OpenSpec.ofChange fnExactNodesFaultSpec)

/-- ITS FALSE NEIGHBOUR: 'it returns false'. Refute it at one input. -/
def fnExactNodesFaultWrong : ChangeSpec := { name := "fnExactNodesFault", fn := fun _ => fun
  | [d] => { results := [.lit (.bool false)], args := [d] }
  | _ => none }
def FnExactNodesFaultWrongFalsely : Prop := fnExactNodesFaultRow.holds Try.pinned (OpenSpec.ofChange fnExactNodesFaultWrong)

/-- 'laws.FnExactPlaceKey': WHATEVER THE INPUT: true; the input reads as it did. -/
def fnExactPlaceKeySpec : ChangeSpec := { name := "fnExactPlaceKey", fn := fun _ => fun
  | [d1, d2, d3] => { results := [.lit (.bool true)], args := [d1, d2, d3] }
  | _ => none }
def fnExactPlaceKeyRow : OpenClaim := { program := "ytjeahllaajpddab", sum := "09352f439d75690e4fc6391209a8d14a4cdb9a6ac705459f7d1c8f1a90557f13", func := "loop.example/g00020/laws.FnExactPlaceKey", spec := "fnExactPlaceKey", inPlace := ["slices.overlaps[loop.example/g00020/impl.bid]"], unfollowed := true, recurses := true, apart := false }
def FnExactPlaceKeySaid : Prop := fnExactPlaceKeyRow.holds Try.pinned (OpenSpec.ofChange fnExactPlaceKeySpec)

/-- ITS FALSE NEIGHBOUR: 'it returns false'. Refute it at one input. -/
def fnExactPlaceKeyWrong : ChangeSpec := { name := "fnExactPlaceKey", fn := fun _ => fun
  | [d1, d2, d3] => { results := [.lit (.bool false)], args := [d1, d2, d3] }
  | _ => none }
def FnExactPlaceKeyWrongFalsely : Prop := fnExactPlaceKeyRow.holds Try.pinned (OpenSpec.ofChange fnExactPlaceKeyWrong)

/-- 'laws.FnExactMoveCount': WHATEVER THE INPUT: true; the input reads as it did. -/
def fnExactMoveCountSpec : ChangeSpec := { name := "fnExactMoveCount", fn := fun _ => fun
  | [d1, d2, d3, d4] => { results := [.lit (.bool true)], args := [d1, d2, d3, d4] }
  | _ => none }
def fnExactMoveCountRow : OpenClaim := { program := "ytjeahllaajpddab", sum := "09352f439d75690e4fc6391209a8d14a4cdb9a6ac705459f7d1c8f1a90557f13", func := "loop.example/g00020/laws.FnExactMoveCount", spec := "fnExactMoveCount", inPlace := ["slices.overlaps[loop.example/g00020/impl.bid]"], unfollowed := true, recurses := true, apart := false }
def FnExactMoveCountSaid : Prop := fnExactMoveCountRow.holds Try.pinned (OpenSpec.ofChange fnExactMoveCountSpec)

/-- ITS FALSE NEIGHBOUR: 'it returns false'. Refute it at one input. -/
def fnExactMoveCountWrong : ChangeSpec := { name := "fnExactMoveCount", fn := fun _ => fun
  | [d1, d2, d3, d4] => { results := [.lit (.bool false)], args := [d1, d2, d3, d4] }
  | _ => none }
def FnExactMoveCountWrongFalsely : Prop := fnExactMoveCountRow.holds Try.pinned (OpenSpec.ofChange fnExactMoveCountWrong)

/- THE SECOND FORM. 'bulk': how many values and letters a reading holds, each counted each time it is reached (what is shared counts as often as it is met; a slice's spare places count too). A statement '..UptoSaid' is the law's where the arguments, and the package variables that the reading takes, are together of bulk at most 1048576: NARROWER than '..Said'. Prove '..Said' where nothing that the law and all that it calls make is longer than what came in: it says more and counts as full. Else prove '..UptoSaid'. A law counts once. -/
mutual
def uptoBulk {H : Type} : DataW H → Nat
  | .lit (.string bytes) => bytes.length + 1
  | .lit _ => 1
  | .nil => 1
  | .ptr d => uptoBulk d + 1
  | .slice elems spare => uptoBulkAll elems + uptoBulkAll spare + 1
  | .agg parts => uptoBulkAll parts + 1
  | .iface _ d => uptoBulk d + 1
  | .map entries => uptoBulkEntries entries + 1
  | .held _ => 1
def uptoBulkAll {H : Type} : List (DataW H) → Nat
  | [] => 0
  | d :: r => uptoBulk d + uptoBulkAll r
def uptoBulkEntries {H : Type} : List (Lit × DataW H) → Nat
  | [] => 0
  | x :: r => uptoBulkEntry x + uptoBulkEntries r
def uptoBulkEntry {H : Type} : Lit × DataW H → Nat
  | (.string bytes, d) => bytes.length + uptoBulk d + 1
  | (_, d) => uptoBulk d + 1
 end
def uptoSmall : (H : Type) → List (DataW H) → Bool := fun _ ds => decide (uptoBulkAll ds ≤ 1048576)
def OpenSpec.upto (s : _root_.Go.ChangeSpec) : _root_.Go.OpenSpec := { _root_.Go.OpenSpec.ofChange s with cond := some uptoSmall }

/-- 'laws.FnExactNodesFault', WHERE WHAT IT READS IS OF BULK AT MOST 1048576: true; the input reads as it did. -/
def fnExactNodesFaultUptoRow : OpenClaim := { program := "ytjeahllaajpddab", sum := "09352f439d75690e4fc6391209a8d14a4cdb9a6ac705459f7d1c8f1a90557f13", func := "loop.example/g00020/laws.FnExactNodesFault", spec := "fnExactNodesFault", apart := false, narrowed := true }
def FnExactNodesFaultUptoSaid : Prop := fnExactNodesFaultUptoRow.holds Try.pinned (OpenSpec.upto fnExactNodesFaultSpec)

/-- 'laws.FnExactPlaceKey', WHERE WHAT IT READS IS OF BULK AT MOST 1048576: true; the input reads as it did. -/
def fnExactPlaceKeyUptoRow : OpenClaim := { program := "ytjeahllaajpddab", sum := "09352f439d75690e4fc6391209a8d14a4cdb9a6ac705459f7d1c8f1a90557f13", func := "loop.example/g00020/laws.FnExactPlaceKey", spec := "fnExactPlaceKey", inPlace := ["slices.overlaps[loop.example/g00020/impl.bid]"], unfollowed := true, recurses := true, apart := false, narrowed := true }
def FnExactPlaceKeyUptoSaid : Prop := fnExactPlaceKeyUptoRow.holds Try.pinned (OpenSpec.upto fnExactPlaceKeySpec)

/-- 'laws.FnExactMoveCount', WHERE WHAT IT READS IS OF BULK AT MOST 1048576: true; the input reads as it did. -/
def fnExactMoveCountUptoRow : OpenClaim := { program := "ytjeahllaajpddab", sum := "09352f439d75690e4fc6391209a8d14a4cdb9a6ac705459f7d1c8f1a90557f13", func := "loop.example/g00020/laws.FnExactMoveCount", spec := "fnExactMoveCount", inPlace := ["slices.overlaps[loop.example/g00020/impl.bid]"], unfollowed := true, recurses := true, apart := false, narrowed := true }
def FnExactMoveCountUptoSaid : Prop := fnExactMoveCountUptoRow.holds Try.pinned (OpenSpec.upto fnExactMoveCountSpec)

end Rows
end Go.Proofs.Ytjeahllaajpddab
