/-
  DERIVED. GIVEN WITH THE SEED: THE CARDS: each row of YtgjkhjpkdkcnfabDoorRows.lean that lists a variable, with what it lists TIED to the program's text (the seventh form; the later family's looks); each row that meets fmt, with fmt's text TOLD by the authors' own Lean function (tested against real Go, not proved from fmt's source: count such statements apart). THE CARD IS WHAT COUNTS. Prove the row's statement (the work); the ties are given (YtgjkhjpkdkcnfabDoorTie.lean); close each card by the builder's one call (the guide's Derived/Test/ToyasCard.lean, 'card_holds'). Laid BY PROGRAM, IN A SANDBOX (cutbox-door.mjs). By AI agents, Wed Nov 11 2026. No macro, syntax, notation, axiom, sorry.
-/
import Derived.Test.YtgjkhjpkdkcnfabDoorRows
import GoSem.ClaimSeven
namespace Go.Proofs.YtgjkhjpkdkcnfabDoor
namespace Rows

/-- THE TIED CARD OF 'laws.FnExactWriteRequest'. -/
def fnExactWriteRequestCard : Claim7 := { stood := { row := fnExactWriteRequestRow, standIns := [], harness := (true, "caf8d1ae2bf3af4f749d2597737abcec026ff0092065cdccfc1cda4ee4afd534"), looks := false }, kinds := [], alts := [], laidByText := true, laidKinds := [.data, .data, .data, .data, .pinned], laidTests := true, laidLooks := .later }
def FnExactWriteRequestCardSaid : Prop := Claim7.holds Tryd.pinned (.plain (OpenSpec.ofChange fnExactWriteRequestSpec)) fnExactWriteRequestCard

/-- THE SECOND FORM's CARD OF 'laws.FnExactWriteRequest'. -/
def fnExactWriteRequestUptoCard : Claim7 := { stood := { row := fnExactWriteRequestUptoRow, standIns := [], harness := (true, "caf8d1ae2bf3af4f749d2597737abcec026ff0092065cdccfc1cda4ee4afd534"), looks := false }, kinds := [], alts := [], laidByText := true, laidKinds := [.data, .data, .data, .data, .pinned], laidTests := true, laidLooks := .later }
def FnExactWriteRequestUptoCardSaid : Prop := Claim7.holds Tryd.pinned (.plain (OpenSpec.upto fnExactWriteRequestSpec)) fnExactWriteRequestUptoCard
end Rows
end Go.Proofs.YtgjkhjpkdkcnfabDoor
