/-
  DERIVED. GIVEN WITH THE SEED: THE CARDS: each row of YtokjfffcciddhaaGreatDoorRows.lean that lists a variable, with what it lists TIED to the program's text (the seventh form; the later family's looks); each row that meets fmt, with fmt's text TOLD by the authors' own Lean function (tested against real Go, not proved from fmt's source: count such statements apart). THE CARD IS WHAT COUNTS. Prove the row's statement (the work); the ties are given (YtokjfffcciddhaaGreatDoorTie.lean); close each card by the builder's one call (the guide's Derived/Test/ToyasCard.lean, 'card_holds'). Laid BY PROGRAM, IN A SANDBOX (cutbox-door.mjs). By AI agents, Wed Nov 11 2026. No macro, syntax, notation, axiom, sorry.
-/
import Derived.Test.YtokjfffcciddhaaGreatDoorRows
import GoSem.ClaimSeven
namespace Go.Proofs.YtokjfffcciddhaaGreatDoor
namespace Rows

/-- THE TIED CARD OF 'laws.FnExactWorldFault'. -/
def fnExactWorldFaultCard : Claim7 := { stood := { row := fnExactWorldFaultRow, standIns := [], harness := (true, "bbb68cb80044e5e486fdd25afd217c2754d9620d24a0ba9a805afd97395f685e"), looks := true }, kinds := [], alts := [], laidByText := true, laidKinds := [.data, .data, .data, .data, .sentinel, .sentinel, .pinned], laidTests := true, laidLooks := .later }
def FnExactWorldFaultCardSaid : Prop := Claim7.holds Tryz.pinned (.plain (OpenSpec.ofChange fnExactWorldFaultSpec)) fnExactWorldFaultCard

/-- THE SECOND FORM's CARD OF 'laws.FnExactWorldFault'. -/
def fnExactWorldFaultUptoCard : Claim7 := { stood := { row := fnExactWorldFaultUptoRow, standIns := [], harness := (true, "bbb68cb80044e5e486fdd25afd217c2754d9620d24a0ba9a805afd97395f685e"), looks := true }, kinds := [], alts := [], laidByText := true, laidKinds := [.data, .data, .data, .data, .sentinel, .sentinel, .pinned], laidTests := true, laidLooks := .later }
def FnExactWorldFaultUptoCardSaid : Prop := Claim7.holds Tryz.pinned (.plain (OpenSpec.upto fnExactWorldFaultSpec)) fnExactWorldFaultUptoCard
end Rows
end Go.Proofs.YtokjfffcciddhaaGreatDoor
