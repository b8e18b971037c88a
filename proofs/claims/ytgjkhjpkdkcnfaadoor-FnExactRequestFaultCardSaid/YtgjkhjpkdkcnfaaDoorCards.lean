/-
  DERIVED. GIVEN WITH THE SEED: THE CARDS: each row of YtgjkhjpkdkcnfaaDoorRows.lean that lists a variable, with what it lists TIED to the program's text (the seventh form; the later family's looks); each row that meets fmt, with fmt's text TOLD by the authors' own Lean function (tested against real Go, not proved from fmt's source: count such statements apart). THE CARD IS WHAT COUNTS. Prove the row's statement (the work); the ties are given (YtgjkhjpkdkcnfaaDoorTie.lean); close each card by the builder's one call (the guide's Derived/Test/ToyasCard.lean, 'card_holds'). Laid BY PROGRAM, IN A SANDBOX (cutbox-door.mjs). By AI agents, Wed Nov 11 2026. No macro, syntax, notation, axiom, sorry.
-/
import Derived.Test.YtgjkhjpkdkcnfaaDoorRows
import GoSem.ClaimSeven
namespace Go.Proofs.YtgjkhjpkdkcnfaaDoor
namespace Rows

/-- THE TIED CARD OF 'laws.FnExactRequestFault'. -/
def fnExactRequestFaultCard : Claim7 := { stood := { row := fnExactRequestFaultRow, standIns := [], harness := (true, "88987b8cd54128227a223b0de073456424178da8ed6e7020548732c87491c322"), looks := false }, kinds := [], alts := [], laidByText := true, laidKinds := [.data, .pinned], laidTests := true, laidLooks := .later }
def FnExactRequestFaultCardSaid : Prop := Claim7.holds Tryd.pinned (.plain (OpenSpec.ofChange fnExactRequestFaultSpec)) fnExactRequestFaultCard

/-- THE SECOND FORM's CARD OF 'laws.FnExactRequestFault'. -/
def fnExactRequestFaultUptoCard : Claim7 := { stood := { row := fnExactRequestFaultUptoRow, standIns := [], harness := (true, "88987b8cd54128227a223b0de073456424178da8ed6e7020548732c87491c322"), looks := false }, kinds := [], alts := [], laidByText := true, laidKinds := [.data, .pinned], laidTests := true, laidLooks := .later }
def FnExactRequestFaultUptoCardSaid : Prop := Claim7.holds Tryd.pinned (.plain (OpenSpec.upto fnExactRequestFaultSpec)) fnExactRequestFaultUptoCard
end Rows
end Go.Proofs.YtgjkhjpkdkcnfaaDoor
