/-
  DERIVED. GIVEN WITH THE SEED: THE CARDS: each row of YtkcjigelenofhaaGreatDoorRows.lean that lists a variable, with what it lists TIED to the program's text (the seventh form; the later family's looks); each row that meets fmt, with fmt's text TOLD by the authors' own Lean function (tested against real Go, not proved from fmt's source: count such statements apart). THE CARD IS WHAT COUNTS. Prove the row's statement (the work); the ties are given (YtkcjigelenofhaaGreatDoorTie.lean); close each card by the builder's one call (the guide's Derived/Test/ToyasCard.lean, 'card_holds'). Laid BY PROGRAM, IN A SANDBOX (cutbox-door.mjs). By AI agents, Wed Nov 11 2026. No macro, syntax, notation, axiom, sorry.
-/
import Derived.Test.YtkcjigelenofhaaGreatDoorRows
import GoSem.ClaimSeven
namespace Go.Proofs.YtkcjigelenofhaaGreatDoor
namespace Rows

/-- THE TIED CARD OF 'laws.FnSignedIn'. -/
def fnSignedInCard : Claim7 := { stood := { row := fnSignedInRow, standIns := [], harness := (true, "ce064dbc9f75fde66e82112903fad4a94b2b6d958631a374678fa17e8930e1a3"), looks := true }, kinds := [], alts := [], laidByText := true, laidKinds := [.data, .data, .data, .data, .sentinel, .sentinel, .pinned], laidTests := true, laidLooks := .later }
def FnSignedInCardSaid : Prop := Claim7.holds Tryz.pinned (.plain (OpenSpec.ofChange fnSignedInSpec)) fnSignedInCard

/-- THE TIED CARD OF 'laws.FnTampered'. -/
def fnTamperedCard : Claim7 := { stood := { row := fnTamperedRow, standIns := [], harness := (true, "ce064dbc9f75fde66e82112903fad4a94b2b6d958631a374678fa17e8930e1a3"), looks := true }, kinds := [], alts := [], laidByText := true, laidKinds := [.data, .data, .data, .data, .sentinel, .sentinel, .pinned], laidTests := true, laidLooks := .later }
def FnTamperedCardSaid : Prop := Claim7.holds Tryz.pinned (.plain (OpenSpec.ofChange fnTamperedSpec)) fnTamperedCard

/-- THE TIED CARD OF 'laws.FnExactSignRequest'. -/
def fnExactSignRequestCard : Claim7 := { stood := { row := fnExactSignRequestRow, standIns := [], harness := (true, "ce064dbc9f75fde66e82112903fad4a94b2b6d958631a374678fa17e8930e1a3"), looks := true }, kinds := [], alts := [], laidByText := true, laidKinds := [.data, .data, .data, .data, .pinned], laidTests := true, laidLooks := .later }
def FnExactSignRequestCardSaid : Prop := Claim7.holds Tryz.pinned (.plain (OpenSpec.ofChange fnExactSignRequestSpec)) fnExactSignRequestCard

/-- THE TIED CARD OF 'laws.FnExactCheckSigned'. -/
def fnExactCheckSignedCard : Claim7 := { stood := { row := fnExactCheckSignedRow, standIns := [], harness := (true, "ce064dbc9f75fde66e82112903fad4a94b2b6d958631a374678fa17e8930e1a3"), looks := true }, kinds := [], alts := [], laidByText := true, laidKinds := [.data, .data, .data, .data, .sentinel, .sentinel, .pinned], laidTests := true, laidLooks := .later }
def FnExactCheckSignedCardSaid : Prop := Claim7.holds Tryz.pinned (.plain (OpenSpec.ofChange fnExactCheckSignedSpec)) fnExactCheckSignedCard

/-- THE SECOND FORM's CARD OF 'laws.FnSignedIn'. -/
def fnSignedInUptoCard : Claim7 := { stood := { row := fnSignedInUptoRow, standIns := [], harness := (true, "ce064dbc9f75fde66e82112903fad4a94b2b6d958631a374678fa17e8930e1a3"), looks := true }, kinds := [], alts := [], laidByText := true, laidKinds := [.data, .data, .data, .data, .sentinel, .sentinel, .pinned], laidTests := true, laidLooks := .later }
def FnSignedInUptoCardSaid : Prop := Claim7.holds Tryz.pinned (.plain (OpenSpec.upto fnSignedInSpec)) fnSignedInUptoCard

/-- THE SECOND FORM's CARD OF 'laws.FnTampered'. -/
def fnTamperedUptoCard : Claim7 := { stood := { row := fnTamperedUptoRow, standIns := [], harness := (true, "ce064dbc9f75fde66e82112903fad4a94b2b6d958631a374678fa17e8930e1a3"), looks := true }, kinds := [], alts := [], laidByText := true, laidKinds := [.data, .data, .data, .data, .sentinel, .sentinel, .pinned], laidTests := true, laidLooks := .later }
def FnTamperedUptoCardSaid : Prop := Claim7.holds Tryz.pinned (.plain (OpenSpec.upto fnTamperedSpec)) fnTamperedUptoCard

/-- THE SECOND FORM's CARD OF 'laws.FnExactSignRequest'. -/
def fnExactSignRequestUptoCard : Claim7 := { stood := { row := fnExactSignRequestUptoRow, standIns := [], harness := (true, "ce064dbc9f75fde66e82112903fad4a94b2b6d958631a374678fa17e8930e1a3"), looks := true }, kinds := [], alts := [], laidByText := true, laidKinds := [.data, .data, .data, .data, .pinned], laidTests := true, laidLooks := .later }
def FnExactSignRequestUptoCardSaid : Prop := Claim7.holds Tryz.pinned (.plain (OpenSpec.upto fnExactSignRequestSpec)) fnExactSignRequestUptoCard

/-- THE SECOND FORM's CARD OF 'laws.FnExactCheckSigned'. -/
def fnExactCheckSignedUptoCard : Claim7 := { stood := { row := fnExactCheckSignedUptoRow, standIns := [], harness := (true, "ce064dbc9f75fde66e82112903fad4a94b2b6d958631a374678fa17e8930e1a3"), looks := true }, kinds := [], alts := [], laidByText := true, laidKinds := [.data, .data, .data, .data, .sentinel, .sentinel, .pinned], laidTests := true, laidLooks := .later }
def FnExactCheckSignedUptoCardSaid : Prop := Claim7.holds Tryz.pinned (.plain (OpenSpec.upto fnExactCheckSignedSpec)) fnExactCheckSignedUptoCard
end Rows
end Go.Proofs.YtkcjigelenofhaaGreatDoor
