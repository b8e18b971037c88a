/-
  DERIVED. GIVEN WITH THE SEED: THE CARDS: each row of YtngkiokibldfjaaGreatDoorRows.lean that lists a variable, with what it lists TIED to the program's text (the seventh form; the later family's looks); each row that meets fmt, with fmt's text TOLD by the authors' own Lean function (tested against real Go, not proved from fmt's source: count such statements apart). THE CARD IS WHAT COUNTS. Prove the row's statement (the work); the ties are given (YtngkiokibldfjaaGreatDoorTie.lean); close each card by the builder's one call (the guide's Derived/Test/ToyasCard.lean, 'card_holds'). Laid BY PROGRAM, IN A SANDBOX (cutbox-door.mjs). By AI agents, Wed Nov 11 2026. No macro, syntax, notation, axiom, sorry.
-/
import Derived.Test.YtngkiokibldfjaaGreatDoorRows
import GoSem.ClaimSeven
namespace Go.Proofs.YtngkiokibldfjaaGreatDoor
namespace Rows

/-- THE TIED CARD OF 'laws.FnDurable'. -/
def fnDurableCard : Claim7 := { stood := { row := fnDurableRow, standIns := [], harness := (true, "517a704f5f76f9e3d5110e919afb53e672b176816ae673929a32819a89c66348"), looks := true }, kinds := [], alts := [], laidByText := true, laidKinds := [.data, .data, .data, .sentinel, .sentinel], laidTests := true, laidLooks := .later }
def FnDurableCardSaid : Prop := Claim7.holds Tryz.pinned (.plain (OpenSpec.ofChange fnDurableSpec)) fnDurableCard

/-- THE TIED CARD OF 'laws.FnExtents'. -/
def fnExtentsCard : Claim7 := { stood := { row := fnExtentsRow, standIns := [], harness := (true, "517a704f5f76f9e3d5110e919afb53e672b176816ae673929a32819a89c66348"), looks := true }, kinds := [], alts := [], laidByText := true, laidKinds := [.data, .data, .data, .sentinel, .sentinel], laidTests := true, laidLooks := .later }
def FnExtentsCardSaid : Prop := Claim7.holds Tryz.pinned (.plain (OpenSpec.ofChange fnExtentsSpec)) fnExtentsCard

/-- THE TIED CARD OF 'laws.FnExactRunExtent'. -/
def fnExactRunExtentCard : Claim7 := { stood := { row := fnExactRunExtentRow, standIns := [], harness := (true, "517a704f5f76f9e3d5110e919afb53e672b176816ae673929a32819a89c66348"), looks := true }, kinds := [], alts := [], laidByText := true, laidKinds := [.data, .data, .data, .sentinel, .sentinel], laidTests := true, laidLooks := .later }
def FnExactRunExtentCardSaid : Prop := Claim7.holds Tryz.pinned (.plain (OpenSpec.ofChange fnExactRunExtentSpec)) fnExactRunExtentCard

/-- THE SECOND FORM's CARD OF 'laws.FnDurable'. -/
def fnDurableUptoCard : Claim7 := { stood := { row := fnDurableUptoRow, standIns := [], harness := (true, "517a704f5f76f9e3d5110e919afb53e672b176816ae673929a32819a89c66348"), looks := true }, kinds := [], alts := [], laidByText := true, laidKinds := [.data, .data, .data, .sentinel, .sentinel], laidTests := true, laidLooks := .later }
def FnDurableUptoCardSaid : Prop := Claim7.holds Tryz.pinned (.plain (OpenSpec.upto fnDurableSpec)) fnDurableUptoCard

/-- THE SECOND FORM's CARD OF 'laws.FnExtents'. -/
def fnExtentsUptoCard : Claim7 := { stood := { row := fnExtentsUptoRow, standIns := [], harness := (true, "517a704f5f76f9e3d5110e919afb53e672b176816ae673929a32819a89c66348"), looks := true }, kinds := [], alts := [], laidByText := true, laidKinds := [.data, .data, .data, .sentinel, .sentinel], laidTests := true, laidLooks := .later }
def FnExtentsUptoCardSaid : Prop := Claim7.holds Tryz.pinned (.plain (OpenSpec.upto fnExtentsSpec)) fnExtentsUptoCard

/-- THE SECOND FORM's CARD OF 'laws.FnExactRunExtent'. -/
def fnExactRunExtentUptoCard : Claim7 := { stood := { row := fnExactRunExtentUptoRow, standIns := [], harness := (true, "517a704f5f76f9e3d5110e919afb53e672b176816ae673929a32819a89c66348"), looks := true }, kinds := [], alts := [], laidByText := true, laidKinds := [.data, .data, .data, .sentinel, .sentinel], laidTests := true, laidLooks := .later }
def FnExactRunExtentUptoCardSaid : Prop := Claim7.holds Tryz.pinned (.plain (OpenSpec.upto fnExactRunExtentSpec)) fnExactRunExtentUptoCard
end Rows
end Go.Proofs.YtngkiokibldfjaaGreatDoor
