/-
  DERIVED. GIVEN WITH THE SEED: THE CARDS: each row of YtmjolkagkeonfaaDoorRows.lean that lists a variable, with what it lists TIED to the program's text (the seventh form; the later family's looks); each row that meets fmt, with fmt's text TOLD by the authors' own Lean function (tested against real Go, not proved from fmt's source: count such statements apart). THE CARD IS WHAT COUNTS. Prove the row's statement (the work); the ties are given (YtmjolkagkeonfaaDoorTie.lean); close each card by the builder's one call (the guide's Derived/Test/ToyasCard.lean, 'card_holds'). Laid BY PROGRAM, IN A SANDBOX (cutbox-door.mjs). By AI agents, Wed Nov 11 2026. No macro, syntax, notation, axiom, sorry.
-/
import Derived.Test.YtmjolkagkeonfaaDoorRows
import GoSem.ClaimSeven
namespace Go.Proofs.YtmjolkagkeonfaaDoor
namespace Rows

/-- THE TIED CARD OF 'laws.FnDenyWins'. -/
def fnDenyWinsCard : Claim7 := { stood := { row := fnDenyWinsRow, standIns := [], harness := (true, "2b127aa7277f1b8a37b241518b7ef980530e69a81b22f244b0ab10d12eb531e6"), looks := true }, kinds := [], alts := [], laidByText := true, laidKinds := [.data, .pinned], laidTests := true, laidLooks := .later }
def FnDenyWinsCardSaid : Prop := Claim7.holds Tryd.pinned (.plain (OpenSpec.ofChange fnDenyWinsSpec)) fnDenyWinsCard

/-- THE SECOND FORM's CARD OF 'laws.FnDenyWins'. -/
def fnDenyWinsUptoCard : Claim7 := { stood := { row := fnDenyWinsUptoRow, standIns := [], harness := (true, "2b127aa7277f1b8a37b241518b7ef980530e69a81b22f244b0ab10d12eb531e6"), looks := true }, kinds := [], alts := [], laidByText := true, laidKinds := [.data, .pinned], laidTests := true, laidLooks := .later }
def FnDenyWinsUptoCardSaid : Prop := Claim7.holds Tryd.pinned (.plain (OpenSpec.upto fnDenyWinsSpec)) fnDenyWinsUptoCard
end Rows
end Go.Proofs.YtmjolkagkeonfaaDoor
