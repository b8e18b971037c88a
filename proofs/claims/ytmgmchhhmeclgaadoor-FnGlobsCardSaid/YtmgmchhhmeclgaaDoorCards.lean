/-
  DERIVED. GIVEN WITH THE SEED: THE CARDS: each row of YtmgmchhhmeclgaaDoorRows.lean that lists a variable, with what it lists TIED to the program's text (the seventh form; the later family's looks); each row that meets fmt, with fmt's text TOLD by the authors' own Lean function (tested against real Go, not proved from fmt's source: count such statements apart). THE CARD IS WHAT COUNTS. Prove the row's statement (the work); the ties are given (YtmgmchhhmeclgaaDoorTie.lean); close each card by the builder's one call (the guide's Derived/Test/ToyasCard.lean, 'card_holds'). Laid BY PROGRAM, IN A SANDBOX (cutbox-door.mjs). By AI agents, Wed Nov 11 2026. No macro, syntax, notation, axiom, sorry.
-/
import Derived.Test.YtmgmchhhmeclgaaDoorRows
import GoSem.ClaimSeven
namespace Go.Proofs.YtmgmchhhmeclgaaDoor
namespace Rows

/-- THE TIED CARD OF 'laws.FnGlobs'. -/
def fnGlobsCard : Claim7 := { stood := { row := fnGlobsRow, standIns := [], harness := (true, "d077236ba61b2b4794951177b58a8c15c69dc48a653819ed82dc7442c9381be2"), looks := false }, kinds := [], alts := [], laidByText := true, laidKinds := [.data, .pinned], laidTests := true, laidLooks := .later }
def FnGlobsCardSaid : Prop := Claim7.holds Tryd.pinned (.plain (OpenSpec.ofChange fnGlobsSpec)) fnGlobsCard

/-- THE TIED CARD OF 'laws.FnExactGlobFits'. -/
def fnExactGlobFitsCard : Claim7 := { stood := { row := fnExactGlobFitsRow, standIns := [], harness := (true, "d077236ba61b2b4794951177b58a8c15c69dc48a653819ed82dc7442c9381be2"), looks := false }, kinds := [], alts := [], laidByText := true, laidKinds := [.data, .pinned], laidTests := true, laidLooks := .later }
def FnExactGlobFitsCardSaid : Prop := Claim7.holds Tryd.pinned (.plain (OpenSpec.ofChange fnExactGlobFitsSpec)) fnExactGlobFitsCard

/-- THE SECOND FORM's CARD OF 'laws.FnGlobs'. -/
def fnGlobsUptoCard : Claim7 := { stood := { row := fnGlobsUptoRow, standIns := [], harness := (true, "d077236ba61b2b4794951177b58a8c15c69dc48a653819ed82dc7442c9381be2"), looks := false }, kinds := [], alts := [], laidByText := true, laidKinds := [.data, .pinned], laidTests := true, laidLooks := .later }
def FnGlobsUptoCardSaid : Prop := Claim7.holds Tryd.pinned (.plain (OpenSpec.upto fnGlobsSpec)) fnGlobsUptoCard

/-- THE SECOND FORM's CARD OF 'laws.FnExactGlobFits'. -/
def fnExactGlobFitsUptoCard : Claim7 := { stood := { row := fnExactGlobFitsUptoRow, standIns := [], harness := (true, "d077236ba61b2b4794951177b58a8c15c69dc48a653819ed82dc7442c9381be2"), looks := false }, kinds := [], alts := [], laidByText := true, laidKinds := [.data, .pinned], laidTests := true, laidLooks := .later }
def FnExactGlobFitsUptoCardSaid : Prop := Claim7.holds Tryd.pinned (.plain (OpenSpec.upto fnExactGlobFitsSpec)) fnExactGlobFitsUptoCard
end Rows
end Go.Proofs.YtmgmchhhmeclgaaDoor
