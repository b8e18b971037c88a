/-
  DERIVED. GIVEN WITH THE SEED: THE CARDS: each row of YtjfmjcdopokkaaaDoorRows.lean that lists a variable, with what it lists TIED to the program's text (the seventh form; the later family's looks); each row that meets fmt, with fmt's text TOLD by the authors' own Lean function (tested against real Go, not proved from fmt's source: count such statements apart). THE CARD IS WHAT COUNTS. Prove the row's statement (the work); the ties are given (YtjfmjcdopokkaaaDoorTie.lean); close each card by the builder's one call (the guide's Derived/Test/ToyasCard.lean, 'card_holds'). Laid BY PROGRAM, IN A SANDBOX (cutbox-door.mjs). By AI agents, Wed Nov 11 2026. No macro, syntax, notation, axiom, sorry.
-/
import Derived.Test.YtjfmjcdopokkaaaDoorRows
import GoSem.ClaimSeven
namespace Go.Proofs.YtjfmjcdopokkaaaDoor
namespace Rows

/-- THE TIED CARD OF 'laws.FnDenyWins'. -/
def fnDenyWinsCard : Claim7 := { stood := { row := fnDenyWinsRow, standIns := [], harness := (true, "c4fc0a72fbf5195f9ecd07d61761addd82e404334ecad33222a0068761712f1b"), looks := true }, kinds := [], alts := [], laidByText := true, laidKinds := [.data, .pinned], laidTests := true, laidLooks := .later }
def FnDenyWinsCardSaid : Prop := Claim7.holds Tryd.pinned (.plain (OpenSpec.ofChange fnDenyWinsSpec)) fnDenyWinsCard

/-- THE TIED CARD OF 'laws.FnGlobs'. -/
def fnGlobsCard : Claim7 := { stood := { row := fnGlobsRow, standIns := [], harness := (true, "c4fc0a72fbf5195f9ecd07d61761addd82e404334ecad33222a0068761712f1b"), looks := true }, kinds := [], alts := [], laidByText := true, laidKinds := [.data, .pinned], laidTests := true, laidLooks := .later }
def FnGlobsCardSaid : Prop := Claim7.holds Tryd.pinned (.plain (OpenSpec.ofChange fnGlobsSpec)) fnGlobsCard

/-- THE TIED CARD OF 'laws.FnExactGlobFits'. -/
def fnExactGlobFitsCard : Claim7 := { stood := { row := fnExactGlobFitsRow, standIns := [], harness := (true, "c4fc0a72fbf5195f9ecd07d61761addd82e404334ecad33222a0068761712f1b"), looks := true }, kinds := [], alts := [], laidByText := true, laidKinds := [.data, .pinned], laidTests := true, laidLooks := .later }
def FnExactGlobFitsCardSaid : Prop := Claim7.holds Tryd.pinned (.plain (OpenSpec.ofChange fnExactGlobFitsSpec)) fnExactGlobFitsCard

/-- THE TIED CARD OF 'laws.FnExactWritePolicy'. -/
def fnExactWritePolicyCard : Claim7 := { stood := { row := fnExactWritePolicyRow, standIns := [], harness := (true, "c4fc0a72fbf5195f9ecd07d61761addd82e404334ecad33222a0068761712f1b"), looks := true }, kinds := [], alts := [], laidByText := true, laidKinds := [.data, .data, .data], laidTests := true, laidLooks := .later }
def FnExactWritePolicyCardSaid : Prop := Claim7.holds Tryd.pinned (.plain (OpenSpec.ofChange fnExactWritePolicySpec)) fnExactWritePolicyCard

/-- THE SECOND FORM's CARD OF 'laws.FnDenyWins'. -/
def fnDenyWinsUptoCard : Claim7 := { stood := { row := fnDenyWinsUptoRow, standIns := [], harness := (true, "c4fc0a72fbf5195f9ecd07d61761addd82e404334ecad33222a0068761712f1b"), looks := true }, kinds := [], alts := [], laidByText := true, laidKinds := [.data, .pinned], laidTests := true, laidLooks := .later }
def FnDenyWinsUptoCardSaid : Prop := Claim7.holds Tryd.pinned (.plain (OpenSpec.upto fnDenyWinsSpec)) fnDenyWinsUptoCard

/-- THE SECOND FORM's CARD OF 'laws.FnGlobs'. -/
def fnGlobsUptoCard : Claim7 := { stood := { row := fnGlobsUptoRow, standIns := [], harness := (true, "c4fc0a72fbf5195f9ecd07d61761addd82e404334ecad33222a0068761712f1b"), looks := true }, kinds := [], alts := [], laidByText := true, laidKinds := [.data, .pinned], laidTests := true, laidLooks := .later }
def FnGlobsUptoCardSaid : Prop := Claim7.holds Tryd.pinned (.plain (OpenSpec.upto fnGlobsSpec)) fnGlobsUptoCard

/-- THE SECOND FORM's CARD OF 'laws.FnExactGlobFits'. -/
def fnExactGlobFitsUptoCard : Claim7 := { stood := { row := fnExactGlobFitsUptoRow, standIns := [], harness := (true, "c4fc0a72fbf5195f9ecd07d61761addd82e404334ecad33222a0068761712f1b"), looks := true }, kinds := [], alts := [], laidByText := true, laidKinds := [.data, .pinned], laidTests := true, laidLooks := .later }
def FnExactGlobFitsUptoCardSaid : Prop := Claim7.holds Tryd.pinned (.plain (OpenSpec.upto fnExactGlobFitsSpec)) fnExactGlobFitsUptoCard

/-- THE SECOND FORM's CARD OF 'laws.FnExactWritePolicy'. -/
def fnExactWritePolicyUptoCard : Claim7 := { stood := { row := fnExactWritePolicyUptoRow, standIns := [], harness := (true, "c4fc0a72fbf5195f9ecd07d61761addd82e404334ecad33222a0068761712f1b"), looks := true }, kinds := [], alts := [], laidByText := true, laidKinds := [.data, .data, .data], laidTests := true, laidLooks := .later }
def FnExactWritePolicyUptoCardSaid : Prop := Claim7.holds Tryd.pinned (.plain (OpenSpec.upto fnExactWritePolicySpec)) fnExactWritePolicyUptoCard
end Rows
end Go.Proofs.YtjfmjcdopokkaaaDoor
