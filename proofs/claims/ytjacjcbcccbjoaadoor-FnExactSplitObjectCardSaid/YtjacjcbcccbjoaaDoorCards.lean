/-
  DERIVED. GIVEN WITH THE SEED: THE CARDS: each row of YtjacjcbcccbjoaaDoorRows.lean that lists a variable, with what it lists TIED to the program's text (the seventh form; the later family's looks); each row that meets fmt, with fmt's text TOLD by the authors' own Lean function (tested against real Go, not proved from fmt's source: count such statements apart). THE CARD IS WHAT COUNTS. Prove the row's statement (the work); the ties are given (YtjacjcbcccbjoaaDoorTie.lean); close each card by the builder's one call (the guide's Derived/Test/ToyasCard.lean, 'card_holds'). Laid BY PROGRAM, IN A SANDBOX (cutbox-door.mjs). By AI agents, Wed Nov 11 2026. No macro, syntax, notation, axiom, sorry.
-/
import Derived.Test.YtjacjcbcccbjoaaDoorRows
import GoSem.ClaimSeven
namespace Go.Proofs.YtjacjcbcccbjoaaDoor
namespace Rows

/-- THE TIED CARD OF 'laws.FnExactSplitObject'. -/
def fnExactSplitObjectCard : Claim7 := { stood := { row := fnExactSplitObjectRow, standIns := [], harness := (true, "86e262ef24273b62a4b98738f3daaaa5fc48c01aadec35a9e3a2f48313b77cac"), looks := false }, kinds := [], alts := [], laidByText := true, laidKinds := [.data, .data], laidTests := true, laidLooks := .later }
def FnExactSplitObjectCardSaid : Prop := Claim7.holds Tryd.pinned (.plain (OpenSpec.ofChange fnExactSplitObjectSpec)) fnExactSplitObjectCard

/-- THE SECOND FORM's CARD OF 'laws.FnExactSplitObject'. -/
def fnExactSplitObjectUptoCard : Claim7 := { stood := { row := fnExactSplitObjectUptoRow, standIns := [], harness := (true, "86e262ef24273b62a4b98738f3daaaa5fc48c01aadec35a9e3a2f48313b77cac"), looks := false }, kinds := [], alts := [], laidByText := true, laidKinds := [.data, .data], laidTests := true, laidLooks := .later }
def FnExactSplitObjectUptoCardSaid : Prop := Claim7.holds Tryd.pinned (.plain (OpenSpec.upto fnExactSplitObjectSpec)) fnExactSplitObjectUptoCard
end Rows
end Go.Proofs.YtjacjcbcccbjoaaDoor
