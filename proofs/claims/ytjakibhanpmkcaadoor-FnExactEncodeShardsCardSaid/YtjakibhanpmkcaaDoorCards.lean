/-
  DERIVED. GIVEN WITH THE SEED: THE CARDS: each row of YtjakibhanpmkcaaDoorRows.lean that lists a variable, with what it lists TIED to the program's text (the seventh form; the later family's looks); each row that meets fmt, with fmt's text TOLD by the authors' own Lean function (tested against real Go, not proved from fmt's source: count such statements apart). THE CARD IS WHAT COUNTS. Prove the row's statement (the work); the ties are given (YtjakibhanpmkcaaDoorTie.lean); close each card by the builder's one call (the guide's Derived/Test/ToyasCard.lean, 'card_holds'). Laid BY PROGRAM, IN A SANDBOX (cutbox-door.mjs). By AI agents, Wed Nov 11 2026. No macro, syntax, notation, axiom, sorry.
-/
import Derived.Test.YtjakibhanpmkcaaDoorRows
import GoSem.ClaimSeven
namespace Go.Proofs.YtjakibhanpmkcaaDoor
namespace Rows

/-- THE TIED CARD OF 'laws.FnExactEncodeShards'. -/
def fnExactEncodeShardsCard : Claim7 := { stood := { row := fnExactEncodeShardsRow, standIns := [], harness := (true, "28a4d7024f5570c5c59308881ea6ad1b1b44dbfd176ed8b77d41cb75ba783f03"), looks := false }, kinds := [], alts := [], laidByText := true, laidKinds := [.data, .data], laidTests := true, laidLooks := .later }
def FnExactEncodeShardsCardSaid : Prop := Claim7.holds Tryd.pinned (.plain (OpenSpec.ofChange fnExactEncodeShardsSpec)) fnExactEncodeShardsCard

/-- THE SECOND FORM's CARD OF 'laws.FnExactEncodeShards'. -/
def fnExactEncodeShardsUptoCard : Claim7 := { stood := { row := fnExactEncodeShardsUptoRow, standIns := [], harness := (true, "28a4d7024f5570c5c59308881ea6ad1b1b44dbfd176ed8b77d41cb75ba783f03"), looks := false }, kinds := [], alts := [], laidByText := true, laidKinds := [.data, .data], laidTests := true, laidLooks := .later }
def FnExactEncodeShardsUptoCardSaid : Prop := Claim7.holds Tryd.pinned (.plain (OpenSpec.upto fnExactEncodeShardsSpec)) fnExactEncodeShardsUptoCard
end Rows
end Go.Proofs.YtjakibhanpmkcaaDoor
