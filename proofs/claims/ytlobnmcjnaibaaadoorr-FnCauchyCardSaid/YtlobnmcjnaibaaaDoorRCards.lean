/-
  DERIVED. GIVEN WITH THE SEED: THE CARDS: each row of YtlobnmcjnaibaaaDoorRRows.lean that lists a variable, with what it lists TIED to the program's text (the seventh form; the later family's looks); each row that meets fmt, with fmt's text TOLD by the authors' own Lean function (tested against real Go, not proved from fmt's source: count such statements apart). THE CARD IS WHAT COUNTS. Prove the row's statement (the work); the ties are given (YtlobnmcjnaibaaaDoorRTie.lean); close each card by the builder's one call (the guide's Derived/Test/ToyasCard.lean, 'card_holds'). Laid BY PROGRAM, IN A SANDBOX (cutbox-door.mjs). By AI agents, Wed Nov 11 2026. No macro, syntax, notation, axiom, sorry.
-/
import Derived.Test.YtlobnmcjnaibaaaDoorRRows
import GoSem.ClaimSeven
namespace Go.Proofs.YtlobnmcjnaibaaaDoorR
namespace Rows

/-- THE TIED CARD OF 'laws.FnInverse'. -/
def fnInverseCard : Claim7 := { stood := { row := fnInverseRow, standIns := [], harness := (true, "2f575f5ce7aa64fad5fac49e13c8ec033d7ce0fbcd26f44480b730e54b332c76"), looks := false }, kinds := [], alts := [], laidByText := true, laidKinds := [.data, .data], laidTests := true, laidLooks := .later }
def FnInverseCardSaid : Prop := Claim7.holds Tryd.pinned (.plain (OpenSpec.ofChange fnInverseSpec)) fnInverseCard

/-- THE TIED CARD OF 'laws.FnCauchy'. -/
def fnCauchyCard : Claim7 := { stood := { row := fnCauchyRow, standIns := [], harness := (true, "2f575f5ce7aa64fad5fac49e13c8ec033d7ce0fbcd26f44480b730e54b332c76"), looks := false }, kinds := [], alts := [], laidByText := true, laidKinds := [.data, .data], laidTests := true, laidLooks := .later }
def FnCauchyCardSaid : Prop := Claim7.holds Tryd.pinned (.plain (OpenSpec.ofChange fnCauchySpec)) fnCauchyCard

/-- THE SECOND FORM's CARD OF 'laws.FnInverse'. -/
def fnInverseUptoCard : Claim7 := { stood := { row := fnInverseUptoRow, standIns := [], harness := (true, "2f575f5ce7aa64fad5fac49e13c8ec033d7ce0fbcd26f44480b730e54b332c76"), looks := false }, kinds := [], alts := [], laidByText := true, laidKinds := [.data, .data], laidTests := true, laidLooks := .later }
def FnInverseUptoCardSaid : Prop := Claim7.holds Tryd.pinned (.plain (OpenSpec.upto fnInverseSpec)) fnInverseUptoCard

/-- THE SECOND FORM's CARD OF 'laws.FnCauchy'. -/
def fnCauchyUptoCard : Claim7 := { stood := { row := fnCauchyUptoRow, standIns := [], harness := (true, "2f575f5ce7aa64fad5fac49e13c8ec033d7ce0fbcd26f44480b730e54b332c76"), looks := false }, kinds := [], alts := [], laidByText := true, laidKinds := [.data, .data], laidTests := true, laidLooks := .later }
def FnCauchyUptoCardSaid : Prop := Claim7.holds Tryd.pinned (.plain (OpenSpec.upto fnCauchySpec)) fnCauchyUptoCard
end Rows
end Go.Proofs.YtlobnmcjnaibaaaDoorR
