/-
  DERIVED. GIVEN WITH THE SEED: THE CARDS: each row of YtlobnmcjnaibaajDoorRows.lean that lists a variable, with what it lists TIED to the program's text (the seventh form; the later family's looks); each row that meets fmt, with fmt's text TOLD by the authors' own Lean function (tested against real Go, not proved from fmt's source: count such statements apart). THE CARD IS WHAT COUNTS. Prove the row's statement (the work); the ties are given (YtlobnmcjnaibaajDoorTie.lean); close each card by the builder's one call (the guide's Derived/Test/ToyasCard.lean, 'card_holds'). Laid BY PROGRAM, IN A SANDBOX (cutbox-door.mjs). By AI agents, Wed Nov 11 2026. No macro, syntax, notation, axiom, sorry.
-/
import Derived.Test.YtlobnmcjnaibaajDoorRows
import GoSem.ClaimSeven
namespace Go.Proofs.YtlobnmcjnaibaajDoor
namespace Rows

/-- THE TIED CARD OF 'laws.FnExactMatMul'. -/
def fnExactMatMulCard : Claim7 := { stood := { row := fnExactMatMulRow, standIns := [], harness := (true, "63620e7e54c0d95fe8aff4ca077367205511a4fb3fd7f5ca5bf0d0b4c85326d5"), looks := false }, kinds := [], alts := [], laidByText := true, laidKinds := [.data, .data], laidTests := true, laidLooks := .later }
def FnExactMatMulCardSaid : Prop := Claim7.holds Tryd.pinned (.plain (OpenSpec.ofChange fnExactMatMulSpec)) fnExactMatMulCard

/-- THE TIED CARD OF 'laws.FnExactMatInv'. -/
def fnExactMatInvCard : Claim7 := { stood := { row := fnExactMatInvRow, standIns := [], harness := (true, "63620e7e54c0d95fe8aff4ca077367205511a4fb3fd7f5ca5bf0d0b4c85326d5"), looks := false }, kinds := [], alts := [], laidByText := true, laidKinds := [.data, .data], laidTests := true, laidLooks := .later }
def FnExactMatInvCardSaid : Prop := Claim7.holds Tryd.pinned (.plain (OpenSpec.ofChange fnExactMatInvSpec)) fnExactMatInvCard

/-- THE TIED CARD OF 'laws.FnExactMatRank'. -/
def fnExactMatRankCard : Claim7 := { stood := { row := fnExactMatRankRow, standIns := [], harness := (true, "63620e7e54c0d95fe8aff4ca077367205511a4fb3fd7f5ca5bf0d0b4c85326d5"), looks := false }, kinds := [], alts := [], laidByText := true, laidKinds := [.data, .data], laidTests := true, laidLooks := .later }
def FnExactMatRankCardSaid : Prop := Claim7.holds Tryd.pinned (.plain (OpenSpec.ofChange fnExactMatRankSpec)) fnExactMatRankCard

/-- THE SECOND FORM's CARD OF 'laws.FnExactMatMul'. -/
def fnExactMatMulUptoCard : Claim7 := { stood := { row := fnExactMatMulUptoRow, standIns := [], harness := (true, "63620e7e54c0d95fe8aff4ca077367205511a4fb3fd7f5ca5bf0d0b4c85326d5"), looks := false }, kinds := [], alts := [], laidByText := true, laidKinds := [.data, .data], laidTests := true, laidLooks := .later }
def FnExactMatMulUptoCardSaid : Prop := Claim7.holds Tryd.pinned (.plain (OpenSpec.upto fnExactMatMulSpec)) fnExactMatMulUptoCard

/-- THE SECOND FORM's CARD OF 'laws.FnExactMatInv'. -/
def fnExactMatInvUptoCard : Claim7 := { stood := { row := fnExactMatInvUptoRow, standIns := [], harness := (true, "63620e7e54c0d95fe8aff4ca077367205511a4fb3fd7f5ca5bf0d0b4c85326d5"), looks := false }, kinds := [], alts := [], laidByText := true, laidKinds := [.data, .data], laidTests := true, laidLooks := .later }
def FnExactMatInvUptoCardSaid : Prop := Claim7.holds Tryd.pinned (.plain (OpenSpec.upto fnExactMatInvSpec)) fnExactMatInvUptoCard

/-- THE SECOND FORM's CARD OF 'laws.FnExactMatRank'. -/
def fnExactMatRankUptoCard : Claim7 := { stood := { row := fnExactMatRankUptoRow, standIns := [], harness := (true, "63620e7e54c0d95fe8aff4ca077367205511a4fb3fd7f5ca5bf0d0b4c85326d5"), looks := false }, kinds := [], alts := [], laidByText := true, laidKinds := [.data, .data], laidTests := true, laidLooks := .later }
def FnExactMatRankUptoCardSaid : Prop := Claim7.holds Tryd.pinned (.plain (OpenSpec.upto fnExactMatRankSpec)) fnExactMatRankUptoCard
end Rows
end Go.Proofs.YtlobnmcjnaibaajDoor
