/-
  DERIVED. GIVEN WITH THE SEED: THE CARDS: each row of YtefnoeaehglihaaDoorRows.lean that lists a variable, with what it lists TIED to the program's text (the seventh form; the later family's looks); each row that meets fmt, with fmt's text TOLD by the authors' own Lean function (tested against real Go, not proved from fmt's source: count such statements apart). THE CARD IS WHAT COUNTS. Prove the row's statement (the work); the ties are given (YtefnoeaehglihaaDoorTie.lean); close each card by the builder's one call (the guide's Derived/Test/ToyasCard.lean, 'card_holds'). Laid BY PROGRAM, IN A SANDBOX (cutbox-door.mjs). By AI agents, Wed Nov 11 2026. No macro, syntax, notation, axiom, sorry.
-/
import Derived.Test.YtefnoeaehglihaaDoorRows
import GoSem.ClaimSeven
namespace Go.Proofs.YtefnoeaehglihaaDoor
namespace Rows

/-- THE TIED CARD OF 'laws.FnRecords'. -/
def fnRecordsCard : Claim7 := { stood := { row := fnRecordsRow, standIns := [], harness := (true, "845f8e4adacfca06b1ac0d1d7fa61652ebe0341456beee30e67ede918098748d"), looks := true }, kinds := [], alts := [], laidByText := true, laidKinds := [.sentinel, .sentinel], laidTests := true, laidLooks := .later }
def FnRecordsCardSaid : Prop := Claim7.holds Tryd.pinned (.plain (OpenSpec.ofChange fnRecordsSpec)) fnRecordsCard

/-- THE TIED CARD OF 'laws.FnExactGetRecord'. -/
def fnExactGetRecordCard : Claim7 := { stood := { row := fnExactGetRecordRow, standIns := [], harness := (true, "845f8e4adacfca06b1ac0d1d7fa61652ebe0341456beee30e67ede918098748d"), looks := true }, kinds := [], alts := [], laidByText := true, laidKinds := [.sentinel, .sentinel], laidTests := true, laidLooks := .later }
def FnExactGetRecordCardSaid : Prop := Claim7.holds Tryd.pinned (.plain (OpenSpec.ofChange fnExactGetRecordSpec)) fnExactGetRecordCard

/-- THE TIED CARD OF 'laws.FnExactScanRecords'. -/
def fnExactScanRecordsCard : Claim7 := { stood := { row := fnExactScanRecordsRow, standIns := [], harness := (true, "845f8e4adacfca06b1ac0d1d7fa61652ebe0341456beee30e67ede918098748d"), looks := true }, kinds := [], alts := [], laidByText := true, laidKinds := [.sentinel, .sentinel], laidTests := true, laidLooks := .later }
def FnExactScanRecordsCardSaid : Prop := Claim7.holds Tryd.pinned (.plain (OpenSpec.ofChange fnExactScanRecordsSpec)) fnExactScanRecordsCard

/-- THE SECOND FORM's CARD OF 'laws.FnRecords'. -/
def fnRecordsUptoCard : Claim7 := { stood := { row := fnRecordsUptoRow, standIns := [], harness := (true, "845f8e4adacfca06b1ac0d1d7fa61652ebe0341456beee30e67ede918098748d"), looks := true }, kinds := [], alts := [], laidByText := true, laidKinds := [.sentinel, .sentinel], laidTests := true, laidLooks := .later }
def FnRecordsUptoCardSaid : Prop := Claim7.holds Tryd.pinned (.plain (OpenSpec.upto fnRecordsSpec)) fnRecordsUptoCard

/-- THE SECOND FORM's CARD OF 'laws.FnExactGetRecord'. -/
def fnExactGetRecordUptoCard : Claim7 := { stood := { row := fnExactGetRecordUptoRow, standIns := [], harness := (true, "845f8e4adacfca06b1ac0d1d7fa61652ebe0341456beee30e67ede918098748d"), looks := true }, kinds := [], alts := [], laidByText := true, laidKinds := [.sentinel, .sentinel], laidTests := true, laidLooks := .later }
def FnExactGetRecordUptoCardSaid : Prop := Claim7.holds Tryd.pinned (.plain (OpenSpec.upto fnExactGetRecordSpec)) fnExactGetRecordUptoCard

/-- THE SECOND FORM's CARD OF 'laws.FnExactScanRecords'. -/
def fnExactScanRecordsUptoCard : Claim7 := { stood := { row := fnExactScanRecordsUptoRow, standIns := [], harness := (true, "845f8e4adacfca06b1ac0d1d7fa61652ebe0341456beee30e67ede918098748d"), looks := true }, kinds := [], alts := [], laidByText := true, laidKinds := [.sentinel, .sentinel], laidTests := true, laidLooks := .later }
def FnExactScanRecordsUptoCardSaid : Prop := Claim7.holds Tryd.pinned (.plain (OpenSpec.upto fnExactScanRecordsSpec)) fnExactScanRecordsUptoCard
end Rows
end Go.Proofs.YtefnoeaehglihaaDoor
