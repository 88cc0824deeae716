/-
  DERIVED. GIVEN WITH THE SEED: THE CARDS: each row of YtfijfoblmnjdcaaGreatDoorRows.lean that lists a variable, with what it lists TIED to the program's text (the seventh form; the later family's looks); each row that meets fmt, with fmt's text TOLD by the authors' own Lean function (tested against real Go, not proved from fmt's source: count such statements apart). THE CARD IS WHAT COUNTS. Prove the row's statement (the work); the ties are given (YtfijfoblmnjdcaaGreatDoorTie.lean); close each card by the builder's one call (the guide's Derived/Test/ToyasCard.lean, 'card_holds'). Laid BY PROGRAM, IN A SANDBOX (cutbox-door.mjs). By AI agents, Wed Nov 11 2026. No macro, syntax, notation, axiom, sorry.
-/
import Derived.Test.YtfijfoblmnjdcaaGreatDoorRows
import GoSem.ClaimSeven
namespace Go.Proofs.YtfijfoblmnjdcaaGreatDoor
namespace Rows

/-- THE TIED CARD OF 'hopscotchlaw08.ExprReads'. -/
def exprReadsCard : Claim7 := { stood := { row := exprReadsRow, standIns := [], harness := (true, "d58d771761ee125b6be3a77275c9278ee9fc07ebfbde7b029a76d8b157ab688c"), looks := true }, kinds := [], alts := [], laidByText := true, laidKinds := [.data, .data, .data, .data, .sentinel, .sentinel, .data, .data, .pinned], laidTests := true, laidLooks := .later }
def ExprReadsCardSaid : Prop := Claim7.holds Tryz.pinned (.plain (OpenSpec.ofChange exprReadsSpec)) exprReadsCard

/-- THE TIED CARD OF 'hopscotchlaw08.ExprFrom'. -/
def exprFromCard : Claim7 := { stood := { row := exprFromRow, standIns := [], harness := (true, "d58d771761ee125b6be3a77275c9278ee9fc07ebfbde7b029a76d8b157ab688c"), looks := true }, kinds := [], alts := [], laidByText := true, laidKinds := [.data, .data, .data, .data, .sentinel, .sentinel, .data, .data, .pinned], laidTests := true, laidLooks := .later }
def ExprFromCardSaid : Prop := Claim7.holds Tryz.pinned (.plain (OpenSpec.ofChange exprFromSpec)) exprFromCard

/-- THE TIED CARD OF 'hopscotchlaw08.ExprChecks'. -/
def exprChecksCard : Claim7 := { stood := { row := exprChecksRow, standIns := [], harness := (true, "d58d771761ee125b6be3a77275c9278ee9fc07ebfbde7b029a76d8b157ab688c"), looks := true }, kinds := [], alts := [], laidByText := true, laidKinds := [.data, .data, .data, .data, .sentinel, .sentinel, .data, .data, .pinned], laidTests := true, laidLooks := .later }
def ExprChecksCardSaid : Prop := Claim7.holds Tryz.pinned (.plain (OpenSpec.ofChange exprChecksSpec)) exprChecksCard

/-- THE TIED CARD OF 'hopscotchlaw08.ExprBack'. -/
def exprBackCard : Claim7 := { stood := { row := exprBackRow, standIns := [], harness := (true, "d58d771761ee125b6be3a77275c9278ee9fc07ebfbde7b029a76d8b157ab688c"), looks := true }, kinds := [], alts := [], laidByText := true, laidKinds := [.data, .data, .data, .data, .sentinel, .sentinel, .data, .data, .pinned], laidTests := true, laidLooks := .later }
def ExprBackCardSaid : Prop := Claim7.holds Tryz.pinned (.plain (OpenSpec.ofChange exprBackSpec)) exprBackCard

/-- THE TIED CARD OF 'hopscotchlaw08.ExprLeast'. -/
def exprLeastCard : Claim7 := { stood := { row := exprLeastRow, standIns := [], harness := (true, "d58d771761ee125b6be3a77275c9278ee9fc07ebfbde7b029a76d8b157ab688c"), looks := true }, kinds := [], alts := [], laidByText := true, laidKinds := [.data, .data, .data, .data, .sentinel, .sentinel, .data, .data, .pinned], laidTests := true, laidLooks := .later }
def ExprLeastCardSaid : Prop := Claim7.holds Tryz.pinned (.plain (OpenSpec.ofChange exprLeastSpec)) exprLeastCard

/-- THE TIED CARD OF 'hopscotchlaw08.ExprKnown'. -/
def exprKnownCard : Claim7 := { stood := { row := exprKnownRow, standIns := [], harness := (true, "d58d771761ee125b6be3a77275c9278ee9fc07ebfbde7b029a76d8b157ab688c"), looks := true }, kinds := [], alts := [], laidByText := true, laidKinds := [.data, .data, .data, .data, .sentinel, .sentinel, .data, .data, .pinned], laidTests := true, laidLooks := .later }
def ExprKnownCardSaid : Prop := Claim7.holds Tryz.pinned (.plain (OpenSpec.ofChange exprKnownSpec)) exprKnownCard

/-- THE SECOND FORM's CARD OF 'hopscotchlaw08.ExprReads'. -/
def exprReadsUptoCard : Claim7 := { stood := { row := exprReadsUptoRow, standIns := [], harness := (true, "d58d771761ee125b6be3a77275c9278ee9fc07ebfbde7b029a76d8b157ab688c"), looks := true }, kinds := [], alts := [], laidByText := true, laidKinds := [.data, .data, .data, .data, .sentinel, .sentinel, .data, .data, .pinned], laidTests := true, laidLooks := .later }
def ExprReadsUptoCardSaid : Prop := Claim7.holds Tryz.pinned (.plain (OpenSpec.upto exprReadsSpec)) exprReadsUptoCard

/-- THE SECOND FORM's CARD OF 'hopscotchlaw08.ExprFrom'. -/
def exprFromUptoCard : Claim7 := { stood := { row := exprFromUptoRow, standIns := [], harness := (true, "d58d771761ee125b6be3a77275c9278ee9fc07ebfbde7b029a76d8b157ab688c"), looks := true }, kinds := [], alts := [], laidByText := true, laidKinds := [.data, .data, .data, .data, .sentinel, .sentinel, .data, .data, .pinned], laidTests := true, laidLooks := .later }
def ExprFromUptoCardSaid : Prop := Claim7.holds Tryz.pinned (.plain (OpenSpec.upto exprFromSpec)) exprFromUptoCard

/-- THE SECOND FORM's CARD OF 'hopscotchlaw08.ExprChecks'. -/
def exprChecksUptoCard : Claim7 := { stood := { row := exprChecksUptoRow, standIns := [], harness := (true, "d58d771761ee125b6be3a77275c9278ee9fc07ebfbde7b029a76d8b157ab688c"), looks := true }, kinds := [], alts := [], laidByText := true, laidKinds := [.data, .data, .data, .data, .sentinel, .sentinel, .data, .data, .pinned], laidTests := true, laidLooks := .later }
def ExprChecksUptoCardSaid : Prop := Claim7.holds Tryz.pinned (.plain (OpenSpec.upto exprChecksSpec)) exprChecksUptoCard

/-- THE SECOND FORM's CARD OF 'hopscotchlaw08.ExprBack'. -/
def exprBackUptoCard : Claim7 := { stood := { row := exprBackUptoRow, standIns := [], harness := (true, "d58d771761ee125b6be3a77275c9278ee9fc07ebfbde7b029a76d8b157ab688c"), looks := true }, kinds := [], alts := [], laidByText := true, laidKinds := [.data, .data, .data, .data, .sentinel, .sentinel, .data, .data, .pinned], laidTests := true, laidLooks := .later }
def ExprBackUptoCardSaid : Prop := Claim7.holds Tryz.pinned (.plain (OpenSpec.upto exprBackSpec)) exprBackUptoCard

/-- THE SECOND FORM's CARD OF 'hopscotchlaw08.ExprLeast'. -/
def exprLeastUptoCard : Claim7 := { stood := { row := exprLeastUptoRow, standIns := [], harness := (true, "d58d771761ee125b6be3a77275c9278ee9fc07ebfbde7b029a76d8b157ab688c"), looks := true }, kinds := [], alts := [], laidByText := true, laidKinds := [.data, .data, .data, .data, .sentinel, .sentinel, .data, .data, .pinned], laidTests := true, laidLooks := .later }
def ExprLeastUptoCardSaid : Prop := Claim7.holds Tryz.pinned (.plain (OpenSpec.upto exprLeastSpec)) exprLeastUptoCard

/-- THE SECOND FORM's CARD OF 'hopscotchlaw08.ExprKnown'. -/
def exprKnownUptoCard : Claim7 := { stood := { row := exprKnownUptoRow, standIns := [], harness := (true, "d58d771761ee125b6be3a77275c9278ee9fc07ebfbde7b029a76d8b157ab688c"), looks := true }, kinds := [], alts := [], laidByText := true, laidKinds := [.data, .data, .data, .data, .sentinel, .sentinel, .data, .data, .pinned], laidTests := true, laidLooks := .later }
def ExprKnownUptoCardSaid : Prop := Claim7.holds Tryz.pinned (.plain (OpenSpec.upto exprKnownSpec)) exprKnownUptoCard
end Rows
end Go.Proofs.YtfijfoblmnjdcaaGreatDoor
