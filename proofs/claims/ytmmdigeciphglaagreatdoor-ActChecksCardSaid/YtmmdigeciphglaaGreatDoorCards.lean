/-
  DERIVED. GIVEN WITH THE SEED: THE CARDS: each row of YtmmdigeciphglaaGreatDoorRows.lean that lists a variable, with what it lists TIED to the program's text (the seventh form; the later family's looks); each row that meets fmt, with fmt's text TOLD by the authors' own Lean function (tested against real Go, not proved from fmt's source: count such statements apart). THE CARD IS WHAT COUNTS. Prove the row's statement (the work); the ties are given (YtmmdigeciphglaaGreatDoorTie.lean); close each card by the builder's one call (the guide's Derived/Test/ToyasCard.lean, 'card_holds'). Laid BY PROGRAM, IN A SANDBOX (cutbox-door.mjs). By AI agents, Wed Nov 11 2026. No macro, syntax, notation, axiom, sorry.
-/
import Derived.Test.YtmmdigeciphglaaGreatDoorRows
import GoSem.ClaimSeven
namespace Go.Proofs.YtmmdigeciphglaaGreatDoor
namespace Rows

/-- THE TIED CARD OF 'hopscotchlaw11.ActParse'. -/
def actParseCard : Claim7 := { stood := { row := actParseRow, standIns := [], harness := (true, "984a37caf0c81a7fd07abe805ca589a8da3edc2543fbf9d159e1d7a694be98d5"), looks := true }, kinds := [], alts := [], laidByText := true, laidKinds := [.data, .data, .data, .data, .sentinel, .sentinel, .data, .data, .wider, .pinned], laidTests := true, laidLooks := .later }
def ActParseCardSaid : Prop := Claim7.holds Tryz.pinned (.plain (OpenSpec.ofChange actParseSpec)) actParseCard

/-- THE TIED CARD OF 'hopscotchlaw11.ActChecks'. -/
def actChecksCard : Claim7 := { stood := { row := actChecksRow, standIns := [], harness := (true, "984a37caf0c81a7fd07abe805ca589a8da3edc2543fbf9d159e1d7a694be98d5"), looks := true }, kinds := [], alts := [], laidByText := true, laidKinds := [.data, .data, .data, .data, .sentinel, .sentinel, .data, .data, .wider, .pinned], laidTests := true, laidLooks := .later }
def ActChecksCardSaid : Prop := Claim7.holds Tryz.pinned (.plain (OpenSpec.ofChange actChecksSpec)) actChecksCard

/-- THE TIED CARD OF 'hopscotchlaw11.ActBack'. -/
def actBackCard : Claim7 := { stood := { row := actBackRow, standIns := [], harness := (true, "984a37caf0c81a7fd07abe805ca589a8da3edc2543fbf9d159e1d7a694be98d5"), looks := true }, kinds := [], alts := [], laidByText := true, laidKinds := [.data, .data, .data, .data, .sentinel, .sentinel, .data, .data, .wider, .pinned], laidTests := true, laidLooks := .later }
def ActBackCardSaid : Prop := Claim7.holds Tryz.pinned (.plain (OpenSpec.ofChange actBackSpec)) actBackCard

/-- THE TIED CARD OF 'hopscotchlaw11.ActJoins'. -/
def actJoinsCard : Claim7 := { stood := { row := actJoinsRow, standIns := [], harness := (true, "984a37caf0c81a7fd07abe805ca589a8da3edc2543fbf9d159e1d7a694be98d5"), looks := true }, kinds := [], alts := [], laidByText := true, laidKinds := [.data, .data, .data, .data, .sentinel, .sentinel, .data, .data, .wider, .pinned], laidTests := true, laidLooks := .later }
def ActJoinsCardSaid : Prop := Claim7.holds Tryz.pinned (.plain (OpenSpec.ofChange actJoinsSpec)) actJoinsCard

/-- THE TIED CARD OF 'hopscotchlaw12.RunDoes'. -/
def runDoesCard : Claim7 := { stood := { row := runDoesRow, standIns := [], harness := (true, "984a37caf0c81a7fd07abe805ca589a8da3edc2543fbf9d159e1d7a694be98d5"), looks := true }, kinds := [], alts := [], laidByText := true, laidKinds := [.data, .data, .data, .data, .sentinel, .sentinel, .data, .data, .pinned], laidTests := true, laidLooks := .later }
def RunDoesCardSaid : Prop := Claim7.holds Tryz.pinned (.plain (OpenSpec.ofChange runDoesSpec)) runDoesCard

/-- THE TIED CARD OF 'hopscotchlaw12.RunTexts'. -/
def runTextsCard : Claim7 := { stood := { row := runTextsRow, standIns := [], harness := (true, "984a37caf0c81a7fd07abe805ca589a8da3edc2543fbf9d159e1d7a694be98d5"), looks := true }, kinds := [], alts := [], laidByText := true, laidKinds := [.data, .data, .data, .data, .sentinel, .sentinel, .data, .data, .pinned], laidTests := true, laidLooks := .later }
def RunTextsCardSaid : Prop := Claim7.holds Tryz.pinned (.plain (OpenSpec.ofChange runTextsSpec)) runTextsCard

/-- THE TIED CARD OF 'hopscotchlaw12.RunTypes'. -/
def runTypesCard : Claim7 := { stood := { row := runTypesRow, standIns := [], harness := (true, "984a37caf0c81a7fd07abe805ca589a8da3edc2543fbf9d159e1d7a694be98d5"), looks := true }, kinds := [], alts := [], laidByText := true, laidKinds := [.data, .data, .data, .data, .sentinel, .sentinel, .data, .data, .wider, .pinned], laidTests := true, laidLooks := .later }
def RunTypesCardSaid : Prop := Claim7.holds Tryz.pinned (.plain (OpenSpec.ofChange runTypesSpec)) runTypesCard

/-- THE TIED CARD OF 'hopscotchlaw12.RunParts'. -/
def runPartsCard : Claim7 := { stood := { row := runPartsRow, standIns := [], harness := (true, "984a37caf0c81a7fd07abe805ca589a8da3edc2543fbf9d159e1d7a694be98d5"), looks := true }, kinds := [], alts := [], laidByText := true, laidKinds := [.data, .data, .data, .data, .sentinel, .sentinel, .data, .data, .pinned], laidTests := true, laidLooks := .later }
def RunPartsCardSaid : Prop := Claim7.holds Tryz.pinned (.plain (OpenSpec.ofChange runPartsSpec)) runPartsCard

/-- THE SECOND FORM's CARD OF 'hopscotchlaw11.ActParse'. -/
def actParseUptoCard : Claim7 := { stood := { row := actParseUptoRow, standIns := [], harness := (true, "984a37caf0c81a7fd07abe805ca589a8da3edc2543fbf9d159e1d7a694be98d5"), looks := true }, kinds := [], alts := [], laidByText := true, laidKinds := [.data, .data, .data, .data, .sentinel, .sentinel, .data, .data, .wider, .pinned], laidTests := true, laidLooks := .later }
def ActParseUptoCardSaid : Prop := Claim7.holds Tryz.pinned (.plain (OpenSpec.upto actParseSpec)) actParseUptoCard

/-- THE SECOND FORM's CARD OF 'hopscotchlaw11.ActChecks'. -/
def actChecksUptoCard : Claim7 := { stood := { row := actChecksUptoRow, standIns := [], harness := (true, "984a37caf0c81a7fd07abe805ca589a8da3edc2543fbf9d159e1d7a694be98d5"), looks := true }, kinds := [], alts := [], laidByText := true, laidKinds := [.data, .data, .data, .data, .sentinel, .sentinel, .data, .data, .wider, .pinned], laidTests := true, laidLooks := .later }
def ActChecksUptoCardSaid : Prop := Claim7.holds Tryz.pinned (.plain (OpenSpec.upto actChecksSpec)) actChecksUptoCard

/-- THE SECOND FORM's CARD OF 'hopscotchlaw11.ActBack'. -/
def actBackUptoCard : Claim7 := { stood := { row := actBackUptoRow, standIns := [], harness := (true, "984a37caf0c81a7fd07abe805ca589a8da3edc2543fbf9d159e1d7a694be98d5"), looks := true }, kinds := [], alts := [], laidByText := true, laidKinds := [.data, .data, .data, .data, .sentinel, .sentinel, .data, .data, .wider, .pinned], laidTests := true, laidLooks := .later }
def ActBackUptoCardSaid : Prop := Claim7.holds Tryz.pinned (.plain (OpenSpec.upto actBackSpec)) actBackUptoCard

/-- THE SECOND FORM's CARD OF 'hopscotchlaw11.ActJoins'. -/
def actJoinsUptoCard : Claim7 := { stood := { row := actJoinsUptoRow, standIns := [], harness := (true, "984a37caf0c81a7fd07abe805ca589a8da3edc2543fbf9d159e1d7a694be98d5"), looks := true }, kinds := [], alts := [], laidByText := true, laidKinds := [.data, .data, .data, .data, .sentinel, .sentinel, .data, .data, .wider, .pinned], laidTests := true, laidLooks := .later }
def ActJoinsUptoCardSaid : Prop := Claim7.holds Tryz.pinned (.plain (OpenSpec.upto actJoinsSpec)) actJoinsUptoCard

/-- THE SECOND FORM's CARD OF 'hopscotchlaw12.RunDoes'. -/
def runDoesUptoCard : Claim7 := { stood := { row := runDoesUptoRow, standIns := [], harness := (true, "984a37caf0c81a7fd07abe805ca589a8da3edc2543fbf9d159e1d7a694be98d5"), looks := true }, kinds := [], alts := [], laidByText := true, laidKinds := [.data, .data, .data, .data, .sentinel, .sentinel, .data, .data, .pinned], laidTests := true, laidLooks := .later }
def RunDoesUptoCardSaid : Prop := Claim7.holds Tryz.pinned (.plain (OpenSpec.upto runDoesSpec)) runDoesUptoCard

/-- THE SECOND FORM's CARD OF 'hopscotchlaw12.RunTexts'. -/
def runTextsUptoCard : Claim7 := { stood := { row := runTextsUptoRow, standIns := [], harness := (true, "984a37caf0c81a7fd07abe805ca589a8da3edc2543fbf9d159e1d7a694be98d5"), looks := true }, kinds := [], alts := [], laidByText := true, laidKinds := [.data, .data, .data, .data, .sentinel, .sentinel, .data, .data, .pinned], laidTests := true, laidLooks := .later }
def RunTextsUptoCardSaid : Prop := Claim7.holds Tryz.pinned (.plain (OpenSpec.upto runTextsSpec)) runTextsUptoCard

/-- THE SECOND FORM's CARD OF 'hopscotchlaw12.RunTypes'. -/
def runTypesUptoCard : Claim7 := { stood := { row := runTypesUptoRow, standIns := [], harness := (true, "984a37caf0c81a7fd07abe805ca589a8da3edc2543fbf9d159e1d7a694be98d5"), looks := true }, kinds := [], alts := [], laidByText := true, laidKinds := [.data, .data, .data, .data, .sentinel, .sentinel, .data, .data, .wider, .pinned], laidTests := true, laidLooks := .later }
def RunTypesUptoCardSaid : Prop := Claim7.holds Tryz.pinned (.plain (OpenSpec.upto runTypesSpec)) runTypesUptoCard

/-- THE SECOND FORM's CARD OF 'hopscotchlaw12.RunParts'. -/
def runPartsUptoCard : Claim7 := { stood := { row := runPartsUptoRow, standIns := [], harness := (true, "984a37caf0c81a7fd07abe805ca589a8da3edc2543fbf9d159e1d7a694be98d5"), looks := true }, kinds := [], alts := [], laidByText := true, laidKinds := [.data, .data, .data, .data, .sentinel, .sentinel, .data, .data, .pinned], laidTests := true, laidLooks := .later }
def RunPartsUptoCardSaid : Prop := Claim7.holds Tryz.pinned (.plain (OpenSpec.upto runPartsSpec)) runPartsUptoCard
end Rows
end Go.Proofs.YtmmdigeciphglaaGreatDoor
