/-
  DERIVED. GIVEN WITH THE SEED: THE CARDS: each row of YtljgokdhdbgdbaaDoorRows.lean that lists a variable, with what it lists TIED to the program's text (the seventh form; the later family's looks); each row that meets fmt, with fmt's text TOLD by the authors' own Lean function (tested against real Go, not proved from fmt's source: count such statements apart). THE CARD IS WHAT COUNTS. Prove the row's statement (the work); the ties are given (YtljgokdhdbgdbaaDoorTie.lean); close each card by the builder's one call (the guide's Derived/Test/ToyasCard.lean, 'card_holds'). Laid BY PROGRAM, IN A SANDBOX (cutbox-door.mjs). By AI agents, Wed Nov 11 2026. No macro, syntax, notation, axiom, sorry.
-/
import Derived.Test.YtljgokdhdbgdbaaDoorRows
import GoSem.ClaimSeven
namespace Go.Proofs.YtljgokdhdbgdbaaDoor
namespace Rows

/-- THE TIED CARD OF 'bedsidelaw04.ObjectMay'. -/
def objectMayCard : Claim7 := { stood := { row := objectMayRow, standIns := [], harness := (true, "fa4622a175341cde285f0f9672d65ed6ee8260a31709a6d0a065eaa35143adb9"), looks := false }, kinds := [], alts := [], laidByText := true, laidKinds := [.data, .data], laidTests := true, laidLooks := .later }
def ObjectMayCardSaid : Prop := Claim7.holds Tryd.pinned (.plain (OpenSpec.ofChange objectMaySpec)) objectMayCard

/-- THE TIED CARD OF 'bedsidelaw04.ObjectParts'. -/
def objectPartsCard : Claim7 := { stood := { row := objectPartsRow, standIns := [], harness := (true, "fa4622a175341cde285f0f9672d65ed6ee8260a31709a6d0a065eaa35143adb9"), looks := false }, kinds := [], alts := [], laidByText := true, laidKinds := [.data], laidTests := true, laidLooks := .later }
def ObjectPartsCardSaid : Prop := Claim7.holds Tryd.pinned (.plain (OpenSpec.ofChange objectPartsSpec)) objectPartsCard

/-- THE TIED CARD OF 'bedsidelaw04.ObjectTexts'. -/
def objectTextsCard : Claim7 := { stood := { row := objectTextsRow, standIns := [], harness := (true, "fa4622a175341cde285f0f9672d65ed6ee8260a31709a6d0a065eaa35143adb9"), looks := false }, kinds := [], alts := [], laidByText := true, laidKinds := [.data, .data, .data, .data, .data], laidTests := true, laidLooks := .later }
def ObjectTextsCardSaid : Prop := Claim7.holds Tryd.pinned (.plain (OpenSpec.ofChange objectTextsSpec)) objectTextsCard

/-- THE TIED CARD OF 'bedsidelaw04.ObjectBack'. -/
def objectBackCard : Claim7 := { stood := { row := objectBackRow, standIns := [], harness := (true, "fa4622a175341cde285f0f9672d65ed6ee8260a31709a6d0a065eaa35143adb9"), looks := false }, kinds := [], alts := [], laidByText := true, laidKinds := [.data, .data, .data, .data, .data], laidTests := true, laidLooks := .later }
def ObjectBackCardSaid : Prop := Claim7.holds Tryd.pinned (.plain (OpenSpec.ofChange objectBackSpec)) objectBackCard

/-- THE TIED CARD OF 'bedsidelaw04.ObjectApart'. -/
def objectApartCard : Claim7 := { stood := { row := objectApartRow, standIns := [], harness := (true, "fa4622a175341cde285f0f9672d65ed6ee8260a31709a6d0a065eaa35143adb9"), looks := false }, kinds := [], alts := [], laidByText := true, laidKinds := [.data, .data, .data, .data, .data], laidTests := true, laidLooks := .later }
def ObjectApartCardSaid : Prop := Claim7.holds Tryd.pinned (.plain (OpenSpec.ofChange objectApartSpec)) objectApartCard

/-- THE TIED CARD OF 'bedsidelaw04.ObjectBoth'. -/
def objectBothCard : Claim7 := { stood := { row := objectBothRow, standIns := [], harness := (true, "fa4622a175341cde285f0f9672d65ed6ee8260a31709a6d0a065eaa35143adb9"), looks := false }, kinds := [], alts := [], laidByText := true, laidKinds := [.data, .data, .data, .data, .data], laidTests := true, laidLooks := .later }
def ObjectBothCardSaid : Prop := Claim7.holds Tryd.pinned (.plain (OpenSpec.ofChange objectBothSpec)) objectBothCard

/-- THE TIED CARD OF 'bedsidelaw04.ObjectWhole'. -/
def objectWholeCard : Claim7 := { stood := { row := objectWholeRow, standIns := [], harness := (true, "fa4622a175341cde285f0f9672d65ed6ee8260a31709a6d0a065eaa35143adb9"), looks := false }, kinds := [], alts := [], laidByText := true, laidKinds := [.data, .data, .data, .data, .data], laidTests := true, laidLooks := .later }
def ObjectWholeCardSaid : Prop := Claim7.holds Tryd.pinned (.plain (OpenSpec.ofChange objectWholeSpec)) objectWholeCard

/-- THE SECOND FORM's CARD OF 'bedsidelaw04.ObjectMay'. -/
def objectMayUptoCard : Claim7 := { stood := { row := objectMayUptoRow, standIns := [], harness := (true, "fa4622a175341cde285f0f9672d65ed6ee8260a31709a6d0a065eaa35143adb9"), looks := false }, kinds := [], alts := [], laidByText := true, laidKinds := [.data, .data], laidTests := true, laidLooks := .later }
def ObjectMayUptoCardSaid : Prop := Claim7.holds Tryd.pinned (.plain (OpenSpec.upto objectMaySpec)) objectMayUptoCard

/-- THE SECOND FORM's CARD OF 'bedsidelaw04.ObjectParts'. -/
def objectPartsUptoCard : Claim7 := { stood := { row := objectPartsUptoRow, standIns := [], harness := (true, "fa4622a175341cde285f0f9672d65ed6ee8260a31709a6d0a065eaa35143adb9"), looks := false }, kinds := [], alts := [], laidByText := true, laidKinds := [.data], laidTests := true, laidLooks := .later }
def ObjectPartsUptoCardSaid : Prop := Claim7.holds Tryd.pinned (.plain (OpenSpec.upto objectPartsSpec)) objectPartsUptoCard

/-- THE SECOND FORM's CARD OF 'bedsidelaw04.ObjectTexts'. -/
def objectTextsUptoCard : Claim7 := { stood := { row := objectTextsUptoRow, standIns := [], harness := (true, "fa4622a175341cde285f0f9672d65ed6ee8260a31709a6d0a065eaa35143adb9"), looks := false }, kinds := [], alts := [], laidByText := true, laidKinds := [.data, .data, .data, .data, .data], laidTests := true, laidLooks := .later }
def ObjectTextsUptoCardSaid : Prop := Claim7.holds Tryd.pinned (.plain (OpenSpec.upto objectTextsSpec)) objectTextsUptoCard

/-- THE SECOND FORM's CARD OF 'bedsidelaw04.ObjectBack'. -/
def objectBackUptoCard : Claim7 := { stood := { row := objectBackUptoRow, standIns := [], harness := (true, "fa4622a175341cde285f0f9672d65ed6ee8260a31709a6d0a065eaa35143adb9"), looks := false }, kinds := [], alts := [], laidByText := true, laidKinds := [.data, .data, .data, .data, .data], laidTests := true, laidLooks := .later }
def ObjectBackUptoCardSaid : Prop := Claim7.holds Tryd.pinned (.plain (OpenSpec.upto objectBackSpec)) objectBackUptoCard

/-- THE SECOND FORM's CARD OF 'bedsidelaw04.ObjectApart'. -/
def objectApartUptoCard : Claim7 := { stood := { row := objectApartUptoRow, standIns := [], harness := (true, "fa4622a175341cde285f0f9672d65ed6ee8260a31709a6d0a065eaa35143adb9"), looks := false }, kinds := [], alts := [], laidByText := true, laidKinds := [.data, .data, .data, .data, .data], laidTests := true, laidLooks := .later }
def ObjectApartUptoCardSaid : Prop := Claim7.holds Tryd.pinned (.plain (OpenSpec.upto objectApartSpec)) objectApartUptoCard

/-- THE SECOND FORM's CARD OF 'bedsidelaw04.ObjectBoth'. -/
def objectBothUptoCard : Claim7 := { stood := { row := objectBothUptoRow, standIns := [], harness := (true, "fa4622a175341cde285f0f9672d65ed6ee8260a31709a6d0a065eaa35143adb9"), looks := false }, kinds := [], alts := [], laidByText := true, laidKinds := [.data, .data, .data, .data, .data], laidTests := true, laidLooks := .later }
def ObjectBothUptoCardSaid : Prop := Claim7.holds Tryd.pinned (.plain (OpenSpec.upto objectBothSpec)) objectBothUptoCard

/-- THE SECOND FORM's CARD OF 'bedsidelaw04.ObjectWhole'. -/
def objectWholeUptoCard : Claim7 := { stood := { row := objectWholeUptoRow, standIns := [], harness := (true, "fa4622a175341cde285f0f9672d65ed6ee8260a31709a6d0a065eaa35143adb9"), looks := false }, kinds := [], alts := [], laidByText := true, laidKinds := [.data, .data, .data, .data, .data], laidTests := true, laidLooks := .later }
def ObjectWholeUptoCardSaid : Prop := Claim7.holds Tryd.pinned (.plain (OpenSpec.upto objectWholeSpec)) objectWholeUptoCard
end Rows
end Go.Proofs.YtljgokdhdbgdbaaDoor
