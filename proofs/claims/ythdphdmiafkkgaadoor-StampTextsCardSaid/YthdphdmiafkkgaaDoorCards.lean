/-
  DERIVED. GIVEN WITH THE SEED: THE CARDS: each row of YthdphdmiafkkgaaDoorRows.lean that lists a variable, with what it lists TIED to the program's text (the seventh form; the later family's looks); each row that meets fmt, with fmt's text TOLD by the authors' own Lean function (tested against real Go, not proved from fmt's source: count such statements apart). THE CARD IS WHAT COUNTS. Prove the row's statement (the work); the ties are given (YthdphdmiafkkgaaDoorTie.lean); close each card by the builder's one call (the guide's Derived/Test/ToyasCard.lean, 'card_holds'). Laid BY PROGRAM, IN A SANDBOX (cutbox-door.mjs). By AI agents, Wed Nov 11 2026. No macro, syntax, notation, axiom, sorry.
-/
import Derived.Test.YthdphdmiafkkgaaDoorRows
import GoSem.ClaimSeven
namespace Go.Proofs.YthdphdmiafkkgaaDoor
namespace Rows

/-- THE TIED CARD OF 'bedsidelaw15.StampChanges'. -/
def stampChangesCard : Claim7 := { stood := { row := stampChangesRow, standIns := [], harness := (true, "505c1e03c312115bcd2ea09bba3aa009555d8f416432cd2e361ea82fcd50abaf"), looks := true }, kinds := [], alts := [], laidByText := true, laidKinds := [.data], laidTests := true, laidLooks := .later }
def StampChangesCardSaid : Prop := Claim7.holds Tryd.pinned (.plain (OpenSpec.ofChange stampChangesSpec)) stampChangesCard

/-- THE TIED CARD OF 'bedsidelaw15.StampTexts'. -/
def stampTextsCard : Claim7 := { stood := { row := stampTextsRow, standIns := [], harness := (true, "505c1e03c312115bcd2ea09bba3aa009555d8f416432cd2e361ea82fcd50abaf"), looks := true }, kinds := [], alts := [], laidByText := true, laidKinds := [.data, .data, .data, .sentinel, .sentinel], laidTests := true, laidLooks := .later }
def StampTextsCardSaid : Prop := Claim7.holds Tryd.pinned (.plain (OpenSpec.ofChange stampTextsSpec)) stampTextsCard

/-- THE TIED CARD OF 'bedsidelaw15.StampRises'. -/
def stampRisesCard : Claim7 := { stood := { row := stampRisesRow, standIns := [], harness := (true, "505c1e03c312115bcd2ea09bba3aa009555d8f416432cd2e361ea82fcd50abaf"), looks := true }, kinds := [], alts := [], laidByText := true, laidKinds := [.data, .data, .data, .sentinel, .sentinel, .data], laidTests := true, laidLooks := .later }
def StampRisesCardSaid : Prop := Claim7.holds Tryd.pinned (.plain (OpenSpec.ofChange stampRisesSpec)) stampRisesCard

/-- THE TIED CARD OF 'bedsidelaw15.StampCounts'. -/
def stampCountsCard : Claim7 := { stood := { row := stampCountsRow, standIns := [], harness := (true, "505c1e03c312115bcd2ea09bba3aa009555d8f416432cd2e361ea82fcd50abaf"), looks := true }, kinds := [], alts := [], laidByText := true, laidKinds := [.data, .data, .data, .sentinel, .sentinel, .data], laidTests := true, laidLooks := .later }
def StampCountsCardSaid : Prop := Claim7.holds Tryd.pinned (.plain (OpenSpec.ofChange stampCountsSpec)) stampCountsCard

/-- THE TIED CARD OF 'bedsidelaw15.StampBack'. -/
def stampBackCard : Claim7 := { stood := { row := stampBackRow, standIns := [], harness := (true, "505c1e03c312115bcd2ea09bba3aa009555d8f416432cd2e361ea82fcd50abaf"), looks := true }, kinds := [], alts := [], laidByText := true, laidKinds := [.data, .data, .data, .sentinel, .sentinel, .data], laidTests := true, laidLooks := .later }
def StampBackCardSaid : Prop := Claim7.holds Tryd.pinned (.plain (OpenSpec.ofChange stampBackSpec)) stampBackCard

/-- THE TIED CARD OF 'bedsidelaw15.StampOrder'. -/
def stampOrderCard : Claim7 := { stood := { row := stampOrderRow, standIns := [], harness := (true, "505c1e03c312115bcd2ea09bba3aa009555d8f416432cd2e361ea82fcd50abaf"), looks := true }, kinds := [], alts := [], laidByText := true, laidKinds := [.data, .data, .data, .sentinel, .sentinel, .data], laidTests := true, laidLooks := .later }
def StampOrderCardSaid : Prop := Claim7.holds Tryd.pinned (.plain (OpenSpec.ofChange stampOrderSpec)) stampOrderCard

/-- THE SECOND FORM's CARD OF 'bedsidelaw15.StampChanges'. -/
def stampChangesUptoCard : Claim7 := { stood := { row := stampChangesUptoRow, standIns := [], harness := (true, "505c1e03c312115bcd2ea09bba3aa009555d8f416432cd2e361ea82fcd50abaf"), looks := true }, kinds := [], alts := [], laidByText := true, laidKinds := [.data], laidTests := true, laidLooks := .later }
def StampChangesUptoCardSaid : Prop := Claim7.holds Tryd.pinned (.plain (OpenSpec.upto stampChangesSpec)) stampChangesUptoCard

/-- THE SECOND FORM's CARD OF 'bedsidelaw15.StampTexts'. -/
def stampTextsUptoCard : Claim7 := { stood := { row := stampTextsUptoRow, standIns := [], harness := (true, "505c1e03c312115bcd2ea09bba3aa009555d8f416432cd2e361ea82fcd50abaf"), looks := true }, kinds := [], alts := [], laidByText := true, laidKinds := [.data, .data, .data, .sentinel, .sentinel], laidTests := true, laidLooks := .later }
def StampTextsUptoCardSaid : Prop := Claim7.holds Tryd.pinned (.plain (OpenSpec.upto stampTextsSpec)) stampTextsUptoCard

/-- THE SECOND FORM's CARD OF 'bedsidelaw15.StampRises'. -/
def stampRisesUptoCard : Claim7 := { stood := { row := stampRisesUptoRow, standIns := [], harness := (true, "505c1e03c312115bcd2ea09bba3aa009555d8f416432cd2e361ea82fcd50abaf"), looks := true }, kinds := [], alts := [], laidByText := true, laidKinds := [.data, .data, .data, .sentinel, .sentinel, .data], laidTests := true, laidLooks := .later }
def StampRisesUptoCardSaid : Prop := Claim7.holds Tryd.pinned (.plain (OpenSpec.upto stampRisesSpec)) stampRisesUptoCard

/-- THE SECOND FORM's CARD OF 'bedsidelaw15.StampCounts'. -/
def stampCountsUptoCard : Claim7 := { stood := { row := stampCountsUptoRow, standIns := [], harness := (true, "505c1e03c312115bcd2ea09bba3aa009555d8f416432cd2e361ea82fcd50abaf"), looks := true }, kinds := [], alts := [], laidByText := true, laidKinds := [.data, .data, .data, .sentinel, .sentinel, .data], laidTests := true, laidLooks := .later }
def StampCountsUptoCardSaid : Prop := Claim7.holds Tryd.pinned (.plain (OpenSpec.upto stampCountsSpec)) stampCountsUptoCard

/-- THE SECOND FORM's CARD OF 'bedsidelaw15.StampBack'. -/
def stampBackUptoCard : Claim7 := { stood := { row := stampBackUptoRow, standIns := [], harness := (true, "505c1e03c312115bcd2ea09bba3aa009555d8f416432cd2e361ea82fcd50abaf"), looks := true }, kinds := [], alts := [], laidByText := true, laidKinds := [.data, .data, .data, .sentinel, .sentinel, .data], laidTests := true, laidLooks := .later }
def StampBackUptoCardSaid : Prop := Claim7.holds Tryd.pinned (.plain (OpenSpec.upto stampBackSpec)) stampBackUptoCard

/-- THE SECOND FORM's CARD OF 'bedsidelaw15.StampOrder'. -/
def stampOrderUptoCard : Claim7 := { stood := { row := stampOrderUptoRow, standIns := [], harness := (true, "505c1e03c312115bcd2ea09bba3aa009555d8f416432cd2e361ea82fcd50abaf"), looks := true }, kinds := [], alts := [], laidByText := true, laidKinds := [.data, .data, .data, .sentinel, .sentinel, .data], laidTests := true, laidLooks := .later }
def StampOrderUptoCardSaid : Prop := Claim7.holds Tryd.pinned (.plain (OpenSpec.upto stampOrderSpec)) stampOrderUptoCard
end Rows
end Go.Proofs.YthdphdmiafkkgaaDoor
