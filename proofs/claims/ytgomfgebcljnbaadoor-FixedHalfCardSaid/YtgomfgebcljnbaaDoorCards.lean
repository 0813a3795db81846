/-
  DERIVED. GIVEN WITH THE SEED: THE CARDS: each row of YtgomfgebcljnbaaDoorRows.lean that lists a variable, with what it lists TIED to the program's text (the seventh form; the later family's looks); each row that meets fmt, with fmt's text TOLD by the authors' own Lean function (tested against real Go, not proved from fmt's source: count such statements apart). THE CARD IS WHAT COUNTS. Prove the row's statement (the work); the ties are given (YtgomfgebcljnbaaDoorTie.lean); close each card by the builder's one call (the guide's Derived/Test/ToyasCard.lean, 'card_holds'). Laid BY PROGRAM, IN A SANDBOX (cutbox-door.mjs). By AI agents, Wed Nov 11 2026. No macro, syntax, notation, axiom, sorry.
-/
import Derived.Test.YtgomfgebcljnbaaDoorRows
import GoSem.ClaimSeven
namespace Go.Proofs.YtgomfgebcljnbaaDoor
namespace Rows

/-- THE TIED CARD OF 'bedsidelaw02.FixedTexts'. -/
def fixedTextsCard : Claim7 := { stood := { row := fixedTextsRow, standIns := [], harness := (true, "2a4d4c17cadf5f141de3620ac1be140452a3340a8a0e711b95e5d6a13bccf5ea"), looks := false }, kinds := [], alts := [], laidByText := true, laidKinds := [.data], laidTests := true, laidLooks := .later }
def FixedTextsCardSaid : Prop := Claim7.holds Tryd.pinned (.plain (OpenSpec.ofChange fixedTextsSpec)) fixedTextsCard

/-- THE TIED CARD OF 'bedsidelaw02.FixedScales'. -/
def fixedScalesCard : Claim7 := { stood := { row := fixedScalesRow, standIns := [], harness := (true, "2a4d4c17cadf5f141de3620ac1be140452a3340a8a0e711b95e5d6a13bccf5ea"), looks := false }, kinds := [], alts := [], laidByText := true, laidKinds := [.data], laidTests := true, laidLooks := .later }
def FixedScalesCardSaid : Prop := Claim7.holds Tryd.pinned (.plain (OpenSpec.ofChange fixedScalesSpec)) fixedScalesCard

/-- THE TIED CARD OF 'bedsidelaw02.FixedCompares'. -/
def fixedComparesCard : Claim7 := { stood := { row := fixedComparesRow, standIns := [], harness := (true, "2a4d4c17cadf5f141de3620ac1be140452a3340a8a0e711b95e5d6a13bccf5ea"), looks := false }, kinds := [], alts := [], laidByText := true, laidKinds := [.data], laidTests := true, laidLooks := .later }
def FixedComparesCardSaid : Prop := Claim7.holds Tryd.pinned (.plain (OpenSpec.ofChange fixedComparesSpec)) fixedComparesCard

/-- THE TIED CARD OF 'bedsidelaw02.FixedBack'. -/
def fixedBackCard : Claim7 := { stood := { row := fixedBackRow, standIns := [], harness := (true, "2a4d4c17cadf5f141de3620ac1be140452a3340a8a0e711b95e5d6a13bccf5ea"), looks := false }, kinds := [], alts := [], laidByText := true, laidKinds := [.data], laidTests := true, laidLooks := .later }
def FixedBackCardSaid : Prop := Claim7.holds Tryd.pinned (.plain (OpenSpec.ofChange fixedBackSpec)) fixedBackCard

/-- THE TIED CARD OF 'bedsidelaw02.FixedHalf'. -/
def fixedHalfCard : Claim7 := { stood := { row := fixedHalfRow, standIns := [], harness := (true, "2a4d4c17cadf5f141de3620ac1be140452a3340a8a0e711b95e5d6a13bccf5ea"), looks := false }, kinds := [], alts := [], laidByText := true, laidKinds := [.data], laidTests := true, laidLooks := .later }
def FixedHalfCardSaid : Prop := Claim7.holds Tryd.pinned (.plain (OpenSpec.ofChange fixedHalfSpec)) fixedHalfCard

/-- THE TIED CARD OF 'bedsidelaw02.FixedOrder'. -/
def fixedOrderCard : Claim7 := { stood := { row := fixedOrderRow, standIns := [], harness := (true, "2a4d4c17cadf5f141de3620ac1be140452a3340a8a0e711b95e5d6a13bccf5ea"), looks := false }, kinds := [], alts := [], laidByText := true, laidKinds := [.data], laidTests := true, laidLooks := .later }
def FixedOrderCardSaid : Prop := Claim7.holds Tryd.pinned (.plain (OpenSpec.ofChange fixedOrderSpec)) fixedOrderCard

/-- THE TIED CARD OF 'bedsidelaw02.FixedSums'. -/
def fixedSumsCard : Claim7 := { stood := { row := fixedSumsRow, standIns := [], harness := (true, "2a4d4c17cadf5f141de3620ac1be140452a3340a8a0e711b95e5d6a13bccf5ea"), looks := false }, kinds := [], alts := [], laidByText := true, laidKinds := [.data], laidTests := true, laidLooks := .later }
def FixedSumsCardSaid : Prop := Claim7.holds Tryd.pinned (.plain (OpenSpec.ofChange fixedSumsSpec)) fixedSumsCard

/-- THE SECOND FORM's CARD OF 'bedsidelaw02.FixedTexts'. -/
def fixedTextsUptoCard : Claim7 := { stood := { row := fixedTextsUptoRow, standIns := [], harness := (true, "2a4d4c17cadf5f141de3620ac1be140452a3340a8a0e711b95e5d6a13bccf5ea"), looks := false }, kinds := [], alts := [], laidByText := true, laidKinds := [.data], laidTests := true, laidLooks := .later }
def FixedTextsUptoCardSaid : Prop := Claim7.holds Tryd.pinned (.plain (OpenSpec.upto fixedTextsSpec)) fixedTextsUptoCard

/-- THE SECOND FORM's CARD OF 'bedsidelaw02.FixedScales'. -/
def fixedScalesUptoCard : Claim7 := { stood := { row := fixedScalesUptoRow, standIns := [], harness := (true, "2a4d4c17cadf5f141de3620ac1be140452a3340a8a0e711b95e5d6a13bccf5ea"), looks := false }, kinds := [], alts := [], laidByText := true, laidKinds := [.data], laidTests := true, laidLooks := .later }
def FixedScalesUptoCardSaid : Prop := Claim7.holds Tryd.pinned (.plain (OpenSpec.upto fixedScalesSpec)) fixedScalesUptoCard

/-- THE SECOND FORM's CARD OF 'bedsidelaw02.FixedCompares'. -/
def fixedComparesUptoCard : Claim7 := { stood := { row := fixedComparesUptoRow, standIns := [], harness := (true, "2a4d4c17cadf5f141de3620ac1be140452a3340a8a0e711b95e5d6a13bccf5ea"), looks := false }, kinds := [], alts := [], laidByText := true, laidKinds := [.data], laidTests := true, laidLooks := .later }
def FixedComparesUptoCardSaid : Prop := Claim7.holds Tryd.pinned (.plain (OpenSpec.upto fixedComparesSpec)) fixedComparesUptoCard

/-- THE SECOND FORM's CARD OF 'bedsidelaw02.FixedBack'. -/
def fixedBackUptoCard : Claim7 := { stood := { row := fixedBackUptoRow, standIns := [], harness := (true, "2a4d4c17cadf5f141de3620ac1be140452a3340a8a0e711b95e5d6a13bccf5ea"), looks := false }, kinds := [], alts := [], laidByText := true, laidKinds := [.data], laidTests := true, laidLooks := .later }
def FixedBackUptoCardSaid : Prop := Claim7.holds Tryd.pinned (.plain (OpenSpec.upto fixedBackSpec)) fixedBackUptoCard

/-- THE SECOND FORM's CARD OF 'bedsidelaw02.FixedHalf'. -/
def fixedHalfUptoCard : Claim7 := { stood := { row := fixedHalfUptoRow, standIns := [], harness := (true, "2a4d4c17cadf5f141de3620ac1be140452a3340a8a0e711b95e5d6a13bccf5ea"), looks := false }, kinds := [], alts := [], laidByText := true, laidKinds := [.data], laidTests := true, laidLooks := .later }
def FixedHalfUptoCardSaid : Prop := Claim7.holds Tryd.pinned (.plain (OpenSpec.upto fixedHalfSpec)) fixedHalfUptoCard

/-- THE SECOND FORM's CARD OF 'bedsidelaw02.FixedOrder'. -/
def fixedOrderUptoCard : Claim7 := { stood := { row := fixedOrderUptoRow, standIns := [], harness := (true, "2a4d4c17cadf5f141de3620ac1be140452a3340a8a0e711b95e5d6a13bccf5ea"), looks := false }, kinds := [], alts := [], laidByText := true, laidKinds := [.data], laidTests := true, laidLooks := .later }
def FixedOrderUptoCardSaid : Prop := Claim7.holds Tryd.pinned (.plain (OpenSpec.upto fixedOrderSpec)) fixedOrderUptoCard

/-- THE SECOND FORM's CARD OF 'bedsidelaw02.FixedSums'. -/
def fixedSumsUptoCard : Claim7 := { stood := { row := fixedSumsUptoRow, standIns := [], harness := (true, "2a4d4c17cadf5f141de3620ac1be140452a3340a8a0e711b95e5d6a13bccf5ea"), looks := false }, kinds := [], alts := [], laidByText := true, laidKinds := [.data], laidTests := true, laidLooks := .later }
def FixedSumsUptoCardSaid : Prop := Claim7.holds Tryd.pinned (.plain (OpenSpec.upto fixedSumsSpec)) fixedSumsUptoCard
end Rows
end Go.Proofs.YtgomfgebcljnbaaDoor
