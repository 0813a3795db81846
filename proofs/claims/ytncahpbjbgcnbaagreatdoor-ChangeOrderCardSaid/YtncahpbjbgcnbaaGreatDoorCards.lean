/-
  DERIVED. GIVEN WITH THE SEED: THE CARDS: each row of YtncahpbjbgcnbaaGreatDoorRows.lean that lists a variable, with what it lists TIED to the program's text (the seventh form; the later family's looks); each row that meets fmt, with fmt's text TOLD by the authors' own Lean function (tested against real Go, not proved from fmt's source: count such statements apart). THE CARD IS WHAT COUNTS. Prove the row's statement (the work); the ties are given (YtncahpbjbgcnbaaGreatDoorTie.lean); close each card by the builder's one call (the guide's Derived/Test/ToyasCard.lean, 'card_holds'). Laid BY PROGRAM, IN A SANDBOX (cutbox-door.mjs). By AI agents, Wed Nov 11 2026. No macro, syntax, notation, axiom, sorry.
-/
import Derived.Test.YtncahpbjbgcnbaaGreatDoorRows
import GoSem.ClaimSeven
namespace Go.Proofs.YtncahpbjbgcnbaaGreatDoor
namespace Rows

/-- THE TIED CARD OF 'bedsidelaw10.ChangeApplies'. -/
def changeAppliesCard : Claim7 := { stood := { row := changeAppliesRow, standIns := [], harness := (true, "b619192df78cdbcf08e008885381de5dca98897311d64e5187c68b217c0b289a"), looks := false }, kinds := [], alts := [], laidByText := true, laidKinds := [.data, .data], laidTests := true, laidLooks := .later }
def ChangeAppliesCardSaid : Prop := Claim7.holds Tryz.pinned (.plain (OpenSpec.ofChange changeAppliesSpec)) changeAppliesCard

/-- THE TIED CARD OF 'bedsidelaw10.ChangeBack'. -/
def changeBackCard : Claim7 := { stood := { row := changeBackRow, standIns := [], harness := (true, "b619192df78cdbcf08e008885381de5dca98897311d64e5187c68b217c0b289a"), looks := false }, kinds := [], alts := [], laidByText := true, laidKinds := [.data, .data], laidTests := true, laidLooks := .later }
def ChangeBackCardSaid : Prop := Claim7.holds Tryz.pinned (.plain (OpenSpec.ofChange changeBackSpec)) changeBackCard

/-- THE TIED CARD OF 'bedsidelaw10.ChangeNone'. -/
def changeNoneCard : Claim7 := { stood := { row := changeNoneRow, standIns := [], harness := (true, "b619192df78cdbcf08e008885381de5dca98897311d64e5187c68b217c0b289a"), looks := false }, kinds := [], alts := [], laidByText := true, laidKinds := [.data, .data], laidTests := true, laidLooks := .later }
def ChangeNoneCardSaid : Prop := Claim7.holds Tryz.pinned (.plain (OpenSpec.ofChange changeNoneSpec)) changeNoneCard

/-- THE TIED CARD OF 'bedsidelaw10.ChangeOrder'. -/
def changeOrderCard : Claim7 := { stood := { row := changeOrderRow, standIns := [], harness := (true, "b619192df78cdbcf08e008885381de5dca98897311d64e5187c68b217c0b289a"), looks := false }, kinds := [], alts := [], laidByText := true, laidKinds := [.data, .data], laidTests := true, laidLooks := .later }
def ChangeOrderCardSaid : Prop := Claim7.holds Tryz.pinned (.plain (OpenSpec.ofChange changeOrderSpec)) changeOrderCard

/-- THE SECOND FORM's CARD OF 'bedsidelaw10.ChangeApplies'. -/
def changeAppliesUptoCard : Claim7 := { stood := { row := changeAppliesUptoRow, standIns := [], harness := (true, "b619192df78cdbcf08e008885381de5dca98897311d64e5187c68b217c0b289a"), looks := false }, kinds := [], alts := [], laidByText := true, laidKinds := [.data, .data], laidTests := true, laidLooks := .later }
def ChangeAppliesUptoCardSaid : Prop := Claim7.holds Tryz.pinned (.plain (OpenSpec.upto changeAppliesSpec)) changeAppliesUptoCard

/-- THE SECOND FORM's CARD OF 'bedsidelaw10.ChangeBack'. -/
def changeBackUptoCard : Claim7 := { stood := { row := changeBackUptoRow, standIns := [], harness := (true, "b619192df78cdbcf08e008885381de5dca98897311d64e5187c68b217c0b289a"), looks := false }, kinds := [], alts := [], laidByText := true, laidKinds := [.data, .data], laidTests := true, laidLooks := .later }
def ChangeBackUptoCardSaid : Prop := Claim7.holds Tryz.pinned (.plain (OpenSpec.upto changeBackSpec)) changeBackUptoCard

/-- THE SECOND FORM's CARD OF 'bedsidelaw10.ChangeNone'. -/
def changeNoneUptoCard : Claim7 := { stood := { row := changeNoneUptoRow, standIns := [], harness := (true, "b619192df78cdbcf08e008885381de5dca98897311d64e5187c68b217c0b289a"), looks := false }, kinds := [], alts := [], laidByText := true, laidKinds := [.data, .data], laidTests := true, laidLooks := .later }
def ChangeNoneUptoCardSaid : Prop := Claim7.holds Tryz.pinned (.plain (OpenSpec.upto changeNoneSpec)) changeNoneUptoCard

/-- THE SECOND FORM's CARD OF 'bedsidelaw10.ChangeOrder'. -/
def changeOrderUptoCard : Claim7 := { stood := { row := changeOrderUptoRow, standIns := [], harness := (true, "b619192df78cdbcf08e008885381de5dca98897311d64e5187c68b217c0b289a"), looks := false }, kinds := [], alts := [], laidByText := true, laidKinds := [.data, .data], laidTests := true, laidLooks := .later }
def ChangeOrderUptoCardSaid : Prop := Claim7.holds Tryz.pinned (.plain (OpenSpec.upto changeOrderSpec)) changeOrderUptoCard
end Rows
end Go.Proofs.YtncahpbjbgcnbaaGreatDoor
