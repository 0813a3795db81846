/-
  DERIVED. GIVEN WITH THE SEED: THE CARDS: each row of YthlalmoapbdccaaDoorRows.lean that lists a variable, with what it lists TIED to the program's text (the seventh form; the later family's looks); each row that meets fmt, with fmt's text TOLD by the authors' own Lean function (tested against real Go, not proved from fmt's source: count such statements apart). THE CARD IS WHAT COUNTS. Prove the row's statement (the work); the ties are given (YthlalmoapbdccaaDoorTie.lean); close each card by the builder's one call (the guide's Derived/Test/ToyasCard.lean, 'card_holds'). Laid BY PROGRAM, IN A SANDBOX (cutbox-door.mjs). By AI agents, Wed Nov 11 2026. No macro, syntax, notation, axiom, sorry.
-/
import Derived.Test.YthlalmoapbdccaaDoorRows
import GoSem.ClaimSeven
namespace Go.Proofs.YthlalmoapbdccaaDoor
namespace Rows

/-- THE TIED CARD OF 'bedsidelaw09.WfChecks'. -/
def wfChecksCard : Claim7 := { stood := { row := wfChecksRow, standIns := [], harness := (true, "f5823d53d0dc551c9f56c72f1a833b3be0a41be55b69a34434558272cef361c3"), looks := false }, kinds := [], alts := [], laidByText := true, laidKinds := [.data, .data, .data], laidTests := true, laidLooks := .later }
def WfChecksCardSaid : Prop := Claim7.holds Tryd.pinned (.plain (OpenSpec.ofChange wfChecksSpec)) wfChecksCard

/-- THE TIED CARD OF 'bedsidelaw09.WfSpoils'. -/
def wfSpoilsCard : Claim7 := { stood := { row := wfSpoilsRow, standIns := [], harness := (true, "f5823d53d0dc551c9f56c72f1a833b3be0a41be55b69a34434558272cef361c3"), looks := false }, kinds := [], alts := [], laidByText := true, laidKinds := [.data, .data, .data], laidTests := true, laidLooks := .later }
def WfSpoilsCardSaid : Prop := Claim7.holds Tryd.pinned (.plain (OpenSpec.ofChange wfSpoilsSpec)) wfSpoilsCard

/-- THE TIED CARD OF 'bedsidelaw09.WfOrder'. -/
def wfOrderCard : Claim7 := { stood := { row := wfOrderRow, standIns := [], harness := (true, "f5823d53d0dc551c9f56c72f1a833b3be0a41be55b69a34434558272cef361c3"), looks := false }, kinds := [], alts := [], laidByText := true, laidKinds := [.data, .data, .data], laidTests := true, laidLooks := .later }
def WfOrderCardSaid : Prop := Claim7.holds Tryd.pinned (.plain (OpenSpec.ofChange wfOrderSpec)) wfOrderCard

/-- THE TIED CARD OF 'bedsidelaw09.WfApart'. -/
def wfApartCard : Claim7 := { stood := { row := wfApartRow, standIns := [], harness := (true, "f5823d53d0dc551c9f56c72f1a833b3be0a41be55b69a34434558272cef361c3"), looks := false }, kinds := [], alts := [], laidByText := true, laidKinds := [.data, .data, .data], laidTests := true, laidLooks := .later }
def WfApartCardSaid : Prop := Claim7.holds Tryd.pinned (.plain (OpenSpec.ofChange wfApartSpec)) wfApartCard

/-- THE TIED CARD OF 'bedsidelaw09.WfLess'. -/
def wfLessCard : Claim7 := { stood := { row := wfLessRow, standIns := [], harness := (true, "f5823d53d0dc551c9f56c72f1a833b3be0a41be55b69a34434558272cef361c3"), looks := false }, kinds := [], alts := [], laidByText := true, laidKinds := [.data, .data, .data], laidTests := true, laidLooks := .later }
def WfLessCardSaid : Prop := Claim7.holds Tryd.pinned (.plain (OpenSpec.ofChange wfLessSpec)) wfLessCard

/-- THE TIED CARD OF 'bedsidelaw09.WfRules'. -/
def wfRulesCard : Claim7 := { stood := { row := wfRulesRow, standIns := [], harness := (true, "f5823d53d0dc551c9f56c72f1a833b3be0a41be55b69a34434558272cef361c3"), looks := false }, kinds := [], alts := [], laidByText := true, laidKinds := [.data, .data, .data], laidTests := true, laidLooks := .later }
def WfRulesCardSaid : Prop := Claim7.holds Tryd.pinned (.plain (OpenSpec.ofChange wfRulesSpec)) wfRulesCard

/-- THE SECOND FORM's CARD OF 'bedsidelaw09.WfChecks'. -/
def wfChecksUptoCard : Claim7 := { stood := { row := wfChecksUptoRow, standIns := [], harness := (true, "f5823d53d0dc551c9f56c72f1a833b3be0a41be55b69a34434558272cef361c3"), looks := false }, kinds := [], alts := [], laidByText := true, laidKinds := [.data, .data, .data], laidTests := true, laidLooks := .later }
def WfChecksUptoCardSaid : Prop := Claim7.holds Tryd.pinned (.plain (OpenSpec.upto wfChecksSpec)) wfChecksUptoCard

/-- THE SECOND FORM's CARD OF 'bedsidelaw09.WfSpoils'. -/
def wfSpoilsUptoCard : Claim7 := { stood := { row := wfSpoilsUptoRow, standIns := [], harness := (true, "f5823d53d0dc551c9f56c72f1a833b3be0a41be55b69a34434558272cef361c3"), looks := false }, kinds := [], alts := [], laidByText := true, laidKinds := [.data, .data, .data], laidTests := true, laidLooks := .later }
def WfSpoilsUptoCardSaid : Prop := Claim7.holds Tryd.pinned (.plain (OpenSpec.upto wfSpoilsSpec)) wfSpoilsUptoCard

/-- THE SECOND FORM's CARD OF 'bedsidelaw09.WfOrder'. -/
def wfOrderUptoCard : Claim7 := { stood := { row := wfOrderUptoRow, standIns := [], harness := (true, "f5823d53d0dc551c9f56c72f1a833b3be0a41be55b69a34434558272cef361c3"), looks := false }, kinds := [], alts := [], laidByText := true, laidKinds := [.data, .data, .data], laidTests := true, laidLooks := .later }
def WfOrderUptoCardSaid : Prop := Claim7.holds Tryd.pinned (.plain (OpenSpec.upto wfOrderSpec)) wfOrderUptoCard

/-- THE SECOND FORM's CARD OF 'bedsidelaw09.WfApart'. -/
def wfApartUptoCard : Claim7 := { stood := { row := wfApartUptoRow, standIns := [], harness := (true, "f5823d53d0dc551c9f56c72f1a833b3be0a41be55b69a34434558272cef361c3"), looks := false }, kinds := [], alts := [], laidByText := true, laidKinds := [.data, .data, .data], laidTests := true, laidLooks := .later }
def WfApartUptoCardSaid : Prop := Claim7.holds Tryd.pinned (.plain (OpenSpec.upto wfApartSpec)) wfApartUptoCard

/-- THE SECOND FORM's CARD OF 'bedsidelaw09.WfLess'. -/
def wfLessUptoCard : Claim7 := { stood := { row := wfLessUptoRow, standIns := [], harness := (true, "f5823d53d0dc551c9f56c72f1a833b3be0a41be55b69a34434558272cef361c3"), looks := false }, kinds := [], alts := [], laidByText := true, laidKinds := [.data, .data, .data], laidTests := true, laidLooks := .later }
def WfLessUptoCardSaid : Prop := Claim7.holds Tryd.pinned (.plain (OpenSpec.upto wfLessSpec)) wfLessUptoCard

/-- THE SECOND FORM's CARD OF 'bedsidelaw09.WfRules'. -/
def wfRulesUptoCard : Claim7 := { stood := { row := wfRulesUptoRow, standIns := [], harness := (true, "f5823d53d0dc551c9f56c72f1a833b3be0a41be55b69a34434558272cef361c3"), looks := false }, kinds := [], alts := [], laidByText := true, laidKinds := [.data, .data, .data], laidTests := true, laidLooks := .later }
def WfRulesUptoCardSaid : Prop := Claim7.holds Tryd.pinned (.plain (OpenSpec.upto wfRulesSpec)) wfRulesUptoCard
end Rows
end Go.Proofs.YthlalmoapbdccaaDoor
