/-
  DERIVED. GIVEN WITH THE SEED: THE CARDS: each row of YtmhckcpcnkhbeaaDoorRows.lean that lists a variable, with what it lists TIED to the program's text (the seventh form; the later family's looks); each row that meets fmt, with fmt's text TOLD by the authors' own Lean function (tested against real Go, not proved from fmt's source: count such statements apart). THE CARD IS WHAT COUNTS. Prove the row's statement (the work); the ties are given (YtmhckcpcnkhbeaaDoorTie.lean); close each card by the builder's one call (the guide's Derived/Test/ToyasCard.lean, 'card_holds'). Laid BY PROGRAM, IN A SANDBOX (cutbox-door.mjs). By AI agents, Wed Nov 11 2026. No macro, syntax, notation, axiom, sorry.
-/
import Derived.Test.YtmhckcpcnkhbeaaDoorRows
import GoSem.ClaimSeven
namespace Go.Proofs.YtmhckcpcnkhbeaaDoor
namespace Rows

/-- THE TIED CARD OF 'bedsidelaw05.ContainTwo'. -/
def containTwoCard : Claim7 := { stood := { row := containTwoRow, standIns := [], harness := (true, "28223406cbbdfd97a65e573852c40cbcd5b9c49c06650e539c69ca9a89d5c0ef"), looks := false }, kinds := [], alts := [], laidByText := true, laidKinds := [.data, .data], laidTests := true, laidLooks := .later }
def ContainTwoCardSaid : Prop := Claim7.holds Tryd.pinned (.plain (OpenSpec.ofChange containTwoSpec)) containTwoCard

/-- THE TIED CARD OF 'bedsidelaw05.ContainCounts'. -/
def containCountsCard : Claim7 := { stood := { row := containCountsRow, standIns := [], harness := (true, "28223406cbbdfd97a65e573852c40cbcd5b9c49c06650e539c69ca9a89d5c0ef"), looks := false }, kinds := [], alts := [], laidByText := true, laidKinds := [.data, .data], laidTests := true, laidLooks := .later }
def ContainCountsCardSaid : Prop := Claim7.holds Tryd.pinned (.plain (OpenSpec.ofChange containCountsSpec)) containCountsCard

/-- THE TIED CARD OF 'bedsidelaw05.ContainStands'. -/
def containStandsCard : Claim7 := { stood := { row := containStandsRow, standIns := [], harness := (true, "28223406cbbdfd97a65e573852c40cbcd5b9c49c06650e539c69ca9a89d5c0ef"), looks := false }, kinds := [], alts := [], laidByText := true, laidKinds := [.data, .data], laidTests := true, laidLooks := .later }
def ContainStandsCardSaid : Prop := Claim7.holds Tryd.pinned (.plain (OpenSpec.ofChange containStandsSpec)) containStandsCard

/-- THE TIED CARD OF 'bedsidelaw05.ContainAbove'. -/
def containAboveCard : Claim7 := { stood := { row := containAboveRow, standIns := [], harness := (true, "28223406cbbdfd97a65e573852c40cbcd5b9c49c06650e539c69ca9a89d5c0ef"), looks := false }, kinds := [], alts := [], laidByText := true, laidKinds := [.data, .data], laidTests := true, laidLooks := .later }
def ContainAboveCardSaid : Prop := Claim7.holds Tryd.pinned (.plain (OpenSpec.ofChange containAboveSpec)) containAboveCard

/-- THE TIED CARD OF 'bedsidelaw05.ContainRoom'. -/
def containRoomCard : Claim7 := { stood := { row := containRoomRow, standIns := [], harness := (true, "28223406cbbdfd97a65e573852c40cbcd5b9c49c06650e539c69ca9a89d5c0ef"), looks := false }, kinds := [], alts := [], laidByText := true, laidKinds := [.data, .data], laidTests := true, laidLooks := .later }
def ContainRoomCardSaid : Prop := Claim7.holds Tryd.pinned (.plain (OpenSpec.ofChange containRoomSpec)) containRoomCard

/-- THE TIED CARD OF 'bedsidelaw05.ContainGroups'. -/
def containGroupsCard : Claim7 := { stood := { row := containGroupsRow, standIns := [], harness := (true, "28223406cbbdfd97a65e573852c40cbcd5b9c49c06650e539c69ca9a89d5c0ef"), looks := false }, kinds := [], alts := [], laidByText := true, laidKinds := [.data, .data], laidTests := true, laidLooks := .later }
def ContainGroupsCardSaid : Prop := Claim7.holds Tryd.pinned (.plain (OpenSpec.ofChange containGroupsSpec)) containGroupsCard

/-- THE TIED CARD OF 'bedsidelaw05.ContainRefers'. -/
def containRefersCard : Claim7 := { stood := { row := containRefersRow, standIns := [], harness := (true, "28223406cbbdfd97a65e573852c40cbcd5b9c49c06650e539c69ca9a89d5c0ef"), looks := false }, kinds := [], alts := [], laidByText := true, laidKinds := [.data, .data], laidTests := true, laidLooks := .later }
def ContainRefersCardSaid : Prop := Claim7.holds Tryd.pinned (.plain (OpenSpec.ofChange containRefersSpec)) containRefersCard

/-- THE SECOND FORM's CARD OF 'bedsidelaw05.ContainTwo'. -/
def containTwoUptoCard : Claim7 := { stood := { row := containTwoUptoRow, standIns := [], harness := (true, "28223406cbbdfd97a65e573852c40cbcd5b9c49c06650e539c69ca9a89d5c0ef"), looks := false }, kinds := [], alts := [], laidByText := true, laidKinds := [.data, .data], laidTests := true, laidLooks := .later }
def ContainTwoUptoCardSaid : Prop := Claim7.holds Tryd.pinned (.plain (OpenSpec.upto containTwoSpec)) containTwoUptoCard

/-- THE SECOND FORM's CARD OF 'bedsidelaw05.ContainCounts'. -/
def containCountsUptoCard : Claim7 := { stood := { row := containCountsUptoRow, standIns := [], harness := (true, "28223406cbbdfd97a65e573852c40cbcd5b9c49c06650e539c69ca9a89d5c0ef"), looks := false }, kinds := [], alts := [], laidByText := true, laidKinds := [.data, .data], laidTests := true, laidLooks := .later }
def ContainCountsUptoCardSaid : Prop := Claim7.holds Tryd.pinned (.plain (OpenSpec.upto containCountsSpec)) containCountsUptoCard

/-- THE SECOND FORM's CARD OF 'bedsidelaw05.ContainStands'. -/
def containStandsUptoCard : Claim7 := { stood := { row := containStandsUptoRow, standIns := [], harness := (true, "28223406cbbdfd97a65e573852c40cbcd5b9c49c06650e539c69ca9a89d5c0ef"), looks := false }, kinds := [], alts := [], laidByText := true, laidKinds := [.data, .data], laidTests := true, laidLooks := .later }
def ContainStandsUptoCardSaid : Prop := Claim7.holds Tryd.pinned (.plain (OpenSpec.upto containStandsSpec)) containStandsUptoCard

/-- THE SECOND FORM's CARD OF 'bedsidelaw05.ContainAbove'. -/
def containAboveUptoCard : Claim7 := { stood := { row := containAboveUptoRow, standIns := [], harness := (true, "28223406cbbdfd97a65e573852c40cbcd5b9c49c06650e539c69ca9a89d5c0ef"), looks := false }, kinds := [], alts := [], laidByText := true, laidKinds := [.data, .data], laidTests := true, laidLooks := .later }
def ContainAboveUptoCardSaid : Prop := Claim7.holds Tryd.pinned (.plain (OpenSpec.upto containAboveSpec)) containAboveUptoCard

/-- THE SECOND FORM's CARD OF 'bedsidelaw05.ContainRoom'. -/
def containRoomUptoCard : Claim7 := { stood := { row := containRoomUptoRow, standIns := [], harness := (true, "28223406cbbdfd97a65e573852c40cbcd5b9c49c06650e539c69ca9a89d5c0ef"), looks := false }, kinds := [], alts := [], laidByText := true, laidKinds := [.data, .data], laidTests := true, laidLooks := .later }
def ContainRoomUptoCardSaid : Prop := Claim7.holds Tryd.pinned (.plain (OpenSpec.upto containRoomSpec)) containRoomUptoCard

/-- THE SECOND FORM's CARD OF 'bedsidelaw05.ContainGroups'. -/
def containGroupsUptoCard : Claim7 := { stood := { row := containGroupsUptoRow, standIns := [], harness := (true, "28223406cbbdfd97a65e573852c40cbcd5b9c49c06650e539c69ca9a89d5c0ef"), looks := false }, kinds := [], alts := [], laidByText := true, laidKinds := [.data, .data], laidTests := true, laidLooks := .later }
def ContainGroupsUptoCardSaid : Prop := Claim7.holds Tryd.pinned (.plain (OpenSpec.upto containGroupsSpec)) containGroupsUptoCard

/-- THE SECOND FORM's CARD OF 'bedsidelaw05.ContainRefers'. -/
def containRefersUptoCard : Claim7 := { stood := { row := containRefersUptoRow, standIns := [], harness := (true, "28223406cbbdfd97a65e573852c40cbcd5b9c49c06650e539c69ca9a89d5c0ef"), looks := false }, kinds := [], alts := [], laidByText := true, laidKinds := [.data, .data], laidTests := true, laidLooks := .later }
def ContainRefersUptoCardSaid : Prop := Claim7.holds Tryd.pinned (.plain (OpenSpec.upto containRefersSpec)) containRefersUptoCard
end Rows
end Go.Proofs.YtmhckcpcnkhbeaaDoor
