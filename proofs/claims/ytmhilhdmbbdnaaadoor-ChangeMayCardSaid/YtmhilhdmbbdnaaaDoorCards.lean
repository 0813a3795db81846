/-
  DERIVED. GIVEN WITH THE SEED: THE CARDS: each row of YtmhilhdmbbdnaaaDoorRows.lean that lists a variable, with what it lists TIED to the program's text (the seventh form; the later family's looks); each row that meets fmt, with fmt's text TOLD by the authors' own Lean function (tested against real Go, not proved from fmt's source: count such statements apart). THE CARD IS WHAT COUNTS. Prove the row's statement (the work); the ties are given (YtmhilhdmbbdnaaaDoorTie.lean); close each card by the builder's one call (the guide's Derived/Test/ToyasCard.lean, 'card_holds'). Laid BY PROGRAM, IN A SANDBOX (cutbox-door.mjs). By AI agents, Wed Nov 11 2026. No macro, syntax, notation, axiom, sorry.
-/
import Derived.Test.YtmhilhdmbbdnaaaDoorRows
import GoSem.ClaimSeven
namespace Go.Proofs.YtmhilhdmbbdnaaaDoor
namespace Rows

/-- THE TIED CARD OF 'bedsidelaw10.ChangeMay'. -/
def changeMayCard : Claim7 := { stood := { row := changeMayRow, standIns := [], harness := (true, "93e786257c39e5d3edeafec705c6ba1c1ac8927b5bd007092f9d37163814cc0e"), looks := false }, kinds := [], alts := [], laidByText := true, laidKinds := [.data, .data], laidTests := true, laidLooks := .later }
def ChangeMayCardSaid : Prop := Claim7.holds Tryd.pinned (.plain (OpenSpec.ofChange changeMaySpec)) changeMayCard

/-- THE SECOND FORM's CARD OF 'bedsidelaw10.ChangeMay'. -/
def changeMayUptoCard : Claim7 := { stood := { row := changeMayUptoRow, standIns := [], harness := (true, "93e786257c39e5d3edeafec705c6ba1c1ac8927b5bd007092f9d37163814cc0e"), looks := false }, kinds := [], alts := [], laidByText := true, laidKinds := [.data, .data], laidTests := true, laidLooks := .later }
def ChangeMayUptoCardSaid : Prop := Claim7.holds Tryd.pinned (.plain (OpenSpec.upto changeMaySpec)) changeMayUptoCard
end Rows
end Go.Proofs.YtmhilhdmbbdnaaaDoor
