/-
  DERIVED. GIVEN WITH THE SEED: THE CARDS: each row of YtjmbklbobofciabDoorRows.lean that lists a variable, with what it lists TIED to the program's text (the seventh form; the later family's looks); each row that meets fmt, with fmt's text TOLD by the authors' own Lean function (tested against real Go, not proved from fmt's source: count such statements apart). THE CARD IS WHAT COUNTS. Prove the row's statement (the work); the ties are given (YtjmbklbobofciabDoorTie.lean); close each card by the builder's one call (the guide's Derived/Test/ToyasCard.lean, 'card_holds'). Laid BY PROGRAM, IN A SANDBOX (cutbox-door.mjs). By AI agents, Wed Nov 11 2026. No macro, syntax, notation, axiom, sorry.
-/
import Derived.Test.YtjmbklbobofciabDoorRows
import GoSem.ClaimSeven
namespace Go.Proofs.YtjmbklbobofciabDoor
namespace Rows

/-- THE TIED CARD OF 'plugkeep.ScsiParts'. -/
def scsiPartsCard : Claim7 := { stood := { row := scsiPartsRow, standIns := [], harness := (true, "c726e6aa062ce25b91e892e5a6c19f4b4e087b439083b4a26b57f0db8f91d8d0"), looks := true }, kinds := [], alts := [], laidByText := true, laidKinds := [.data, .pinned], laidTests := true, laidLooks := .later }
def ScsiPartsCardSaid : Prop := Claim7.holds Tryd.pinned (.plain (OpenSpec.ofChange scsiPartsSpec)) scsiPartsCard

/-- THE SECOND FORM's CARD OF 'plugkeep.ScsiParts'. -/
def scsiPartsUptoCard : Claim7 := { stood := { row := scsiPartsUptoRow, standIns := [], harness := (true, "c726e6aa062ce25b91e892e5a6c19f4b4e087b439083b4a26b57f0db8f91d8d0"), looks := true }, kinds := [], alts := [], laidByText := true, laidKinds := [.data, .pinned], laidTests := true, laidLooks := .later }
def ScsiPartsUptoCardSaid : Prop := Claim7.holds Tryd.pinned (.plain (OpenSpec.upto scsiPartsSpec)) scsiPartsUptoCard
end Rows
end Go.Proofs.YtjmbklbobofciabDoor
