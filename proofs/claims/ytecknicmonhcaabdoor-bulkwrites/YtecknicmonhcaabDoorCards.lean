/-
  DERIVED. GIVEN WITH THE SEED: THE CARDS: each row of YtecknicmonhcaabDoorRows.lean that lists a variable, with what it lists TIED to the program's text (the seventh form; the later family's looks); each row that meets fmt, with fmt's text TOLD by the authors' own Lean function (tested against real Go, not proved from fmt's source: count such statements apart). THE CARD IS WHAT COUNTS. Prove the row's statement (the work); the ties are given (YtecknicmonhcaabDoorTie.lean); close each card by the builder's one call (the guide's Derived/Test/ToyasCard.lean, 'card_holds'). Laid BY PROGRAM, IN A SANDBOX (cutbox-door.mjs). By AI agents, Wed Nov 11 2026. No macro, syntax, notation, axiom, sorry.
-/
import Derived.Test.YtecknicmonhcaabDoorRows
import GoSem.ClaimSeven
namespace Go.Proofs.YtecknicmonhcaabDoor
namespace Rows

/-- THE TIED CARD OF 'plugkeep.BulkWrites'. -/
def bulkWritesCard : Claim7 := { stood := { row := bulkWritesRow, standIns := [], harness := (true, "254c12961daa2c05168145458f8e06bfa9fd2c103f231bf396f235db62c14be1"), looks := true }, kinds := [], alts := [], laidByText := true, laidKinds := [.data, .pinned], laidTests := true, laidLooks := .later }
def BulkWritesCardSaid : Prop := Claim7.holds Tryd.pinned (.plain (OpenSpec.ofChange bulkWritesSpec)) bulkWritesCard

/-- THE SECOND FORM's CARD OF 'plugkeep.BulkWrites'. -/
def bulkWritesUptoCard : Claim7 := { stood := { row := bulkWritesUptoRow, standIns := [], harness := (true, "254c12961daa2c05168145458f8e06bfa9fd2c103f231bf396f235db62c14be1"), looks := true }, kinds := [], alts := [], laidByText := true, laidKinds := [.data, .pinned], laidTests := true, laidLooks := .later }
def BulkWritesUptoCardSaid : Prop := Claim7.holds Tryd.pinned (.plain (OpenSpec.upto bulkWritesSpec)) bulkWritesUptoCard
end Rows
end Go.Proofs.YtecknicmonhcaabDoor
