/-
  DERIVED. GIVEN WITH THE SEED: THE CARDS: each row of YtbpkmlgamlgicaaDoorRows.lean that lists a variable, with what it lists TIED to the program's text (the seventh form; the later family's looks); each row that meets fmt, with fmt's text TOLD by the authors' own Lean function (tested against real Go, not proved from fmt's source: count such statements apart). THE CARD IS WHAT COUNTS. Prove the row's statement (the work); the ties are given (YtbpkmlgamlgicaaDoorTie.lean); close each card by the builder's one call (the guide's Derived/Test/ToyasCard.lean, 'card_holds'). Laid BY PROGRAM, IN A SANDBOX (cutbox-door.mjs). By AI agents, Wed Nov 11 2026. No macro, syntax, notation, axiom, sorry.
-/
import Derived.Test.YtbpkmlgamlgicaaDoorRows
import GoSem.ClaimSeven
namespace Go.Proofs.YtbpkmlgamlgicaaDoor
namespace Rows

/-- THE TIED CARD OF 'pluglaw.LaneStuffs'. -/
def laneStuffsCard : Claim7 := { stood := { row := laneStuffsRow, standIns := [], harness := (true, "52fa04de157fbb149ff4b9dfb77ef79adde6ec342d9dcf8181e3a0f9f5efc38c"), looks := false }, kinds := [], alts := [], laidByText := true, laidKinds := [.data, .pinned], laidTests := true, laidLooks := .later }
def LaneStuffsCardSaid : Prop := Claim7.holds Tryd.pinned (.plain (OpenSpec.ofChange laneStuffsSpec)) laneStuffsCard

/-- THE SECOND FORM's CARD OF 'pluglaw.LaneStuffs'. -/
def laneStuffsUptoCard : Claim7 := { stood := { row := laneStuffsUptoRow, standIns := [], harness := (true, "52fa04de157fbb149ff4b9dfb77ef79adde6ec342d9dcf8181e3a0f9f5efc38c"), looks := false }, kinds := [], alts := [], laidByText := true, laidKinds := [.data, .pinned], laidTests := true, laidLooks := .later }
def LaneStuffsUptoCardSaid : Prop := Claim7.holds Tryd.pinned (.plain (OpenSpec.upto laneStuffsSpec)) laneStuffsUptoCard
end Rows
end Go.Proofs.YtbpkmlgamlgicaaDoor
