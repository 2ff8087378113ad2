/-
  DERIVED. GIVEN WITH THE SEED: THE CARDS: each row of YtbkdalgmhmaofaaDoorRows.lean that lists a variable, with what it lists TIED to the program's text (the seventh form; the later family's looks); each row that meets fmt, with fmt's text TOLD by the authors' own Lean function (tested against real Go, not proved from fmt's source: count such statements apart). THE CARD IS WHAT COUNTS. Prove the row's statement (the work); the ties are given (YtbkdalgmhmaofaaDoorTie.lean); close each card by the builder's one call (the guide's Derived/Test/ToyasCard.lean, 'card_holds'). Laid BY PROGRAM, IN A SANDBOX (cutbox-door.mjs). By AI agents, Wed Nov 11 2026. No macro, syntax, notation, axiom, sorry.
-/
import Derived.Test.YtbkdalgmhmaofaaDoorRows
import GoSem.ClaimSeven
namespace Go.Proofs.YtbkdalgmhmaofaaDoor
namespace Rows

/-- THE TIED CARD OF 'pluglaw.PhySends'. -/
def phySendsCard : Claim7 := { stood := { row := phySendsRow, standIns := [], harness := (true, "f2c342b813633799ca85e1c40e0c4276bd0759e0114ff8fa4fbbe658cf9823b1"), looks := false }, kinds := [], alts := [], laidByText := true, laidKinds := [.data, .pinned], laidTests := true, laidLooks := .later }
def PhySendsCardSaid : Prop := Claim7.holds Tryd.pinned (.plain (OpenSpec.ofChange phySendsSpec)) phySendsCard

/-- THE TIED CARD OF 'pluglaw.PhyHears'. -/
def phyHearsCard : Claim7 := { stood := { row := phyHearsRow, standIns := [], harness := (true, "f2c342b813633799ca85e1c40e0c4276bd0759e0114ff8fa4fbbe658cf9823b1"), looks := false }, kinds := [], alts := [], laidByText := true, laidKinds := [.data, .pinned], laidTests := true, laidLooks := .later }
def PhyHearsCardSaid : Prop := Claim7.holds Tryd.pinned (.plain (OpenSpec.ofChange phyHearsSpec)) phyHearsCard

/-- THE SECOND FORM's CARD OF 'pluglaw.PhySends'. -/
def phySendsUptoCard : Claim7 := { stood := { row := phySendsUptoRow, standIns := [], harness := (true, "f2c342b813633799ca85e1c40e0c4276bd0759e0114ff8fa4fbbe658cf9823b1"), looks := false }, kinds := [], alts := [], laidByText := true, laidKinds := [.data, .pinned], laidTests := true, laidLooks := .later }
def PhySendsUptoCardSaid : Prop := Claim7.holds Tryd.pinned (.plain (OpenSpec.upto phySendsSpec)) phySendsUptoCard

/-- THE SECOND FORM's CARD OF 'pluglaw.PhyHears'. -/
def phyHearsUptoCard : Claim7 := { stood := { row := phyHearsUptoRow, standIns := [], harness := (true, "f2c342b813633799ca85e1c40e0c4276bd0759e0114ff8fa4fbbe658cf9823b1"), looks := false }, kinds := [], alts := [], laidByText := true, laidKinds := [.data, .pinned], laidTests := true, laidLooks := .later }
def PhyHearsUptoCardSaid : Prop := Claim7.holds Tryd.pinned (.plain (OpenSpec.upto phyHearsSpec)) phyHearsUptoCard
end Rows
end Go.Proofs.YtbkdalgmhmaofaaDoor
