/-
  DERIVED. GIVEN WITH THE SEED: THE CARDS: each row of YtllfokmpnalojabDoorRows.lean that lists a variable, with what it lists TIED to the program's text (the seventh form; the later family's looks); each row that meets fmt, with fmt's text TOLD by the authors' own Lean function (tested against real Go, not proved from fmt's source: count such statements apart). THE CARD IS WHAT COUNTS. Prove the row's statement (the work); the ties are given (YtllfokmpnalojabDoorTie.lean); close each card by the builder's one call (the guide's Derived/Test/ToyasCard.lean, 'card_holds'). Laid BY PROGRAM, IN A SANDBOX (cutbox-door.mjs). By AI agents, Wed Nov 11 2026. No macro, syntax, notation, axiom, sorry.
-/
import Derived.Test.YtllfokmpnalojabDoorRows
import GoSem.ClaimSeven
namespace Go.Proofs.YtllfokmpnalojabDoor
namespace Rows

/-- THE TIED CARD OF 'plugkeep.RouteFour'. -/
def routeFourCard : Claim7 := { stood := { row := routeFourRow, standIns := [], harness := (true, "d5228ce47c760f16ba163ce1db982940b2184140dedd1302e29168bdb19b17bf"), looks := false }, kinds := [], alts := [], laidByText := true, laidKinds := [.data, .data, .data], laidTests := true, laidLooks := .later }
def RouteFourCardSaid : Prop := Claim7.holds Tryd.pinned (.plain (OpenSpec.ofChange routeFourSpec)) routeFourCard

/-- THE TIED CARD OF 'plugkeep.RouteOrder'. -/
def routeOrderCard : Claim7 := { stood := { row := routeOrderRow, standIns := [], harness := (true, "d5228ce47c760f16ba163ce1db982940b2184140dedd1302e29168bdb19b17bf"), looks := false }, kinds := [], alts := [], laidByText := true, laidKinds := [.data, .data, .data], laidTests := true, laidLooks := .later }
def RouteOrderCardSaid : Prop := Claim7.holds Tryd.pinned (.plain (OpenSpec.ofChange routeOrderSpec)) routeOrderCard

/-- THE TIED CARD OF 'plugkeep.RouteMeet'. -/
def routeMeetCard : Claim7 := { stood := { row := routeMeetRow, standIns := [], harness := (true, "d5228ce47c760f16ba163ce1db982940b2184140dedd1302e29168bdb19b17bf"), looks := false }, kinds := [], alts := [], laidByText := true, laidKinds := [.data, .data, .data], laidTests := true, laidLooks := .later }
def RouteMeetCardSaid : Prop := Claim7.holds Tryd.pinned (.plain (OpenSpec.ofChange routeMeetSpec)) routeMeetCard

/-- THE SECOND FORM's CARD OF 'plugkeep.RouteFour'. -/
def routeFourUptoCard : Claim7 := { stood := { row := routeFourUptoRow, standIns := [], harness := (true, "d5228ce47c760f16ba163ce1db982940b2184140dedd1302e29168bdb19b17bf"), looks := false }, kinds := [], alts := [], laidByText := true, laidKinds := [.data, .data, .data], laidTests := true, laidLooks := .later }
def RouteFourUptoCardSaid : Prop := Claim7.holds Tryd.pinned (.plain (OpenSpec.upto routeFourSpec)) routeFourUptoCard

/-- THE SECOND FORM's CARD OF 'plugkeep.RouteOrder'. -/
def routeOrderUptoCard : Claim7 := { stood := { row := routeOrderUptoRow, standIns := [], harness := (true, "d5228ce47c760f16ba163ce1db982940b2184140dedd1302e29168bdb19b17bf"), looks := false }, kinds := [], alts := [], laidByText := true, laidKinds := [.data, .data, .data], laidTests := true, laidLooks := .later }
def RouteOrderUptoCardSaid : Prop := Claim7.holds Tryd.pinned (.plain (OpenSpec.upto routeOrderSpec)) routeOrderUptoCard

/-- THE SECOND FORM's CARD OF 'plugkeep.RouteMeet'. -/
def routeMeetUptoCard : Claim7 := { stood := { row := routeMeetUptoRow, standIns := [], harness := (true, "d5228ce47c760f16ba163ce1db982940b2184140dedd1302e29168bdb19b17bf"), looks := false }, kinds := [], alts := [], laidByText := true, laidKinds := [.data, .data, .data], laidTests := true, laidLooks := .later }
def RouteMeetUptoCardSaid : Prop := Claim7.holds Tryd.pinned (.plain (OpenSpec.upto routeMeetSpec)) routeMeetUptoCard
end Rows
end Go.Proofs.YtllfokmpnalojabDoor
