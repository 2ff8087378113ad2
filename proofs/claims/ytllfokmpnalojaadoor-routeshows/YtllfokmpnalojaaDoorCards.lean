/-
  DERIVED. GIVEN WITH THE SEED: THE CARDS: each row of YtllfokmpnalojaaDoorRows.lean that lists a variable, with what it lists TIED to the program's text (the seventh form; the later family's looks); each row that meets fmt, with fmt's text TOLD by the authors' own Lean function (tested against real Go, not proved from fmt's source: count such statements apart). THE CARD IS WHAT COUNTS. Prove the row's statement (the work); the ties are given (YtllfokmpnalojaaDoorTie.lean); close each card by the builder's one call (the guide's Derived/Test/ToyasCard.lean, 'card_holds'). Laid BY PROGRAM, IN A SANDBOX (cutbox-door.mjs). By AI agents, Wed Nov 11 2026. No macro, syntax, notation, axiom, sorry.
-/
import Derived.Test.YtllfokmpnalojaaDoorRows
import GoSem.ClaimSeven
namespace Go.Proofs.YtllfokmpnalojaaDoor
namespace Rows

/-- THE TIED CARD OF 'pluglaw.RouteShows'. -/
def routeShowsCard : Claim7 := { stood := { row := routeShowsRow, standIns := [], harness := (true, "4831fae044d2371c5fb78afda5b80e006685bfe04c5a487af0bf9ab01aef4c85"), looks := true }, kinds := [], alts := [], laidByText := true, laidKinds := [.data, .data, .data, .data, .sentinel, .sentinel, .pinned], laidTests := true, laidLooks := .later }
def RouteShowsCardSaid : Prop := Claim7.holds Tryd.pinned (.plain (OpenSpec.ofChange routeShowsSpec)) routeShowsCard

/-- THE TIED CARD OF 'plugkeep.RouteBack'. -/
def routeBackCard : Claim7 := { stood := { row := routeBackRow, standIns := [], harness := (true, "4831fae044d2371c5fb78afda5b80e006685bfe04c5a487af0bf9ab01aef4c85"), looks := true }, kinds := [], alts := [], laidByText := true, laidKinds := [.data, .data, .data, .data, .sentinel, .sentinel, .pinned], laidTests := true, laidLooks := .later }
def RouteBackCardSaid : Prop := Claim7.holds Tryd.pinned (.plain (OpenSpec.ofChange routeBackSpec)) routeBackCard

/-- THE TIED CARD OF 'plugkeep.RouteUnder'. -/
def routeUnderCard : Claim7 := { stood := { row := routeUnderRow, standIns := [], harness := (true, "4831fae044d2371c5fb78afda5b80e006685bfe04c5a487af0bf9ab01aef4c85"), looks := true }, kinds := [], alts := [], laidByText := true, laidKinds := [.data, .data, .data], laidTests := true, laidLooks := .later }
def RouteUnderCardSaid : Prop := Claim7.holds Tryd.pinned (.plain (OpenSpec.ofChange routeUnderSpec)) routeUnderCard

/-- THE TIED CARD OF 'plugkeep.RouteMetric'. -/
def routeMetricCard : Claim7 := { stood := { row := routeMetricRow, standIns := [], harness := (true, "4831fae044d2371c5fb78afda5b80e006685bfe04c5a487af0bf9ab01aef4c85"), looks := true }, kinds := [], alts := [], laidByText := true, laidKinds := [.data, .data, .data], laidTests := true, laidLooks := .later }
def RouteMetricCardSaid : Prop := Claim7.holds Tryd.pinned (.plain (OpenSpec.ofChange routeMetricSpec)) routeMetricCard

/-- THE SECOND FORM's CARD OF 'pluglaw.RouteShows'. -/
def routeShowsUptoCard : Claim7 := { stood := { row := routeShowsUptoRow, standIns := [], harness := (true, "4831fae044d2371c5fb78afda5b80e006685bfe04c5a487af0bf9ab01aef4c85"), looks := true }, kinds := [], alts := [], laidByText := true, laidKinds := [.data, .data, .data, .data, .sentinel, .sentinel, .pinned], laidTests := true, laidLooks := .later }
def RouteShowsUptoCardSaid : Prop := Claim7.holds Tryd.pinned (.plain (OpenSpec.upto routeShowsSpec)) routeShowsUptoCard

/-- THE SECOND FORM's CARD OF 'plugkeep.RouteBack'. -/
def routeBackUptoCard : Claim7 := { stood := { row := routeBackUptoRow, standIns := [], harness := (true, "4831fae044d2371c5fb78afda5b80e006685bfe04c5a487af0bf9ab01aef4c85"), looks := true }, kinds := [], alts := [], laidByText := true, laidKinds := [.data, .data, .data, .data, .sentinel, .sentinel, .pinned], laidTests := true, laidLooks := .later }
def RouteBackUptoCardSaid : Prop := Claim7.holds Tryd.pinned (.plain (OpenSpec.upto routeBackSpec)) routeBackUptoCard

/-- THE SECOND FORM's CARD OF 'plugkeep.RouteUnder'. -/
def routeUnderUptoCard : Claim7 := { stood := { row := routeUnderUptoRow, standIns := [], harness := (true, "4831fae044d2371c5fb78afda5b80e006685bfe04c5a487af0bf9ab01aef4c85"), looks := true }, kinds := [], alts := [], laidByText := true, laidKinds := [.data, .data, .data], laidTests := true, laidLooks := .later }
def RouteUnderUptoCardSaid : Prop := Claim7.holds Tryd.pinned (.plain (OpenSpec.upto routeUnderSpec)) routeUnderUptoCard

/-- THE SECOND FORM's CARD OF 'plugkeep.RouteMetric'. -/
def routeMetricUptoCard : Claim7 := { stood := { row := routeMetricUptoRow, standIns := [], harness := (true, "4831fae044d2371c5fb78afda5b80e006685bfe04c5a487af0bf9ab01aef4c85"), looks := true }, kinds := [], alts := [], laidByText := true, laidKinds := [.data, .data, .data], laidTests := true, laidLooks := .later }
def RouteMetricUptoCardSaid : Prop := Claim7.holds Tryd.pinned (.plain (OpenSpec.upto routeMetricSpec)) routeMetricUptoCard
end Rows
end Go.Proofs.YtllfokmpnalojaaDoor
