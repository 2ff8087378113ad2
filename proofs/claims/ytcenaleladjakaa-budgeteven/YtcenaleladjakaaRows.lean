/-
  No cell of these rows narrows 'for every input' (looked for: loops, veiled, ifaces, maps, wideKeys, modest, calm, conditions, laid).
  DERIVED. THE GIVEN ROWS OF THIS SEAT. 6 by the template 'for every input the law returns true; each argument reads behind the call as it read before'; 0 by the template 'total and deterministic' (their statements: YtcenaleladjakaaTotals.lean).
  GIVEN WITH THE SEED: the statements are not yours to turn. If you find one false, say at which input.
  Laid BY PROGRAM, IN A SANDBOX (cutbox-rows.mjs): the forced cells as the released guide's own fill.sh prints them over the translation 8ac22cf20cb62c0b… (all of the seat's roots in one cut). By AI agents, Wed Nov 11 2026. No macro, syntax, notation, axiom, sorry.
-/
import Derived.Test.YtcenaleladjakaaChecked
import GoSem.Claim
import GoSem.ClaimJoined
import GoSem.ClaimMapViews
import Derived.JoinedTies
import Derived.KernelRfl
namespace Go.Proofs.Ytcenaleladjakaa
/- THE CELL 'sum', in the pinned program and in every row, IS THE sha256 OF THE DUMP (.gsa) THAT YtcenaleladjakaaProg.lean LOADS. Nothing in Lean hashes anything: it is a label: what it is worth is what the hold of that sum in a sandbox is worth. -/
noncomputable def Try.pinned : Pinned := { name := "ytcenaleladjakaa", sum := "8ac22cf20cb62c0b6def0db18e25eeac3d43a4c8a7c5be480b3f22bd11586a38", checked := Try.checked }
namespace Rows
def none {H : Type} : Left H := { results := [], args := [] }

/-- 'pluglaw.BudgetPlans': WHATEVER THE INPUT: true; the input reads as it did. -/
def budgetPlansSpec : ChangeSpec := { name := "budgetPlans", fn := fun _ => fun
  | [d1, d2] => { results := [.lit (.bool true)], args := [d1, d2] }
  | _ => none }
def budgetPlansRow : OpenClaim := { program := "ytcenaleladjakaa", sum := "8ac22cf20cb62c0b6def0db18e25eeac3d43a4c8a7c5be480b3f22bd11586a38", func := "plugtree/pluglaw.BudgetPlans", spec := "budgetPlans", unfollowed := true, recurses := true, apart := false }
def BudgetPlansSaid : Prop := budgetPlansRow.holds Try.pinned (OpenSpec.ofChange budgetPlansSpec)

/-- ITS FALSE NEIGHBOUR: 'it returns false'. Refute it at one input. -/
def budgetPlansWrong : ChangeSpec := { name := "budgetPlans", fn := fun _ => fun
  | [d1, d2] => { results := [.lit (.bool false)], args := [d1, d2] }
  | _ => none }
def BudgetPlansWrongFalsely : Prop := budgetPlansRow.holds Try.pinned (OpenSpec.ofChange budgetPlansWrong)

/-- 'pluglaw.BudgetLoads': WHATEVER THE INPUT: true; the input reads as it did. -/
def budgetLoadsSpec : ChangeSpec := { name := "budgetLoads", fn := fun _ => fun
  | [d1, d2, d3, d4] => { results := [.lit (.bool true)], args := [d1, d2, d3, d4] }
  | _ => none }
def budgetLoadsRow : OpenClaim := { program := "ytcenaleladjakaa", sum := "8ac22cf20cb62c0b6def0db18e25eeac3d43a4c8a7c5be480b3f22bd11586a38", func := "plugtree/pluglaw.BudgetLoads", spec := "budgetLoads", unfollowed := true, recurses := true, apart := false }
def BudgetLoadsSaid : Prop := budgetLoadsRow.holds Try.pinned (OpenSpec.ofChange budgetLoadsSpec)

/-- ITS FALSE NEIGHBOUR: 'it returns false'. Refute it at one input. -/
def budgetLoadsWrong : ChangeSpec := { name := "budgetLoads", fn := fun _ => fun
  | [d1, d2, d3, d4] => { results := [.lit (.bool false)], args := [d1, d2, d3, d4] }
  | _ => none }
def BudgetLoadsWrongFalsely : Prop := budgetLoadsRow.holds Try.pinned (OpenSpec.ofChange budgetLoadsWrong)

/-- 'plugkeep.BudgetKraft': WHATEVER THE INPUT: true; the input reads as it did. -/
def budgetKraftSpec : ChangeSpec := { name := "budgetKraft", fn := fun _ => fun
  | [d1, d2] => { results := [.lit (.bool true)], args := [d1, d2] }
  | _ => none }
def budgetKraftRow : OpenClaim := { program := "ytcenaleladjakaa", sum := "8ac22cf20cb62c0b6def0db18e25eeac3d43a4c8a7c5be480b3f22bd11586a38", func := "plugtree/plugkeep.BudgetKraft", spec := "budgetKraft", unfollowed := true, recurses := true, apart := false }
def BudgetKraftSaid : Prop := budgetKraftRow.holds Try.pinned (OpenSpec.ofChange budgetKraftSpec)

/-- ITS FALSE NEIGHBOUR: 'it returns false'. Refute it at one input. -/
def budgetKraftWrong : ChangeSpec := { name := "budgetKraft", fn := fun _ => fun
  | [d1, d2] => { results := [.lit (.bool false)], args := [d1, d2] }
  | _ => none }
def BudgetKraftWrongFalsely : Prop := budgetKraftRow.holds Try.pinned (OpenSpec.ofChange budgetKraftWrong)

/-- 'plugkeep.BudgetApart': WHATEVER THE INPUT: true; the input reads as it did. -/
def budgetApartSpec : ChangeSpec := { name := "budgetApart", fn := fun _ => fun
  | [d1, d2] => { results := [.lit (.bool true)], args := [d1, d2] }
  | _ => none }
def budgetApartRow : OpenClaim := { program := "ytcenaleladjakaa", sum := "8ac22cf20cb62c0b6def0db18e25eeac3d43a4c8a7c5be480b3f22bd11586a38", func := "plugtree/plugkeep.BudgetApart", spec := "budgetApart", unfollowed := true, recurses := true, apart := false }
def BudgetApartSaid : Prop := budgetApartRow.holds Try.pinned (OpenSpec.ofChange budgetApartSpec)

/-- ITS FALSE NEIGHBOUR: 'it returns false'. Refute it at one input. -/
def budgetApartWrong : ChangeSpec := { name := "budgetApart", fn := fun _ => fun
  | [d1, d2] => { results := [.lit (.bool false)], args := [d1, d2] }
  | _ => none }
def BudgetApartWrongFalsely : Prop := budgetApartRow.holds Try.pinned (OpenSpec.ofChange budgetApartWrong)

/-- 'plugkeep.BudgetOther': WHATEVER THE INPUT: true; the input reads as it did. -/
def budgetOtherSpec : ChangeSpec := { name := "budgetOther", fn := fun _ => fun
  | [d1, d2, d3] => { results := [.lit (.bool true)], args := [d1, d2, d3] }
  | _ => none }
def budgetOtherRow : OpenClaim := { program := "ytcenaleladjakaa", sum := "8ac22cf20cb62c0b6def0db18e25eeac3d43a4c8a7c5be480b3f22bd11586a38", func := "plugtree/plugkeep.BudgetOther", spec := "budgetOther", unfollowed := true, recurses := true, apart := false }
def BudgetOtherSaid : Prop := budgetOtherRow.holds Try.pinned (OpenSpec.ofChange budgetOtherSpec)

/-- ITS FALSE NEIGHBOUR: 'it returns false'. Refute it at one input. -/
def budgetOtherWrong : ChangeSpec := { name := "budgetOther", fn := fun _ => fun
  | [d1, d2, d3] => { results := [.lit (.bool false)], args := [d1, d2, d3] }
  | _ => none }
def BudgetOtherWrongFalsely : Prop := budgetOtherRow.holds Try.pinned (OpenSpec.ofChange budgetOtherWrong)

/-- 'plugkeep.BudgetEven': WHATEVER THE INPUT: true; the input reads as it did. -/
def budgetEvenSpec : ChangeSpec := { name := "budgetEven", fn := fun _ => fun
  | [d1, d2, d3, d4] => { results := [.lit (.bool true)], args := [d1, d2, d3, d4] }
  | _ => none }
def budgetEvenRow : OpenClaim := { program := "ytcenaleladjakaa", sum := "8ac22cf20cb62c0b6def0db18e25eeac3d43a4c8a7c5be480b3f22bd11586a38", func := "plugtree/plugkeep.BudgetEven", spec := "budgetEven", unfollowed := true, recurses := true, apart := false }
def BudgetEvenSaid : Prop := budgetEvenRow.holds Try.pinned (OpenSpec.ofChange budgetEvenSpec)

/-- ITS FALSE NEIGHBOUR: 'it returns false'. Refute it at one input. -/
def budgetEvenWrong : ChangeSpec := { name := "budgetEven", fn := fun _ => fun
  | [d1, d2, d3, d4] => { results := [.lit (.bool false)], args := [d1, d2, d3, d4] }
  | _ => none }
def BudgetEvenWrongFalsely : Prop := budgetEvenRow.holds Try.pinned (OpenSpec.ofChange budgetEvenWrong)

/- THE SECOND FORM. 'bulk': how many values and letters a reading holds, each counted each time it is reached (what is shared counts as often as it is met; a slice's spare places count too). A statement '..UptoSaid' is the law's where the arguments, and the package variables that the reading takes, are together of bulk at most 1048576: NARROWER than '..Said'. Prove '..Said' where nothing that the law and all that it calls make is longer than what came in: it says more and counts as full. Else prove '..UptoSaid'. A law counts once. -/
mutual
def uptoBulk {H : Type} : DataW H → Nat
  | .lit (.string bytes) => bytes.length + 1
  | .lit _ => 1
  | .nil => 1
  | .ptr d => uptoBulk d + 1
  | .slice elems spare => uptoBulkAll elems + uptoBulkAll spare + 1
  | .agg parts => uptoBulkAll parts + 1
  | .iface _ d => uptoBulk d + 1
  | .map entries => uptoBulkEntries entries + 1
  | .held _ => 1
def uptoBulkAll {H : Type} : List (DataW H) → Nat
  | [] => 0
  | d :: r => uptoBulk d + uptoBulkAll r
def uptoBulkEntries {H : Type} : List (Lit × DataW H) → Nat
  | [] => 0
  | x :: r => uptoBulkEntry x + uptoBulkEntries r
def uptoBulkEntry {H : Type} : Lit × DataW H → Nat
  | (.string bytes, d) => bytes.length + uptoBulk d + 1
  | (_, d) => uptoBulk d + 1
 end
def uptoSmall : (H : Type) → List (DataW H) → Bool := fun _ ds => decide (uptoBulkAll ds ≤ 1048576)
def OpenSpec.upto (s : _root_.Go.ChangeSpec) : _root_.Go.OpenSpec := { _root_.Go.OpenSpec.ofChange s with cond := some uptoSmall }

/-- 'pluglaw.BudgetPlans', WHERE WHAT IT READS IS OF BULK AT MOST 1048576: true; the input reads as it did. -/
def budgetPlansUptoRow : OpenClaim := { program := "ytcenaleladjakaa", sum := "8ac22cf20cb62c0b6def0db18e25eeac3d43a4c8a7c5be480b3f22bd11586a38", func := "plugtree/pluglaw.BudgetPlans", spec := "budgetPlans", unfollowed := true, recurses := true, apart := false, narrowed := true }
def BudgetPlansUptoSaid : Prop := budgetPlansUptoRow.holds Try.pinned (OpenSpec.upto budgetPlansSpec)

/-- 'pluglaw.BudgetLoads', WHERE WHAT IT READS IS OF BULK AT MOST 1048576: true; the input reads as it did. -/
def budgetLoadsUptoRow : OpenClaim := { program := "ytcenaleladjakaa", sum := "8ac22cf20cb62c0b6def0db18e25eeac3d43a4c8a7c5be480b3f22bd11586a38", func := "plugtree/pluglaw.BudgetLoads", spec := "budgetLoads", unfollowed := true, recurses := true, apart := false, narrowed := true }
def BudgetLoadsUptoSaid : Prop := budgetLoadsUptoRow.holds Try.pinned (OpenSpec.upto budgetLoadsSpec)

/-- 'plugkeep.BudgetKraft', WHERE WHAT IT READS IS OF BULK AT MOST 1048576: true; the input reads as it did. -/
def budgetKraftUptoRow : OpenClaim := { program := "ytcenaleladjakaa", sum := "8ac22cf20cb62c0b6def0db18e25eeac3d43a4c8a7c5be480b3f22bd11586a38", func := "plugtree/plugkeep.BudgetKraft", spec := "budgetKraft", unfollowed := true, recurses := true, apart := false, narrowed := true }
def BudgetKraftUptoSaid : Prop := budgetKraftUptoRow.holds Try.pinned (OpenSpec.upto budgetKraftSpec)

/-- 'plugkeep.BudgetApart', WHERE WHAT IT READS IS OF BULK AT MOST 1048576: true; the input reads as it did. -/
def budgetApartUptoRow : OpenClaim := { program := "ytcenaleladjakaa", sum := "8ac22cf20cb62c0b6def0db18e25eeac3d43a4c8a7c5be480b3f22bd11586a38", func := "plugtree/plugkeep.BudgetApart", spec := "budgetApart", unfollowed := true, recurses := true, apart := false, narrowed := true }
def BudgetApartUptoSaid : Prop := budgetApartUptoRow.holds Try.pinned (OpenSpec.upto budgetApartSpec)

/-- 'plugkeep.BudgetOther', WHERE WHAT IT READS IS OF BULK AT MOST 1048576: true; the input reads as it did. -/
def budgetOtherUptoRow : OpenClaim := { program := "ytcenaleladjakaa", sum := "8ac22cf20cb62c0b6def0db18e25eeac3d43a4c8a7c5be480b3f22bd11586a38", func := "plugtree/plugkeep.BudgetOther", spec := "budgetOther", unfollowed := true, recurses := true, apart := false, narrowed := true }
def BudgetOtherUptoSaid : Prop := budgetOtherUptoRow.holds Try.pinned (OpenSpec.upto budgetOtherSpec)

/-- 'plugkeep.BudgetEven', WHERE WHAT IT READS IS OF BULK AT MOST 1048576: true; the input reads as it did. -/
def budgetEvenUptoRow : OpenClaim := { program := "ytcenaleladjakaa", sum := "8ac22cf20cb62c0b6def0db18e25eeac3d43a4c8a7c5be480b3f22bd11586a38", func := "plugtree/plugkeep.BudgetEven", spec := "budgetEven", unfollowed := true, recurses := true, apart := false, narrowed := true }
def BudgetEvenUptoSaid : Prop := budgetEvenUptoRow.holds Try.pinned (OpenSpec.upto budgetEvenSpec)

end Rows
end Go.Proofs.Ytcenaleladjakaa
