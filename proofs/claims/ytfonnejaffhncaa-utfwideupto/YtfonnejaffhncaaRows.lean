/-
  No cell of these rows narrows 'for every input' (looked for: loops, veiled, ifaces, maps, wideKeys, modest, calm, conditions, laid).
  DERIVED. THE GIVEN ROWS OF THIS SEAT. 4 by the template 'for every input the law returns true; each argument reads behind the call as it read before'; 0 by the template 'total and deterministic' (their statements: YtfonnejaffhncaaTotals.lean).
  GIVEN WITH THE SEED: the statements are not yours to turn. If you find one false, say at which input.
  Laid BY PROGRAM, IN A SANDBOX (cutbox-rows.mjs): the forced cells as the released guide's own fill.sh prints them over the translation c54f5309632a1fce… (all of the seat's roots in one cut). By AI agents, Wed Nov 11 2026. No macro, syntax, notation, axiom, sorry.
-/
import Derived.Test.YtfonnejaffhncaaChecked
import GoSem.Claim
import GoSem.ClaimJoined
import GoSem.ClaimMapViews
import Derived.JoinedTies
import Derived.KernelRfl
namespace Go.Proofs.Ytfonnejaffhncaa
/- THE CELL 'sum', in the pinned program and in every row, IS THE sha256 OF THE DUMP (.gsa) THAT YtfonnejaffhncaaProg.lean LOADS. Nothing in Lean hashes anything: it is a label: what it is worth is what the hold of that sum in a sandbox is worth. -/
noncomputable def Try.pinned : Pinned := { name := "ytfonnejaffhncaa", sum := "c54f5309632a1fcedba222237ef59a01d0cb54cf3543c8a1787c079a69d3bd97", checked := Try.checked }
namespace Rows
def none {H : Type} : Left H := { results := [], args := [] }

/-- 'pluglaw.UtfWide': WHATEVER THE INPUT: true; the input reads as it did. -/
def utfWideSpec : ChangeSpec := { name := "utfWide", fn := fun _ => fun
  | [d] => { results := [.lit (.bool true)], args := [d] }
  | _ => none }
def utfWideRow : OpenClaim := { program := "ytfonnejaffhncaa", sum := "c54f5309632a1fcedba222237ef59a01d0cb54cf3543c8a1787c079a69d3bd97", func := "plugtree/pluglaw.UtfWide", spec := "utfWide", apart := false }
def UtfWideSaid : Prop := utfWideRow.holds Try.pinned (OpenSpec.ofChange utfWideSpec)

/-- ITS FALSE NEIGHBOUR: 'it returns false'. Refute it at one input. -/
def utfWideWrong : ChangeSpec := { name := "utfWide", fn := fun _ => fun
  | [d] => { results := [.lit (.bool false)], args := [d] }
  | _ => none }
def UtfWideWrongFalsely : Prop := utfWideRow.holds Try.pinned (OpenSpec.ofChange utfWideWrong)

/-- 'pluglaw.UtfNarrow': WHATEVER THE INPUT: true; the input reads as it did. -/
def utfNarrowSpec : ChangeSpec := { name := "utfNarrow", fn := fun _ => fun
  | [d] => { results := [.lit (.bool true)], args := [d] }
  | _ => none }
def utfNarrowRow : OpenClaim := { program := "ytfonnejaffhncaa", sum := "c54f5309632a1fcedba222237ef59a01d0cb54cf3543c8a1787c079a69d3bd97", func := "plugtree/pluglaw.UtfNarrow", spec := "utfNarrow", apart := false }
def UtfNarrowSaid : Prop := utfNarrowRow.holds Try.pinned (OpenSpec.ofChange utfNarrowSpec)

/-- ITS FALSE NEIGHBOUR: 'it returns false'. Refute it at one input. -/
def utfNarrowWrong : ChangeSpec := { name := "utfNarrow", fn := fun _ => fun
  | [d] => { results := [.lit (.bool false)], args := [d] }
  | _ => none }
def UtfNarrowWrongFalsely : Prop := utfNarrowRow.holds Try.pinned (OpenSpec.ofChange utfNarrowWrong)

/-- 'plugkeep.UtfUnits': WHATEVER THE INPUT: true; the input reads as it did. -/
def utfUnitsSpec : ChangeSpec := { name := "utfUnits", fn := fun _ => fun
  | [d] => { results := [.lit (.bool true)], args := [d] }
  | _ => none }
def utfUnitsRow : OpenClaim := { program := "ytfonnejaffhncaa", sum := "c54f5309632a1fcedba222237ef59a01d0cb54cf3543c8a1787c079a69d3bd97", func := "plugtree/plugkeep.UtfUnits", spec := "utfUnits", apart := false }
def UtfUnitsSaid : Prop := utfUnitsRow.holds Try.pinned (OpenSpec.ofChange utfUnitsSpec)

/-- ITS FALSE NEIGHBOUR: 'it returns false'. Refute it at one input. -/
def utfUnitsWrong : ChangeSpec := { name := "utfUnits", fn := fun _ => fun
  | [d] => { results := [.lit (.bool false)], args := [d] }
  | _ => none }
def UtfUnitsWrongFalsely : Prop := utfUnitsRow.holds Try.pinned (OpenSpec.ofChange utfUnitsWrong)

/-- 'plugkeep.UtfJoins': WHATEVER THE INPUT: true; the input reads as it did. -/
def utfJoinsSpec : ChangeSpec := { name := "utfJoins", fn := fun _ => fun
  | [d1, d2] => { results := [.lit (.bool true)], args := [d1, d2] }
  | _ => none }
def utfJoinsRow : OpenClaim := { program := "ytfonnejaffhncaa", sum := "c54f5309632a1fcedba222237ef59a01d0cb54cf3543c8a1787c079a69d3bd97", func := "plugtree/plugkeep.UtfJoins", spec := "utfJoins", apart := false }
def UtfJoinsSaid : Prop := utfJoinsRow.holds Try.pinned (OpenSpec.ofChange utfJoinsSpec)

/-- ITS FALSE NEIGHBOUR: 'it returns false'. Refute it at one input. -/
def utfJoinsWrong : ChangeSpec := { name := "utfJoins", fn := fun _ => fun
  | [d1, d2] => { results := [.lit (.bool false)], args := [d1, d2] }
  | _ => none }
def UtfJoinsWrongFalsely : Prop := utfJoinsRow.holds Try.pinned (OpenSpec.ofChange utfJoinsWrong)

/- THE SECOND FORM. 'bulk': how many values and letters a reading holds, each counted each time it is reached (what is shared counts as often as it is met; a slice's spare places count too). A statement '..UptoSaid' is the law's where the arguments, and the package variables that the reading takes, are together of bulk at most 1048576: NARROWER than '..Said'. Prove '..Said' where nothing that the law and all that it calls make is longer than what came in: it says more and counts as full. Else prove '..UptoSaid'. A law counts once. -/
mutual
def uptoBulk {H : Type} : DataW H → Nat
  | .lit (.string bytes) => bytes.length + 1
  | .lit _ => 1
  | .nil => 1
  | .ptr d => uptoBulk d + 1
  | .slice elems spare => uptoBulkAll elems + uptoBulkAll spare + 1
  | .agg parts => uptoBulkAll parts + 1
  | .iface _ d => uptoBulk d + 1
  | .map entries => uptoBulkEntries entries + 1
  | .held _ => 1
def uptoBulkAll {H : Type} : List (DataW H) → Nat
  | [] => 0
  | d :: r => uptoBulk d + uptoBulkAll r
def uptoBulkEntries {H : Type} : List (Lit × DataW H) → Nat
  | [] => 0
  | x :: r => uptoBulkEntry x + uptoBulkEntries r
def uptoBulkEntry {H : Type} : Lit × DataW H → Nat
  | (.string bytes, d) => bytes.length + uptoBulk d + 1
  | (_, d) => uptoBulk d + 1
 end
def uptoSmall : (H : Type) → List (DataW H) → Bool := fun _ ds => decide (uptoBulkAll ds ≤ 1048576)
def OpenSpec.upto (s : _root_.Go.ChangeSpec) : _root_.Go.OpenSpec := { _root_.Go.OpenSpec.ofChange s with cond := some uptoSmall }

/-- 'pluglaw.UtfWide', WHERE WHAT IT READS IS OF BULK AT MOST 1048576: true; the input reads as it did. -/
def utfWideUptoRow : OpenClaim := { program := "ytfonnejaffhncaa", sum := "c54f5309632a1fcedba222237ef59a01d0cb54cf3543c8a1787c079a69d3bd97", func := "plugtree/pluglaw.UtfWide", spec := "utfWide", apart := false, narrowed := true }
def UtfWideUptoSaid : Prop := utfWideUptoRow.holds Try.pinned (OpenSpec.upto utfWideSpec)

/-- 'pluglaw.UtfNarrow', WHERE WHAT IT READS IS OF BULK AT MOST 1048576: true; the input reads as it did. -/
def utfNarrowUptoRow : OpenClaim := { program := "ytfonnejaffhncaa", sum := "c54f5309632a1fcedba222237ef59a01d0cb54cf3543c8a1787c079a69d3bd97", func := "plugtree/pluglaw.UtfNarrow", spec := "utfNarrow", apart := false, narrowed := true }
def UtfNarrowUptoSaid : Prop := utfNarrowUptoRow.holds Try.pinned (OpenSpec.upto utfNarrowSpec)

/-- 'plugkeep.UtfUnits', WHERE WHAT IT READS IS OF BULK AT MOST 1048576: true; the input reads as it did. -/
def utfUnitsUptoRow : OpenClaim := { program := "ytfonnejaffhncaa", sum := "c54f5309632a1fcedba222237ef59a01d0cb54cf3543c8a1787c079a69d3bd97", func := "plugtree/plugkeep.UtfUnits", spec := "utfUnits", apart := false, narrowed := true }
def UtfUnitsUptoSaid : Prop := utfUnitsUptoRow.holds Try.pinned (OpenSpec.upto utfUnitsSpec)

/-- 'plugkeep.UtfJoins', WHERE WHAT IT READS IS OF BULK AT MOST 1048576: true; the input reads as it did. -/
def utfJoinsUptoRow : OpenClaim := { program := "ytfonnejaffhncaa", sum := "c54f5309632a1fcedba222237ef59a01d0cb54cf3543c8a1787c079a69d3bd97", func := "plugtree/plugkeep.UtfJoins", spec := "utfJoins", apart := false, narrowed := true }
def UtfJoinsUptoSaid : Prop := utfJoinsUptoRow.holds Try.pinned (OpenSpec.upto utfJoinsSpec)

end Rows
end Go.Proofs.Ytfonnejaffhncaa
