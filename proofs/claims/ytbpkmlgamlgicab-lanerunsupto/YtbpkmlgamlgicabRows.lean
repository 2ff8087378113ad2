/-
  No cell of these rows narrows 'for every input' (looked for: loops, veiled, ifaces, maps, wideKeys, modest, calm, conditions, laid).
  DERIVED. THE GIVEN ROWS OF THIS SEAT. 5 by the template 'for every input the law returns true; each argument reads behind the call as it read before'; 0 by the template 'total and deterministic' (their statements: YtbpkmlgamlgicabTotals.lean).
  GIVEN WITH THE SEED: the statements are not yours to turn. If you find one false, say at which input.
  Laid BY PROGRAM, IN A SANDBOX (cutbox-rows.mjs): the forced cells as the released guide's own fill.sh prints them over the translation e38126fc3b909b91… (all of the seat's roots in one cut). By AI agents, Wed Nov 11 2026. No macro, syntax, notation, axiom, sorry.
-/
import Derived.Test.YtbpkmlgamlgicabChecked
import GoSem.Claim
import GoSem.ClaimJoined
import GoSem.ClaimMapViews
import Derived.JoinedTies
import Derived.KernelRfl
namespace Go.Proofs.Ytbpkmlgamlgicab
/- THE CELL 'sum', in the pinned program and in every row, IS THE sha256 OF THE DUMP (.gsa) THAT YtbpkmlgamlgicabProg.lean LOADS. Nothing in Lean hashes anything: it is a label: what it is worth is what the hold of that sum in a sandbox is worth. -/
noncomputable def Try.pinned : Pinned := { name := "ytbpkmlgamlgicab", sum := "e38126fc3b909b91c66ffbc9c3efb86777f035429de9db051144bbcc92353235", checked := Try.checked }
namespace Rows
def none {H : Type} : Left H := { results := [], args := [] }

/-- 'plugkeep.LaneRuns': WHATEVER THE INPUT: true; the input reads as it did. -/
def laneRunsSpec : ChangeSpec := { name := "laneRuns", fn := fun _ => fun
  | [d1, d2] => { results := [.lit (.bool true)], args := [d1, d2] }
  | _ => none }
def laneRunsRow : OpenClaim := { program := "ytbpkmlgamlgicab", sum := "e38126fc3b909b91c66ffbc9c3efb86777f035429de9db051144bbcc92353235", func := "plugtree/plugkeep.LaneRuns", spec := "laneRuns", inPlace := ["internal/bytealg.IndexByteString", "internal/bytealg.IndexString"], named := ["internal/bytealg.MaxLen"], apart := false }
def LaneRunsSaid : Prop := laneRunsRow.holds Try.pinned (OpenSpec.ofChange laneRunsSpec)

/-- ITS FALSE NEIGHBOUR: 'it returns false'. Refute it at one input. -/
def laneRunsWrong : ChangeSpec := { name := "laneRuns", fn := fun _ => fun
  | [d1, d2] => { results := [.lit (.bool false)], args := [d1, d2] }
  | _ => none }
def LaneRunsWrongFalsely : Prop := laneRunsRow.holds Try.pinned (OpenSpec.ofChange laneRunsWrong)

/-- 'plugkeep.LaneLong': WHATEVER THE INPUT: true; the input reads as it did. -/
def laneLongSpec : ChangeSpec := { name := "laneLong", fn := fun _ => fun
  | [d] => { results := [.lit (.bool true)], args := [d] }
  | _ => none }
def laneLongRow : OpenClaim := { program := "ytbpkmlgamlgicab", sum := "e38126fc3b909b91c66ffbc9c3efb86777f035429de9db051144bbcc92353235", func := "plugtree/plugkeep.LaneLong", spec := "laneLong", inPlace := ["internal/bytealg.CountString", "internal/bytealg.IndexByteString", "internal/bytealg.IndexString"], named := ["internal/bytealg.MaxLen"], apart := false }
def LaneLongSaid : Prop := laneLongRow.holds Try.pinned (OpenSpec.ofChange laneLongSpec)

/-- ITS FALSE NEIGHBOUR: 'it returns false'. Refute it at one input. -/
def laneLongWrong : ChangeSpec := { name := "laneLong", fn := fun _ => fun
  | [d] => { results := [.lit (.bool false)], args := [d] }
  | _ => none }
def LaneLongWrongFalsely : Prop := laneLongRow.holds Try.pinned (OpenSpec.ofChange laneLongWrong)

/-- 'plugkeep.LaneJoins': WHATEVER THE INPUT: true; the input reads as it did. -/
def laneJoinsSpec : ChangeSpec := { name := "laneJoins", fn := fun _ => fun
  | [d1, d2, d3] => { results := [.lit (.bool true)], args := [d1, d2, d3] }
  | _ => none }
def laneJoinsRow : OpenClaim := { program := "ytbpkmlgamlgicab", sum := "e38126fc3b909b91c66ffbc9c3efb86777f035429de9db051144bbcc92353235", func := "plugtree/plugkeep.LaneJoins", spec := "laneJoins", apart := false }
def LaneJoinsSaid : Prop := laneJoinsRow.holds Try.pinned (OpenSpec.ofChange laneJoinsSpec)

/-- ITS FALSE NEIGHBOUR: 'it returns false'. Refute it at one input. -/
def laneJoinsWrong : ChangeSpec := { name := "laneJoins", fn := fun _ => fun
  | [d1, d2, d3] => { results := [.lit (.bool false)], args := [d1, d2, d3] }
  | _ => none }
def LaneJoinsWrongFalsely : Prop := laneJoinsRow.holds Try.pinned (OpenSpec.ofChange laneJoinsWrong)

/-- 'plugkeep.LaneFlips': WHATEVER THE INPUT: true; the input reads as it did. -/
def laneFlipsSpec : ChangeSpec := { name := "laneFlips", fn := fun _ => fun
  | [d1, d2, d3] => { results := [.lit (.bool true)], args := [d1, d2, d3] }
  | _ => none }
def laneFlipsRow : OpenClaim := { program := "ytbpkmlgamlgicab", sum := "e38126fc3b909b91c66ffbc9c3efb86777f035429de9db051144bbcc92353235", func := "plugtree/plugkeep.LaneFlips", spec := "laneFlips", apart := false }
def LaneFlipsSaid : Prop := laneFlipsRow.holds Try.pinned (OpenSpec.ofChange laneFlipsSpec)

/-- ITS FALSE NEIGHBOUR: 'it returns false'. Refute it at one input. -/
def laneFlipsWrong : ChangeSpec := { name := "laneFlips", fn := fun _ => fun
  | [d1, d2, d3] => { results := [.lit (.bool false)], args := [d1, d2, d3] }
  | _ => none }
def LaneFlipsWrongFalsely : Prop := laneFlipsRow.holds Try.pinned (OpenSpec.ofChange laneFlipsWrong)

/-- 'plugkeep.LanePoles': WHATEVER THE INPUT: true; the input reads as it did. -/
def lanePolesSpec : ChangeSpec := { name := "lanePoles", fn := fun _ => fun
  | [d1, d2] => { results := [.lit (.bool true)], args := [d1, d2] }
  | _ => none }
def lanePolesRow : OpenClaim := { program := "ytbpkmlgamlgicab", sum := "e38126fc3b909b91c66ffbc9c3efb86777f035429de9db051144bbcc92353235", func := "plugtree/plugkeep.LanePoles", spec := "lanePoles", apart := false }
def LanePolesSaid : Prop := lanePolesRow.holds Try.pinned (OpenSpec.ofChange lanePolesSpec)

/-- ITS FALSE NEIGHBOUR: 'it returns false'. Refute it at one input. -/
def lanePolesWrong : ChangeSpec := { name := "lanePoles", fn := fun _ => fun
  | [d1, d2] => { results := [.lit (.bool false)], args := [d1, d2] }
  | _ => none }
def LanePolesWrongFalsely : Prop := lanePolesRow.holds Try.pinned (OpenSpec.ofChange lanePolesWrong)

/- THE SECOND FORM. 'bulk': how many values and letters a reading holds, each counted each time it is reached (what is shared counts as often as it is met; a slice's spare places count too). A statement '..UptoSaid' is the law's where the arguments, and the package variables that the reading takes, are together of bulk at most 1048576: NARROWER than '..Said'. Prove '..Said' where nothing that the law and all that it calls make is longer than what came in: it says more and counts as full. Else prove '..UptoSaid'. A law counts once. -/
mutual
def uptoBulk {H : Type} : DataW H → Nat
  | .lit (.string bytes) => bytes.length + 1
  | .lit _ => 1
  | .nil => 1
  | .ptr d => uptoBulk d + 1
  | .slice elems spare => uptoBulkAll elems + uptoBulkAll spare + 1
  | .agg parts => uptoBulkAll parts + 1
  | .iface _ d => uptoBulk d + 1
  | .map entries => uptoBulkEntries entries + 1
  | .held _ => 1
def uptoBulkAll {H : Type} : List (DataW H) → Nat
  | [] => 0
  | d :: r => uptoBulk d + uptoBulkAll r
def uptoBulkEntries {H : Type} : List (Lit × DataW H) → Nat
  | [] => 0
  | x :: r => uptoBulkEntry x + uptoBulkEntries r
def uptoBulkEntry {H : Type} : Lit × DataW H → Nat
  | (.string bytes, d) => bytes.length + uptoBulk d + 1
  | (_, d) => uptoBulk d + 1
 end
def uptoSmall : (H : Type) → List (DataW H) → Bool := fun _ ds => decide (uptoBulkAll ds ≤ 1048576)
def OpenSpec.upto (s : _root_.Go.ChangeSpec) : _root_.Go.OpenSpec := { _root_.Go.OpenSpec.ofChange s with cond := some uptoSmall }

/-- 'plugkeep.LaneRuns', WHERE WHAT IT READS IS OF BULK AT MOST 1048576: true; the input reads as it did. -/
def laneRunsUptoRow : OpenClaim := { program := "ytbpkmlgamlgicab", sum := "e38126fc3b909b91c66ffbc9c3efb86777f035429de9db051144bbcc92353235", func := "plugtree/plugkeep.LaneRuns", spec := "laneRuns", inPlace := ["internal/bytealg.IndexByteString", "internal/bytealg.IndexString"], named := ["internal/bytealg.MaxLen"], apart := false, narrowed := true }
def LaneRunsUptoSaid : Prop := laneRunsUptoRow.holds Try.pinned (OpenSpec.upto laneRunsSpec)

/-- 'plugkeep.LaneLong', WHERE WHAT IT READS IS OF BULK AT MOST 1048576: true; the input reads as it did. -/
def laneLongUptoRow : OpenClaim := { program := "ytbpkmlgamlgicab", sum := "e38126fc3b909b91c66ffbc9c3efb86777f035429de9db051144bbcc92353235", func := "plugtree/plugkeep.LaneLong", spec := "laneLong", inPlace := ["internal/bytealg.CountString", "internal/bytealg.IndexByteString", "internal/bytealg.IndexString"], named := ["internal/bytealg.MaxLen"], apart := false, narrowed := true }
def LaneLongUptoSaid : Prop := laneLongUptoRow.holds Try.pinned (OpenSpec.upto laneLongSpec)

/-- 'plugkeep.LaneJoins', WHERE WHAT IT READS IS OF BULK AT MOST 1048576: true; the input reads as it did. -/
def laneJoinsUptoRow : OpenClaim := { program := "ytbpkmlgamlgicab", sum := "e38126fc3b909b91c66ffbc9c3efb86777f035429de9db051144bbcc92353235", func := "plugtree/plugkeep.LaneJoins", spec := "laneJoins", apart := false, narrowed := true }
def LaneJoinsUptoSaid : Prop := laneJoinsUptoRow.holds Try.pinned (OpenSpec.upto laneJoinsSpec)

/-- 'plugkeep.LaneFlips', WHERE WHAT IT READS IS OF BULK AT MOST 1048576: true; the input reads as it did. -/
def laneFlipsUptoRow : OpenClaim := { program := "ytbpkmlgamlgicab", sum := "e38126fc3b909b91c66ffbc9c3efb86777f035429de9db051144bbcc92353235", func := "plugtree/plugkeep.LaneFlips", spec := "laneFlips", apart := false, narrowed := true }
def LaneFlipsUptoSaid : Prop := laneFlipsUptoRow.holds Try.pinned (OpenSpec.upto laneFlipsSpec)

/-- 'plugkeep.LanePoles', WHERE WHAT IT READS IS OF BULK AT MOST 1048576: true; the input reads as it did. -/
def lanePolesUptoRow : OpenClaim := { program := "ytbpkmlgamlgicab", sum := "e38126fc3b909b91c66ffbc9c3efb86777f035429de9db051144bbcc92353235", func := "plugtree/plugkeep.LanePoles", spec := "lanePoles", apart := false, narrowed := true }
def LanePolesUptoSaid : Prop := lanePolesUptoRow.holds Try.pinned (OpenSpec.upto lanePolesSpec)

end Rows
end Go.Proofs.Ytbpkmlgamlgicab
