/-
  No cell of these rows narrows 'for every input' (looked for: loops, veiled, ifaces, maps, wideKeys, modest, calm, conditions, laid).
  DERIVED. THE GIVEN ROWS OF THIS SEAT. 6 by the template 'for every input the law returns true; each argument reads behind the call as it read before'; 0 by the template 'total and deterministic' (their statements: YtecknicmonhcaaaTotals.lean).
  GIVEN WITH THE SEED: the statements are not yours to turn. If you find one false, say at which input.
  Laid BY PROGRAM, IN A SANDBOX (cutbox-rows.mjs): the forced cells as the released guide's own fill.sh prints them over the translation 4f7fb6d1233ee3b4… (all of the seat's roots in one cut). By AI agents, Wed Nov 11 2026. No macro, syntax, notation, axiom, sorry.
-/
import Derived.Test.YtecknicmonhcaaaChecked
import GoSem.Claim
import GoSem.ClaimJoined
import GoSem.ClaimMapViews
import Derived.JoinedTies
import Derived.KernelRfl
namespace Go.Proofs.Ytecknicmonhcaaa
/- THE CELL 'sum', in the pinned program and in every row, IS THE sha256 OF THE DUMP (.gsa) THAT YtecknicmonhcaaaProg.lean LOADS. Nothing in Lean hashes anything: it is a label: what it is worth is what the hold of that sum in a sandbox is worth. -/
noncomputable def Try.pinned : Pinned := { name := "ytecknicmonhcaaa", sum := "4f7fb6d1233ee3b4da3cf01de3c7a6dd28bb7c680dbdd3cfc0a7ed66c3405532", checked := Try.checked }
namespace Rows
def none {H : Type} : Left H := { results := [], args := [] }

/-- 'pluglaw.BulkWraps': WHATEVER THE INPUT: true; the input reads as it did. -/
def bulkWrapsSpec : ChangeSpec := { name := "bulkWraps", fn := fun _ => fun
  | [d1, d2] => { results := [.lit (.bool true)], args := [d1, d2] }
  | _ => none }
def bulkWrapsRow : OpenClaim := { program := "ytecknicmonhcaaa", sum := "4f7fb6d1233ee3b4da3cf01de3c7a6dd28bb7c680dbdd3cfc0a7ed66c3405532", func := "plugtree/pluglaw.BulkWraps", spec := "bulkWraps", inPlace := ["internal/abi.NoEscape", "internal/bytealg.MakeNoZero"], apart := false }
def BulkWrapsSaid : Prop := bulkWrapsRow.holds Try.pinned (OpenSpec.ofChange bulkWrapsSpec)

/-- ITS FALSE NEIGHBOUR: 'it returns false'. Refute it at one input. -/
def bulkWrapsWrong : ChangeSpec := { name := "bulkWraps", fn := fun _ => fun
  | [d1, d2] => { results := [.lit (.bool false)], args := [d1, d2] }
  | _ => none }
def BulkWrapsWrongFalsely : Prop := bulkWrapsRow.holds Try.pinned (OpenSpec.ofChange bulkWrapsWrong)

/-- 'pluglaw.BulkTells': WHATEVER THE INPUT: true; the input reads as it did. -/
def bulkTellsSpec : ChangeSpec := { name := "bulkTells", fn := fun _ => fun
  | [d1, d2] => { results := [.lit (.bool true)], args := [d1, d2] }
  | _ => none }
def bulkTellsRow : OpenClaim := { program := "ytecknicmonhcaaa", sum := "4f7fb6d1233ee3b4da3cf01de3c7a6dd28bb7c680dbdd3cfc0a7ed66c3405532", func := "plugtree/pluglaw.BulkTells", spec := "bulkTells", apart := false }
def BulkTellsSaid : Prop := bulkTellsRow.holds Try.pinned (OpenSpec.ofChange bulkTellsSpec)

/-- ITS FALSE NEIGHBOUR: 'it returns false'. Refute it at one input. -/
def bulkTellsWrong : ChangeSpec := { name := "bulkTells", fn := fun _ => fun
  | [d1, d2] => { results := [.lit (.bool false)], args := [d1, d2] }
  | _ => none }
def BulkTellsWrongFalsely : Prop := bulkTellsRow.holds Try.pinned (OpenSpec.ofChange bulkTellsWrong)

/-- 'pluglaw.BulkJudges': WHATEVER THE INPUT: true; the input reads as it did. -/
def bulkJudgesSpec : ChangeSpec := { name := "bulkJudges", fn := fun _ => fun
  | [d1, d2] => { results := [.lit (.bool true)], args := [d1, d2] }
  | _ => none }
def bulkJudgesRow : OpenClaim := { program := "ytecknicmonhcaaa", sum := "4f7fb6d1233ee3b4da3cf01de3c7a6dd28bb7c680dbdd3cfc0a7ed66c3405532", func := "plugtree/pluglaw.BulkJudges", spec := "bulkJudges", inPlace := ["internal/bytealg.IndexByteString"], apart := false }
def BulkJudgesSaid : Prop := bulkJudgesRow.holds Try.pinned (OpenSpec.ofChange bulkJudgesSpec)

/-- ITS FALSE NEIGHBOUR: 'it returns false'. Refute it at one input. -/
def bulkJudgesWrong : ChangeSpec := { name := "bulkJudges", fn := fun _ => fun
  | [d1, d2] => { results := [.lit (.bool false)], args := [d1, d2] }
  | _ => none }
def BulkJudgesWrongFalsely : Prop := bulkJudgesRow.holds Try.pinned (OpenSpec.ofChange bulkJudgesWrong)

/-- 'pluglaw.BulkServes': WHATEVER THE INPUT: true; the input reads as it did. -/
def bulkServesSpec : ChangeSpec := { name := "bulkServes", fn := fun _ => fun
  | [d1, d2, d3] => { results := [.lit (.bool true)], args := [d1, d2, d3] }
  | _ => none }
def bulkServesRow : OpenClaim := { program := "ytecknicmonhcaaa", sum := "4f7fb6d1233ee3b4da3cf01de3c7a6dd28bb7c680dbdd3cfc0a7ed66c3405532", func := "plugtree/pluglaw.BulkServes", spec := "bulkServes", inPlace := ["internal/abi.NoEscape", "internal/bytealg.MakeNoZero", "internal/bytealg.IndexByteString"], unfollowed := true, recurses := true, apart := false }
def BulkServesSaid : Prop := bulkServesRow.holds Try.pinned (OpenSpec.ofChange bulkServesSpec)

/-- ITS FALSE NEIGHBOUR: 'it returns false'. Refute it at one input. -/
def bulkServesWrong : ChangeSpec := { name := "bulkServes", fn := fun _ => fun
  | [d1, d2, d3] => { results := [.lit (.bool false)], args := [d1, d2, d3] }
  | _ => none }
def BulkServesWrongFalsely : Prop := bulkServesRow.holds Try.pinned (OpenSpec.ofChange bulkServesWrong)

/-- 'plugkeep.BulkBack': WHATEVER THE INPUT: true; the input reads as it did. -/
def bulkBackSpec : ChangeSpec := { name := "bulkBack", fn := fun _ => fun
  | [d1, d2, d3] => { results := [.lit (.bool true)], args := [d1, d2, d3] }
  | _ => none }
def bulkBackRow : OpenClaim := { program := "ytecknicmonhcaaa", sum := "4f7fb6d1233ee3b4da3cf01de3c7a6dd28bb7c680dbdd3cfc0a7ed66c3405532", func := "plugtree/plugkeep.BulkBack", spec := "bulkBack", inPlace := ["internal/abi.NoEscape", "internal/bytealg.MakeNoZero"], apart := false }
def BulkBackSaid : Prop := bulkBackRow.holds Try.pinned (OpenSpec.ofChange bulkBackSpec)

/-- ITS FALSE NEIGHBOUR: 'it returns false'. Refute it at one input. -/
def bulkBackWrong : ChangeSpec := { name := "bulkBack", fn := fun _ => fun
  | [d1, d2, d3] => { results := [.lit (.bool false)], args := [d1, d2, d3] }
  | _ => none }
def BulkBackWrongFalsely : Prop := bulkBackRow.holds Try.pinned (OpenSpec.ofChange bulkBackWrong)

/-- 'plugkeep.BulkThirteen': WHATEVER THE INPUT: true; the input reads as it did. -/
def bulkThirteenSpec : ChangeSpec := { name := "bulkThirteen", fn := fun _ => fun
  | [d1, d2] => { results := [.lit (.bool true)], args := [d1, d2] }
  | _ => none }
def bulkThirteenRow : OpenClaim := { program := "ytecknicmonhcaaa", sum := "4f7fb6d1233ee3b4da3cf01de3c7a6dd28bb7c680dbdd3cfc0a7ed66c3405532", func := "plugtree/plugkeep.BulkThirteen", spec := "bulkThirteen", apart := false }
def BulkThirteenSaid : Prop := bulkThirteenRow.holds Try.pinned (OpenSpec.ofChange bulkThirteenSpec)

/-- ITS FALSE NEIGHBOUR: 'it returns false'. Refute it at one input. -/
def bulkThirteenWrong : ChangeSpec := { name := "bulkThirteen", fn := fun _ => fun
  | [d1, d2] => { results := [.lit (.bool false)], args := [d1, d2] }
  | _ => none }
def BulkThirteenWrongFalsely : Prop := bulkThirteenRow.holds Try.pinned (OpenSpec.ofChange bulkThirteenWrong)

/- THE SECOND FORM. 'bulk': how many values and letters a reading holds, each counted each time it is reached (what is shared counts as often as it is met; a slice's spare places count too). A statement '..UptoSaid' is the law's where the arguments, and the package variables that the reading takes, are together of bulk at most 1048576: NARROWER than '..Said'. Prove '..Said' where nothing that the law and all that it calls make is longer than what came in: it says more and counts as full. Else prove '..UptoSaid'. A law counts once. -/
mutual
def uptoBulk {H : Type} : DataW H → Nat
  | .lit (.string bytes) => bytes.length + 1
  | .lit _ => 1
  | .nil => 1
  | .ptr d => uptoBulk d + 1
  | .slice elems spare => uptoBulkAll elems + uptoBulkAll spare + 1
  | .agg parts => uptoBulkAll parts + 1
  | .iface _ d => uptoBulk d + 1
  | .map entries => uptoBulkEntries entries + 1
  | .held _ => 1
def uptoBulkAll {H : Type} : List (DataW H) → Nat
  | [] => 0
  | d :: r => uptoBulk d + uptoBulkAll r
def uptoBulkEntries {H : Type} : List (Lit × DataW H) → Nat
  | [] => 0
  | x :: r => uptoBulkEntry x + uptoBulkEntries r
def uptoBulkEntry {H : Type} : Lit × DataW H → Nat
  | (.string bytes, d) => bytes.length + uptoBulk d + 1
  | (_, d) => uptoBulk d + 1
 end
def uptoSmall : (H : Type) → List (DataW H) → Bool := fun _ ds => decide (uptoBulkAll ds ≤ 1048576)
def OpenSpec.upto (s : _root_.Go.ChangeSpec) : _root_.Go.OpenSpec := { _root_.Go.OpenSpec.ofChange s with cond := some uptoSmall }

/-- 'pluglaw.BulkWraps', WHERE WHAT IT READS IS OF BULK AT MOST 1048576: true; the input reads as it did. -/
def bulkWrapsUptoRow : OpenClaim := { program := "ytecknicmonhcaaa", sum := "4f7fb6d1233ee3b4da3cf01de3c7a6dd28bb7c680dbdd3cfc0a7ed66c3405532", func := "plugtree/pluglaw.BulkWraps", spec := "bulkWraps", inPlace := ["internal/abi.NoEscape", "internal/bytealg.MakeNoZero"], apart := false, narrowed := true }
def BulkWrapsUptoSaid : Prop := bulkWrapsUptoRow.holds Try.pinned (OpenSpec.upto bulkWrapsSpec)

/-- 'pluglaw.BulkTells', WHERE WHAT IT READS IS OF BULK AT MOST 1048576: true; the input reads as it did. -/
def bulkTellsUptoRow : OpenClaim := { program := "ytecknicmonhcaaa", sum := "4f7fb6d1233ee3b4da3cf01de3c7a6dd28bb7c680dbdd3cfc0a7ed66c3405532", func := "plugtree/pluglaw.BulkTells", spec := "bulkTells", apart := false, narrowed := true }
def BulkTellsUptoSaid : Prop := bulkTellsUptoRow.holds Try.pinned (OpenSpec.upto bulkTellsSpec)

/-- 'pluglaw.BulkJudges', WHERE WHAT IT READS IS OF BULK AT MOST 1048576: true; the input reads as it did. -/
def bulkJudgesUptoRow : OpenClaim := { program := "ytecknicmonhcaaa", sum := "4f7fb6d1233ee3b4da3cf01de3c7a6dd28bb7c680dbdd3cfc0a7ed66c3405532", func := "plugtree/pluglaw.BulkJudges", spec := "bulkJudges", inPlace := ["internal/bytealg.IndexByteString"], apart := false, narrowed := true }
def BulkJudgesUptoSaid : Prop := bulkJudgesUptoRow.holds Try.pinned (OpenSpec.upto bulkJudgesSpec)

/-- 'pluglaw.BulkServes', WHERE WHAT IT READS IS OF BULK AT MOST 1048576: true; the input reads as it did. -/
def bulkServesUptoRow : OpenClaim := { program := "ytecknicmonhcaaa", sum := "4f7fb6d1233ee3b4da3cf01de3c7a6dd28bb7c680dbdd3cfc0a7ed66c3405532", func := "plugtree/pluglaw.BulkServes", spec := "bulkServes", inPlace := ["internal/abi.NoEscape", "internal/bytealg.MakeNoZero", "internal/bytealg.IndexByteString"], unfollowed := true, recurses := true, apart := false, narrowed := true }
def BulkServesUptoSaid : Prop := bulkServesUptoRow.holds Try.pinned (OpenSpec.upto bulkServesSpec)

/-- 'plugkeep.BulkBack', WHERE WHAT IT READS IS OF BULK AT MOST 1048576: true; the input reads as it did. -/
def bulkBackUptoRow : OpenClaim := { program := "ytecknicmonhcaaa", sum := "4f7fb6d1233ee3b4da3cf01de3c7a6dd28bb7c680dbdd3cfc0a7ed66c3405532", func := "plugtree/plugkeep.BulkBack", spec := "bulkBack", inPlace := ["internal/abi.NoEscape", "internal/bytealg.MakeNoZero"], apart := false, narrowed := true }
def BulkBackUptoSaid : Prop := bulkBackUptoRow.holds Try.pinned (OpenSpec.upto bulkBackSpec)

/-- 'plugkeep.BulkThirteen', WHERE WHAT IT READS IS OF BULK AT MOST 1048576: true; the input reads as it did. -/
def bulkThirteenUptoRow : OpenClaim := { program := "ytecknicmonhcaaa", sum := "4f7fb6d1233ee3b4da3cf01de3c7a6dd28bb7c680dbdd3cfc0a7ed66c3405532", func := "plugtree/plugkeep.BulkThirteen", spec := "bulkThirteen", apart := false, narrowed := true }
def BulkThirteenUptoSaid : Prop := bulkThirteenUptoRow.holds Try.pinned (OpenSpec.upto bulkThirteenSpec)

end Rows
end Go.Proofs.Ytecknicmonhcaaa
