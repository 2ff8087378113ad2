/-
  No cell of these rows narrows 'for every input' (looked for: loops, veiled, ifaces, maps, wideKeys, modest, calm, conditions, laid).
  DERIVED. THE GIVEN ROWS OF THIS SEAT. 6 by the template 'for every input the law returns true; each argument reads behind the call as it read before'; 0 by the template 'total and deterministic' (their statements: YtgnffifohdgekaaTotals.lean).
  GIVEN WITH THE SEED: the statements are not yours to turn. If you find one false, say at which input.
  Laid BY PROGRAM, IN A SANDBOX (cutbox-rows.mjs): the forced cells as the released guide's own fill.sh prints them over the translation ad5ae31f95dca149… (all of the seat's roots in one cut). By AI agents, Wed Nov 11 2026. No macro, syntax, notation, axiom, sorry.
-/
import Derived.Test.YtgnffifohdgekaaChecked
import GoSem.Claim
import GoSem.ClaimJoined
import GoSem.ClaimMapViews
import Derived.JoinedTies
import Derived.KernelRfl
namespace Go.Proofs.Ytgnffifohdgekaa
/- THE CELL 'sum', in the pinned program and in every row, IS THE sha256 OF THE DUMP (.gsa) THAT YtgnffifohdgekaaProg.lean LOADS. Nothing in Lean hashes anything: it is a label: what it is worth is what the hold of that sum in a sandbox is worth. -/
noncomputable def Try.pinned : Pinned := { name := "ytgnffifohdgekaa", sum := "ad5ae31f95dca149329615a5ad9d3e00ab3872a458d9d6369a08f26b1ef36a0d", checked := Try.checked }
namespace Rows
def none {H : Type} : Left H := { results := [], args := [] }

/-- 'pluglaw.PipeSteps': WHATEVER THE INPUT: true; the input reads as it did. -/
def pipeStepsSpec : ChangeSpec := { name := "pipeSteps", fn := fun _ => fun
  | [d1, d2, d3] => { results := [.lit (.bool true)], args := [d1, d2, d3] }
  | _ => none }
def pipeStepsRow : OpenClaim := { program := "ytgnffifohdgekaa", sum := "ad5ae31f95dca149329615a5ad9d3e00ab3872a458d9d6369a08f26b1ef36a0d", func := "plugtree/pluglaw.PipeSteps", spec := "pipeSteps", apart := false }
def PipeStepsSaid : Prop := pipeStepsRow.holds Try.pinned (OpenSpec.ofChange pipeStepsSpec)

/-- ITS FALSE NEIGHBOUR: 'it returns false'. Refute it at one input. -/
def pipeStepsWrong : ChangeSpec := { name := "pipeSteps", fn := fun _ => fun
  | [d1, d2, d3] => { results := [.lit (.bool false)], args := [d1, d2, d3] }
  | _ => none }
def PipeStepsWrongFalsely : Prop := pipeStepsRow.holds Try.pinned (OpenSpec.ofChange pipeStepsWrong)

/-- 'pluglaw.PipeRuns': WHATEVER THE INPUT: true; the input reads as it did. -/
def pipeRunsSpec : ChangeSpec := { name := "pipeRuns", fn := fun _ => fun
  | [d1, d2] => { results := [.lit (.bool true)], args := [d1, d2] }
  | _ => none }
def pipeRunsRow : OpenClaim := { program := "ytgnffifohdgekaa", sum := "ad5ae31f95dca149329615a5ad9d3e00ab3872a458d9d6369a08f26b1ef36a0d", func := "plugtree/pluglaw.PipeRuns", spec := "pipeRuns", apart := false }
def PipeRunsSaid : Prop := pipeRunsRow.holds Try.pinned (OpenSpec.ofChange pipeRunsSpec)

/-- ITS FALSE NEIGHBOUR: 'it returns false'. Refute it at one input. -/
def pipeRunsWrong : ChangeSpec := { name := "pipeRuns", fn := fun _ => fun
  | [d1, d2] => { results := [.lit (.bool false)], args := [d1, d2] }
  | _ => none }
def PipeRunsWrongFalsely : Prop := pipeRunsRow.holds Try.pinned (OpenSpec.ofChange pipeRunsWrong)

/-- 'pluglaw.StrikeSplits': WHATEVER THE INPUT: true; the input reads as it did. -/
def strikeSplitsSpec : ChangeSpec := { name := "strikeSplits", fn := fun _ => fun
  | [d1, d2, d3] => { results := [.lit (.bool true)], args := [d1, d2, d3] }
  | _ => none }
def strikeSplitsRow : OpenClaim := { program := "ytgnffifohdgekaa", sum := "ad5ae31f95dca149329615a5ad9d3e00ab3872a458d9d6369a08f26b1ef36a0d", func := "plugtree/pluglaw.StrikeSplits", spec := "strikeSplits", inPlace := ["internal/abi.NoEscape", "internal/bytealg.MakeNoZero"], apart := false }
def StrikeSplitsSaid : Prop := strikeSplitsRow.holds Try.pinned (OpenSpec.ofChange strikeSplitsSpec)

/-- ITS FALSE NEIGHBOUR: 'it returns false'. Refute it at one input. -/
def strikeSplitsWrong : ChangeSpec := { name := "strikeSplits", fn := fun _ => fun
  | [d1, d2, d3] => { results := [.lit (.bool false)], args := [d1, d2, d3] }
  | _ => none }
def StrikeSplitsWrongFalsely : Prop := strikeSplitsRow.holds Try.pinned (OpenSpec.ofChange strikeSplitsWrong)

/-- 'pluglaw.StrikeCarries': WHATEVER THE INPUT: true; the input reads as it did. -/
def strikeCarriesSpec : ChangeSpec := { name := "strikeCarries", fn := fun _ => fun
  | [d1, d2, d3] => { results := [.lit (.bool true)], args := [d1, d2, d3] }
  | _ => none }
def strikeCarriesRow : OpenClaim := { program := "ytgnffifohdgekaa", sum := "ad5ae31f95dca149329615a5ad9d3e00ab3872a458d9d6369a08f26b1ef36a0d", func := "plugtree/pluglaw.StrikeCarries", spec := "strikeCarries", inPlace := ["internal/abi.NoEscape", "internal/bytealg.MakeNoZero"], apart := false }
def StrikeCarriesSaid : Prop := strikeCarriesRow.holds Try.pinned (OpenSpec.ofChange strikeCarriesSpec)

/-- ITS FALSE NEIGHBOUR: 'it returns false'. Refute it at one input. -/
def strikeCarriesWrong : ChangeSpec := { name := "strikeCarries", fn := fun _ => fun
  | [d1, d2, d3] => { results := [.lit (.bool false)], args := [d1, d2, d3] }
  | _ => none }
def StrikeCarriesWrongFalsely : Prop := strikeCarriesRow.holds Try.pinned (OpenSpec.ofChange strikeCarriesWrong)

/-- 'plugkeep.PipeFront': WHATEVER THE INPUT: true; the input reads as it did. -/
def pipeFrontSpec : ChangeSpec := { name := "pipeFront", fn := fun _ => fun
  | [d1, d2] => { results := [.lit (.bool true)], args := [d1, d2] }
  | _ => none }
def pipeFrontRow : OpenClaim := { program := "ytgnffifohdgekaa", sum := "ad5ae31f95dca149329615a5ad9d3e00ab3872a458d9d6369a08f26b1ef36a0d", func := "plugtree/plugkeep.PipeFront", spec := "pipeFront", apart := false }
def PipeFrontSaid : Prop := pipeFrontRow.holds Try.pinned (OpenSpec.ofChange pipeFrontSpec)

/-- ITS FALSE NEIGHBOUR: 'it returns false'. Refute it at one input. -/
def pipeFrontWrong : ChangeSpec := { name := "pipeFront", fn := fun _ => fun
  | [d1, d2] => { results := [.lit (.bool false)], args := [d1, d2] }
  | _ => none }
def PipeFrontWrongFalsely : Prop := pipeFrontRow.holds Try.pinned (OpenSpec.ofChange pipeFrontWrong)

/-- 'plugkeep.PipeAll': WHATEVER THE INPUT: true; the input reads as it did. -/
def pipeAllSpec : ChangeSpec := { name := "pipeAll", fn := fun _ => fun
  | [d1, d2] => { results := [.lit (.bool true)], args := [d1, d2] }
  | _ => none }
def pipeAllRow : OpenClaim := { program := "ytgnffifohdgekaa", sum := "ad5ae31f95dca149329615a5ad9d3e00ab3872a458d9d6369a08f26b1ef36a0d", func := "plugtree/plugkeep.PipeAll", spec := "pipeAll", apart := false }
def PipeAllSaid : Prop := pipeAllRow.holds Try.pinned (OpenSpec.ofChange pipeAllSpec)

/-- ITS FALSE NEIGHBOUR: 'it returns false'. Refute it at one input. -/
def pipeAllWrong : ChangeSpec := { name := "pipeAll", fn := fun _ => fun
  | [d1, d2] => { results := [.lit (.bool false)], args := [d1, d2] }
  | _ => none }
def PipeAllWrongFalsely : Prop := pipeAllRow.holds Try.pinned (OpenSpec.ofChange pipeAllWrong)

/- THE SECOND FORM. 'bulk': how many values and letters a reading holds, each counted each time it is reached (what is shared counts as often as it is met; a slice's spare places count too). A statement '..UptoSaid' is the law's where the arguments, and the package variables that the reading takes, are together of bulk at most 1048576: NARROWER than '..Said'. Prove '..Said' where nothing that the law and all that it calls make is longer than what came in: it says more and counts as full. Else prove '..UptoSaid'. A law counts once. -/
mutual
def uptoBulk {H : Type} : DataW H → Nat
  | .lit (.string bytes) => bytes.length + 1
  | .lit _ => 1
  | .nil => 1
  | .ptr d => uptoBulk d + 1
  | .slice elems spare => uptoBulkAll elems + uptoBulkAll spare + 1
  | .agg parts => uptoBulkAll parts + 1
  | .iface _ d => uptoBulk d + 1
  | .map entries => uptoBulkEntries entries + 1
  | .held _ => 1
def uptoBulkAll {H : Type} : List (DataW H) → Nat
  | [] => 0
  | d :: r => uptoBulk d + uptoBulkAll r
def uptoBulkEntries {H : Type} : List (Lit × DataW H) → Nat
  | [] => 0
  | x :: r => uptoBulkEntry x + uptoBulkEntries r
def uptoBulkEntry {H : Type} : Lit × DataW H → Nat
  | (.string bytes, d) => bytes.length + uptoBulk d + 1
  | (_, d) => uptoBulk d + 1
 end
def uptoSmall : (H : Type) → List (DataW H) → Bool := fun _ ds => decide (uptoBulkAll ds ≤ 1048576)
def OpenSpec.upto (s : _root_.Go.ChangeSpec) : _root_.Go.OpenSpec := { _root_.Go.OpenSpec.ofChange s with cond := some uptoSmall }

/-- 'pluglaw.PipeSteps', WHERE WHAT IT READS IS OF BULK AT MOST 1048576: true; the input reads as it did. -/
def pipeStepsUptoRow : OpenClaim := { program := "ytgnffifohdgekaa", sum := "ad5ae31f95dca149329615a5ad9d3e00ab3872a458d9d6369a08f26b1ef36a0d", func := "plugtree/pluglaw.PipeSteps", spec := "pipeSteps", apart := false, narrowed := true }
def PipeStepsUptoSaid : Prop := pipeStepsUptoRow.holds Try.pinned (OpenSpec.upto pipeStepsSpec)

/-- 'pluglaw.PipeRuns', WHERE WHAT IT READS IS OF BULK AT MOST 1048576: true; the input reads as it did. -/
def pipeRunsUptoRow : OpenClaim := { program := "ytgnffifohdgekaa", sum := "ad5ae31f95dca149329615a5ad9d3e00ab3872a458d9d6369a08f26b1ef36a0d", func := "plugtree/pluglaw.PipeRuns", spec := "pipeRuns", apart := false, narrowed := true }
def PipeRunsUptoSaid : Prop := pipeRunsUptoRow.holds Try.pinned (OpenSpec.upto pipeRunsSpec)

/-- 'pluglaw.StrikeSplits', WHERE WHAT IT READS IS OF BULK AT MOST 1048576: true; the input reads as it did. -/
def strikeSplitsUptoRow : OpenClaim := { program := "ytgnffifohdgekaa", sum := "ad5ae31f95dca149329615a5ad9d3e00ab3872a458d9d6369a08f26b1ef36a0d", func := "plugtree/pluglaw.StrikeSplits", spec := "strikeSplits", inPlace := ["internal/abi.NoEscape", "internal/bytealg.MakeNoZero"], apart := false, narrowed := true }
def StrikeSplitsUptoSaid : Prop := strikeSplitsUptoRow.holds Try.pinned (OpenSpec.upto strikeSplitsSpec)

/-- 'pluglaw.StrikeCarries', WHERE WHAT IT READS IS OF BULK AT MOST 1048576: true; the input reads as it did. -/
def strikeCarriesUptoRow : OpenClaim := { program := "ytgnffifohdgekaa", sum := "ad5ae31f95dca149329615a5ad9d3e00ab3872a458d9d6369a08f26b1ef36a0d", func := "plugtree/pluglaw.StrikeCarries", spec := "strikeCarries", inPlace := ["internal/abi.NoEscape", "internal/bytealg.MakeNoZero"], apart := false, narrowed := true }
def StrikeCarriesUptoSaid : Prop := strikeCarriesUptoRow.holds Try.pinned (OpenSpec.upto strikeCarriesSpec)

/-- 'plugkeep.PipeFront', WHERE WHAT IT READS IS OF BULK AT MOST 1048576: true; the input reads as it did. -/
def pipeFrontUptoRow : OpenClaim := { program := "ytgnffifohdgekaa", sum := "ad5ae31f95dca149329615a5ad9d3e00ab3872a458d9d6369a08f26b1ef36a0d", func := "plugtree/plugkeep.PipeFront", spec := "pipeFront", apart := false, narrowed := true }
def PipeFrontUptoSaid : Prop := pipeFrontUptoRow.holds Try.pinned (OpenSpec.upto pipeFrontSpec)

/-- 'plugkeep.PipeAll', WHERE WHAT IT READS IS OF BULK AT MOST 1048576: true; the input reads as it did. -/
def pipeAllUptoRow : OpenClaim := { program := "ytgnffifohdgekaa", sum := "ad5ae31f95dca149329615a5ad9d3e00ab3872a458d9d6369a08f26b1ef36a0d", func := "plugtree/plugkeep.PipeAll", spec := "pipeAll", apart := false, narrowed := true }
def PipeAllUptoSaid : Prop := pipeAllUptoRow.holds Try.pinned (OpenSpec.upto pipeAllSpec)

end Rows
end Go.Proofs.Ytgnffifohdgekaa
