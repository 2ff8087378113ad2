/-
  No cell of these rows narrows 'for every input' (looked for: loops, veiled, ifaces, maps, wideKeys, modest, calm, conditions, laid).
  DERIVED. THE GIVEN ROWS OF THIS SEAT. 6 by the template 'for every input the law returns true; each argument reads behind the call as it read before'; 0 by the template 'total and deterministic' (their statements: YtebaepkghbihkaaTotals.lean).
  GIVEN WITH THE SEED: the statements are not yours to turn. If you find one false, say at which input.
  Laid BY PROGRAM, IN A SANDBOX (cutbox-rows.mjs): the forced cells as the released guide's own fill.sh prints them over the translation 63f6eaa1a82fddbc… (all of the seat's roots in one cut). By AI agents, Wed Nov 11 2026. No macro, syntax, notation, axiom, sorry.
-/
import Derived.Test.YtebaepkghbihkaaChecked
import GoSem.Claim
import GoSem.ClaimJoined
import GoSem.ClaimMapViews
import Derived.JoinedTies
import Derived.KernelRfl
namespace Go.Proofs.Ytebaepkghbihkaa
/- THE CELL 'sum', in the pinned program and in every row, IS THE sha256 OF THE DUMP (.gsa) THAT YtebaepkghbihkaaProg.lean LOADS. Nothing in Lean hashes anything: it is a label: what it is worth is what the hold of that sum in a sandbox is worth. -/
noncomputable def Try.pinned : Pinned := { name := "ytebaepkghbihkaa", sum := "63f6eaa1a82fddbc41b7cc56b0d5312e2be585f9fb13ccfdf27c6d7910d7c385", checked := Try.checked }
namespace Rows
def none {H : Type} : Left H := { results := [], args := [] }

/-- 'pluglaw.GadgetChecks': WHATEVER THE INPUT: true; the input reads as it did. -/
def gadgetChecksSpec : ChangeSpec := { name := "gadgetChecks", fn := fun _ => fun
  | [d] => { results := [.lit (.bool true)], args := [d] }
  | _ => none }
def gadgetChecksRow : OpenClaim := { program := "ytebaepkghbihkaa", sum := "63f6eaa1a82fddbc41b7cc56b0d5312e2be585f9fb13ccfdf27c6d7910d7c385", func := "plugtree/pluglaw.GadgetChecks", spec := "gadgetChecks", inPlace := ["internal/abi.NoEscape", "internal/bytealg.MakeNoZero"], plainKeys := false, apart := false }
def GadgetChecksSaid : Prop := gadgetChecksRow.holds Try.pinned (OpenSpec.ofChange gadgetChecksSpec)

/-- ITS FALSE NEIGHBOUR: 'it returns false'. Refute it at one input. -/
def gadgetChecksWrong : ChangeSpec := { name := "gadgetChecks", fn := fun _ => fun
  | [d] => { results := [.lit (.bool false)], args := [d] }
  | _ => none }
def GadgetChecksWrongFalsely : Prop := gadgetChecksRow.holds Try.pinned (OpenSpec.ofChange gadgetChecksWrong)

/-- 'pluglaw.GadgetSays': WHATEVER THE INPUT: true; the input reads as it did. -/
def gadgetSaysSpec : ChangeSpec := { name := "gadgetSays", fn := fun _ => fun
  | [d1, d2, d3] => { results := [.lit (.bool true)], args := [d1, d2, d3] }
  | _ => none }
def gadgetSaysRow : OpenClaim := { program := "ytebaepkghbihkaa", sum := "63f6eaa1a82fddbc41b7cc56b0d5312e2be585f9fb13ccfdf27c6d7910d7c385", func := "plugtree/pluglaw.GadgetSays", spec := "gadgetSays", inPlace := ["internal/abi.NoEscape", "internal/bytealg.MakeNoZero"], unfollowed := true, recurses := true, plainKeys := false, apart := false }
def GadgetSaysSaid : Prop := gadgetSaysRow.holds Try.pinned (OpenSpec.ofChange gadgetSaysSpec)

/-- ITS FALSE NEIGHBOUR: 'it returns false'. Refute it at one input. -/
def gadgetSaysWrong : ChangeSpec := { name := "gadgetSays", fn := fun _ => fun
  | [d1, d2, d3] => { results := [.lit (.bool false)], args := [d1, d2, d3] }
  | _ => none }
def GadgetSaysWrongFalsely : Prop := gadgetSaysRow.holds Try.pinned (OpenSpec.ofChange gadgetSaysWrong)

/-- 'plugkeep.GadgetKeeps': WHATEVER THE INPUT: true; the input reads as it did. -/
def gadgetKeepsSpec : ChangeSpec := { name := "gadgetKeeps", fn := fun _ => fun
  | [d1, d2, d3] => { results := [.lit (.bool true)], args := [d1, d2, d3] }
  | _ => none }
def gadgetKeepsRow : OpenClaim := { program := "ytebaepkghbihkaa", sum := "63f6eaa1a82fddbc41b7cc56b0d5312e2be585f9fb13ccfdf27c6d7910d7c385", func := "plugtree/plugkeep.GadgetKeeps", spec := "gadgetKeeps", plainKeys := false, apart := false }
def GadgetKeepsSaid : Prop := gadgetKeepsRow.holds Try.pinned (OpenSpec.ofChange gadgetKeepsSpec)

/-- ITS FALSE NEIGHBOUR: 'it returns false'. Refute it at one input. -/
def gadgetKeepsWrong : ChangeSpec := { name := "gadgetKeeps", fn := fun _ => fun
  | [d1, d2, d3] => { results := [.lit (.bool false)], args := [d1, d2, d3] }
  | _ => none }
def GadgetKeepsWrongFalsely : Prop := gadgetKeepsRow.holds Try.pinned (OpenSpec.ofChange gadgetKeepsWrong)

/-- 'plugkeep.GadgetShort': WHATEVER THE INPUT: true; the input reads as it did. -/
def gadgetShortSpec : ChangeSpec := { name := "gadgetShort", fn := fun _ => fun
  | [d1, d2, d3, d4, d5] => { results := [.lit (.bool true)], args := [d1, d2, d3, d4, d5] }
  | _ => none }
def gadgetShortRow : OpenClaim := { program := "ytebaepkghbihkaa", sum := "63f6eaa1a82fddbc41b7cc56b0d5312e2be585f9fb13ccfdf27c6d7910d7c385", func := "plugtree/plugkeep.GadgetShort", spec := "gadgetShort", plainKeys := false, apart := false }
def GadgetShortSaid : Prop := gadgetShortRow.holds Try.pinned (OpenSpec.ofChange gadgetShortSpec)

/-- ITS FALSE NEIGHBOUR: 'it returns false'. Refute it at one input. -/
def gadgetShortWrong : ChangeSpec := { name := "gadgetShort", fn := fun _ => fun
  | [d1, d2, d3, d4, d5] => { results := [.lit (.bool false)], args := [d1, d2, d3, d4, d5] }
  | _ => none }
def GadgetShortWrongFalsely : Prop := gadgetShortRow.holds Try.pinned (OpenSpec.ofChange gadgetShortWrong)

/-- 'plugkeep.GadgetTells': WHATEVER THE INPUT: true; the input reads as it did. -/
def gadgetTellsSpec : ChangeSpec := { name := "gadgetTells", fn := fun _ => fun
  | [d1, d2, d3] => { results := [.lit (.bool true)], args := [d1, d2, d3] }
  | _ => none }
def gadgetTellsRow : OpenClaim := { program := "ytebaepkghbihkaa", sum := "63f6eaa1a82fddbc41b7cc56b0d5312e2be585f9fb13ccfdf27c6d7910d7c385", func := "plugtree/plugkeep.GadgetTells", spec := "gadgetTells", unfollowed := true, recurses := true, plainKeys := false, apart := false }
def GadgetTellsSaid : Prop := gadgetTellsRow.holds Try.pinned (OpenSpec.ofChange gadgetTellsSpec)

/-- ITS FALSE NEIGHBOUR: 'it returns false'. Refute it at one input. -/
def gadgetTellsWrong : ChangeSpec := { name := "gadgetTells", fn := fun _ => fun
  | [d1, d2, d3] => { results := [.lit (.bool false)], args := [d1, d2, d3] }
  | _ => none }
def GadgetTellsWrongFalsely : Prop := gadgetTellsRow.holds Try.pinned (OpenSpec.ofChange gadgetTellsWrong)

/-- 'plugkeep.GadgetPath': WHATEVER THE INPUT: true; the input reads as it did. -/
def gadgetPathSpec : ChangeSpec := { name := "gadgetPath", fn := fun _ => fun
  | [d1, d2] => { results := [.lit (.bool true)], args := [d1, d2] }
  | _ => none }
def gadgetPathRow : OpenClaim := { program := "ytebaepkghbihkaa", sum := "63f6eaa1a82fddbc41b7cc56b0d5312e2be585f9fb13ccfdf27c6d7910d7c385", func := "plugtree/plugkeep.GadgetPath", spec := "gadgetPath", plainKeys := false, apart := false }
def GadgetPathSaid : Prop := gadgetPathRow.holds Try.pinned (OpenSpec.ofChange gadgetPathSpec)

/-- ITS FALSE NEIGHBOUR: 'it returns false'. Refute it at one input. -/
def gadgetPathWrong : ChangeSpec := { name := "gadgetPath", fn := fun _ => fun
  | [d1, d2] => { results := [.lit (.bool false)], args := [d1, d2] }
  | _ => none }
def GadgetPathWrongFalsely : Prop := gadgetPathRow.holds Try.pinned (OpenSpec.ofChange gadgetPathWrong)

/- THE SECOND FORM. 'bulk': how many values and letters a reading holds, each counted each time it is reached (what is shared counts as often as it is met; a slice's spare places count too). A statement '..UptoSaid' is the law's where the arguments, and the package variables that the reading takes, are together of bulk at most 1048576: NARROWER than '..Said'. Prove '..Said' where nothing that the law and all that it calls make is longer than what came in: it says more and counts as full. Else prove '..UptoSaid'. A law counts once. -/
mutual
def uptoBulk {H : Type} : DataW H → Nat
  | .lit (.string bytes) => bytes.length + 1
  | .lit _ => 1
  | .nil => 1
  | .ptr d => uptoBulk d + 1
  | .slice elems spare => uptoBulkAll elems + uptoBulkAll spare + 1
  | .agg parts => uptoBulkAll parts + 1
  | .iface _ d => uptoBulk d + 1
  | .map entries => uptoBulkEntries entries + 1
  | .held _ => 1
def uptoBulkAll {H : Type} : List (DataW H) → Nat
  | [] => 0
  | d :: r => uptoBulk d + uptoBulkAll r
def uptoBulkEntries {H : Type} : List (Lit × DataW H) → Nat
  | [] => 0
  | x :: r => uptoBulkEntry x + uptoBulkEntries r
def uptoBulkEntry {H : Type} : Lit × DataW H → Nat
  | (.string bytes, d) => bytes.length + uptoBulk d + 1
  | (_, d) => uptoBulk d + 1
 end
def uptoSmall : (H : Type) → List (DataW H) → Bool := fun _ ds => decide (uptoBulkAll ds ≤ 1048576)
def OpenSpec.upto (s : _root_.Go.ChangeSpec) : _root_.Go.OpenSpec := { _root_.Go.OpenSpec.ofChange s with cond := some uptoSmall }

/-- 'pluglaw.GadgetChecks', WHERE WHAT IT READS IS OF BULK AT MOST 1048576: true; the input reads as it did. -/
def gadgetChecksUptoRow : OpenClaim := { program := "ytebaepkghbihkaa", sum := "63f6eaa1a82fddbc41b7cc56b0d5312e2be585f9fb13ccfdf27c6d7910d7c385", func := "plugtree/pluglaw.GadgetChecks", spec := "gadgetChecks", inPlace := ["internal/abi.NoEscape", "internal/bytealg.MakeNoZero"], plainKeys := false, apart := false, narrowed := true }
def GadgetChecksUptoSaid : Prop := gadgetChecksUptoRow.holds Try.pinned (OpenSpec.upto gadgetChecksSpec)

/-- 'pluglaw.GadgetSays', WHERE WHAT IT READS IS OF BULK AT MOST 1048576: true; the input reads as it did. -/
def gadgetSaysUptoRow : OpenClaim := { program := "ytebaepkghbihkaa", sum := "63f6eaa1a82fddbc41b7cc56b0d5312e2be585f9fb13ccfdf27c6d7910d7c385", func := "plugtree/pluglaw.GadgetSays", spec := "gadgetSays", inPlace := ["internal/abi.NoEscape", "internal/bytealg.MakeNoZero"], unfollowed := true, recurses := true, plainKeys := false, apart := false, narrowed := true }
def GadgetSaysUptoSaid : Prop := gadgetSaysUptoRow.holds Try.pinned (OpenSpec.upto gadgetSaysSpec)

/-- 'plugkeep.GadgetKeeps', WHERE WHAT IT READS IS OF BULK AT MOST 1048576: true; the input reads as it did. -/
def gadgetKeepsUptoRow : OpenClaim := { program := "ytebaepkghbihkaa", sum := "63f6eaa1a82fddbc41b7cc56b0d5312e2be585f9fb13ccfdf27c6d7910d7c385", func := "plugtree/plugkeep.GadgetKeeps", spec := "gadgetKeeps", plainKeys := false, apart := false, narrowed := true }
def GadgetKeepsUptoSaid : Prop := gadgetKeepsUptoRow.holds Try.pinned (OpenSpec.upto gadgetKeepsSpec)

/-- 'plugkeep.GadgetShort', WHERE WHAT IT READS IS OF BULK AT MOST 1048576: true; the input reads as it did. -/
def gadgetShortUptoRow : OpenClaim := { program := "ytebaepkghbihkaa", sum := "63f6eaa1a82fddbc41b7cc56b0d5312e2be585f9fb13ccfdf27c6d7910d7c385", func := "plugtree/plugkeep.GadgetShort", spec := "gadgetShort", plainKeys := false, apart := false, narrowed := true }
def GadgetShortUptoSaid : Prop := gadgetShortUptoRow.holds Try.pinned (OpenSpec.upto gadgetShortSpec)

/-- 'plugkeep.GadgetTells', WHERE WHAT IT READS IS OF BULK AT MOST 1048576: true; the input reads as it did. -/
def gadgetTellsUptoRow : OpenClaim := { program := "ytebaepkghbihkaa", sum := "63f6eaa1a82fddbc41b7cc56b0d5312e2be585f9fb13ccfdf27c6d7910d7c385", func := "plugtree/plugkeep.GadgetTells", spec := "gadgetTells", unfollowed := true, recurses := true, plainKeys := false, apart := false, narrowed := true }
def GadgetTellsUptoSaid : Prop := gadgetTellsUptoRow.holds Try.pinned (OpenSpec.upto gadgetTellsSpec)

/-- 'plugkeep.GadgetPath', WHERE WHAT IT READS IS OF BULK AT MOST 1048576: true; the input reads as it did. -/
def gadgetPathUptoRow : OpenClaim := { program := "ytebaepkghbihkaa", sum := "63f6eaa1a82fddbc41b7cc56b0d5312e2be585f9fb13ccfdf27c6d7910d7c385", func := "plugtree/plugkeep.GadgetPath", spec := "gadgetPath", plainKeys := false, apart := false, narrowed := true }
def GadgetPathUptoSaid : Prop := gadgetPathUptoRow.holds Try.pinned (OpenSpec.upto gadgetPathSpec)

end Rows
end Go.Proofs.Ytebaepkghbihkaa
