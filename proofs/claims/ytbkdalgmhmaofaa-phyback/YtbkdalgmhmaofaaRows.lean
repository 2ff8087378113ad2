/-
  No cell of these rows narrows 'for every input' (looked for: loops, veiled, ifaces, maps, wideKeys, modest, calm, conditions, laid).
  DERIVED. THE GIVEN ROWS OF THIS SEAT. 4 by the template 'for every input the law returns true; each argument reads behind the call as it read before'; 0 by the template 'total and deterministic' (their statements: YtbkdalgmhmaofaaTotals.lean).
  GIVEN WITH THE SEED: the statements are not yours to turn. If you find one false, say at which input.
  Laid BY PROGRAM, IN A SANDBOX (cutbox-rows.mjs): the forced cells as the released guide's own fill.sh prints them over the translation 1e007dd84d9531dc… (all of the seat's roots in one cut). By AI agents, Wed Nov 11 2026. No macro, syntax, notation, axiom, sorry.
-/
import Derived.Test.YtbkdalgmhmaofaaChecked
import GoSem.Claim
import GoSem.ClaimJoined
import GoSem.ClaimMapViews
import Derived.JoinedTies
import Derived.KernelRfl
namespace Go.Proofs.Ytbkdalgmhmaofaa
/- THE CELL 'sum', in the pinned program and in every row, IS THE sha256 OF THE DUMP (.gsa) THAT YtbkdalgmhmaofaaProg.lean LOADS. Nothing in Lean hashes anything: it is a label: what it is worth is what the hold of that sum in a sandbox is worth. -/
noncomputable def Try.pinned : Pinned := { name := "ytbkdalgmhmaofaa", sum := "1e007dd84d9531dc5e71bcaec3a4fff6d0de0e682d4048c53bd29adabb245be5", checked := Try.checked }
namespace Rows
def none {H : Type} : Left H := { results := [], args := [] }

/-- 'pluglaw.PhyPieces': WHATEVER THE INPUT: true; the input reads as it did. -/
def phyPiecesSpec : ChangeSpec := { name := "phyPieces", fn := fun _ => fun
  | [d] => { results := [.lit (.bool true)], args := [d] }
  | _ => none }
def phyPiecesRow : OpenClaim := { program := "ytbkdalgmhmaofaa", sum := "1e007dd84d9531dc5e71bcaec3a4fff6d0de0e682d4048c53bd29adabb245be5", func := "plugtree/pluglaw.PhyPieces", spec := "phyPieces", inPlace := ["internal/bytealg.IndexByteString", "internal/bytealg.IndexString"], named := ["internal/bytealg.MaxLen"], apart := false }
def PhyPiecesSaid : Prop := phyPiecesRow.holds Try.pinned (OpenSpec.ofChange phyPiecesSpec)

/-- ITS FALSE NEIGHBOUR: 'it returns false'. Refute it at one input. -/
def phyPiecesWrong : ChangeSpec := { name := "phyPieces", fn := fun _ => fun
  | [d] => { results := [.lit (.bool false)], args := [d] }
  | _ => none }
def PhyPiecesWrongFalsely : Prop := phyPiecesRow.holds Try.pinned (OpenSpec.ofChange phyPiecesWrong)

/-- 'plugkeep.PhyOne': WHATEVER THE INPUT: true; the input reads as it did. -/
def phyOneSpec : ChangeSpec := { name := "phyOne", fn := fun _ => fun
  | [d1, d2] => { results := [.lit (.bool true)], args := [d1, d2] }
  | _ => none }
def phyOneRow : OpenClaim := { program := "ytbkdalgmhmaofaa", sum := "1e007dd84d9531dc5e71bcaec3a4fff6d0de0e682d4048c53bd29adabb245be5", func := "plugtree/plugkeep.PhyOne", spec := "phyOne", apart := false }
def PhyOneSaid : Prop := phyOneRow.holds Try.pinned (OpenSpec.ofChange phyOneSpec)

/-- ITS FALSE NEIGHBOUR: 'it returns false'. Refute it at one input. -/
def phyOneWrong : ChangeSpec := { name := "phyOne", fn := fun _ => fun
  | [d1, d2] => { results := [.lit (.bool false)], args := [d1, d2] }
  | _ => none }
def PhyOneWrongFalsely : Prop := phyOneRow.holds Try.pinned (OpenSpec.ofChange phyOneWrong)

/-- 'plugkeep.PhyCuts': WHATEVER THE INPUT: true; the input reads as it did. -/
def phyCutsSpec : ChangeSpec := { name := "phyCuts", fn := fun _ => fun
  | [d1, d2, d3] => { results := [.lit (.bool true)], args := [d1, d2, d3] }
  | _ => none }
def phyCutsRow : OpenClaim := { program := "ytbkdalgmhmaofaa", sum := "1e007dd84d9531dc5e71bcaec3a4fff6d0de0e682d4048c53bd29adabb245be5", func := "plugtree/plugkeep.PhyCuts", spec := "phyCuts", apart := false }
def PhyCutsSaid : Prop := phyCutsRow.holds Try.pinned (OpenSpec.ofChange phyCutsSpec)

/-- ITS FALSE NEIGHBOUR: 'it returns false'. Refute it at one input. -/
def phyCutsWrong : ChangeSpec := { name := "phyCuts", fn := fun _ => fun
  | [d1, d2, d3] => { results := [.lit (.bool false)], args := [d1, d2, d3] }
  | _ => none }
def PhyCutsWrongFalsely : Prop := phyCutsRow.holds Try.pinned (OpenSpec.ofChange phyCutsWrong)

/-- 'plugkeep.PhyBack': WHATEVER THE INPUT: true; the input reads as it did. -/
def phyBackSpec : ChangeSpec := { name := "phyBack", fn := fun _ => fun
  | [d1, d2] => { results := [.lit (.bool true)], args := [d1, d2] }
  | _ => none }
def phyBackRow : OpenClaim := { program := "ytbkdalgmhmaofaa", sum := "1e007dd84d9531dc5e71bcaec3a4fff6d0de0e682d4048c53bd29adabb245be5", func := "plugtree/plugkeep.PhyBack", spec := "phyBack", inPlace := ["internal/abi.NoEscape", "internal/bytealg.MakeNoZero"], apart := false }
def PhyBackSaid : Prop := phyBackRow.holds Try.pinned (OpenSpec.ofChange phyBackSpec)

/-- ITS FALSE NEIGHBOUR: 'it returns false'. Refute it at one input. -/
def phyBackWrong : ChangeSpec := { name := "phyBack", fn := fun _ => fun
  | [d1, d2] => { results := [.lit (.bool false)], args := [d1, d2] }
  | _ => none }
def PhyBackWrongFalsely : Prop := phyBackRow.holds Try.pinned (OpenSpec.ofChange phyBackWrong)

/- THE SECOND FORM. 'bulk': how many values and letters a reading holds, each counted each time it is reached (what is shared counts as often as it is met; a slice's spare places count too). A statement '..UptoSaid' is the law's where the arguments, and the package variables that the reading takes, are together of bulk at most 1048576: NARROWER than '..Said'. Prove '..Said' where nothing that the law and all that it calls make is longer than what came in: it says more and counts as full. Else prove '..UptoSaid'. A law counts once. -/
mutual
def uptoBulk {H : Type} : DataW H → Nat
  | .lit (.string bytes) => bytes.length + 1
  | .lit _ => 1
  | .nil => 1
  | .ptr d => uptoBulk d + 1
  | .slice elems spare => uptoBulkAll elems + uptoBulkAll spare + 1
  | .agg parts => uptoBulkAll parts + 1
  | .iface _ d => uptoBulk d + 1
  | .map entries => uptoBulkEntries entries + 1
  | .held _ => 1
def uptoBulkAll {H : Type} : List (DataW H) → Nat
  | [] => 0
  | d :: r => uptoBulk d + uptoBulkAll r
def uptoBulkEntries {H : Type} : List (Lit × DataW H) → Nat
  | [] => 0
  | x :: r => uptoBulkEntry x + uptoBulkEntries r
def uptoBulkEntry {H : Type} : Lit × DataW H → Nat
  | (.string bytes, d) => bytes.length + uptoBulk d + 1
  | (_, d) => uptoBulk d + 1
 end
def uptoSmall : (H : Type) → List (DataW H) → Bool := fun _ ds => decide (uptoBulkAll ds ≤ 1048576)
def OpenSpec.upto (s : _root_.Go.ChangeSpec) : _root_.Go.OpenSpec := { _root_.Go.OpenSpec.ofChange s with cond := some uptoSmall }

/-- 'pluglaw.PhyPieces', WHERE WHAT IT READS IS OF BULK AT MOST 1048576: true; the input reads as it did. -/
def phyPiecesUptoRow : OpenClaim := { program := "ytbkdalgmhmaofaa", sum := "1e007dd84d9531dc5e71bcaec3a4fff6d0de0e682d4048c53bd29adabb245be5", func := "plugtree/pluglaw.PhyPieces", spec := "phyPieces", inPlace := ["internal/bytealg.IndexByteString", "internal/bytealg.IndexString"], named := ["internal/bytealg.MaxLen"], apart := false, narrowed := true }
def PhyPiecesUptoSaid : Prop := phyPiecesUptoRow.holds Try.pinned (OpenSpec.upto phyPiecesSpec)

/-- 'plugkeep.PhyOne', WHERE WHAT IT READS IS OF BULK AT MOST 1048576: true; the input reads as it did. -/
def phyOneUptoRow : OpenClaim := { program := "ytbkdalgmhmaofaa", sum := "1e007dd84d9531dc5e71bcaec3a4fff6d0de0e682d4048c53bd29adabb245be5", func := "plugtree/plugkeep.PhyOne", spec := "phyOne", apart := false, narrowed := true }
def PhyOneUptoSaid : Prop := phyOneUptoRow.holds Try.pinned (OpenSpec.upto phyOneSpec)

/-- 'plugkeep.PhyCuts', WHERE WHAT IT READS IS OF BULK AT MOST 1048576: true; the input reads as it did. -/
def phyCutsUptoRow : OpenClaim := { program := "ytbkdalgmhmaofaa", sum := "1e007dd84d9531dc5e71bcaec3a4fff6d0de0e682d4048c53bd29adabb245be5", func := "plugtree/plugkeep.PhyCuts", spec := "phyCuts", apart := false, narrowed := true }
def PhyCutsUptoSaid : Prop := phyCutsUptoRow.holds Try.pinned (OpenSpec.upto phyCutsSpec)

/-- 'plugkeep.PhyBack', WHERE WHAT IT READS IS OF BULK AT MOST 1048576: true; the input reads as it did. -/
def phyBackUptoRow : OpenClaim := { program := "ytbkdalgmhmaofaa", sum := "1e007dd84d9531dc5e71bcaec3a4fff6d0de0e682d4048c53bd29adabb245be5", func := "plugtree/plugkeep.PhyBack", spec := "phyBack", inPlace := ["internal/abi.NoEscape", "internal/bytealg.MakeNoZero"], apart := false, narrowed := true }
def PhyBackUptoSaid : Prop := phyBackUptoRow.holds Try.pinned (OpenSpec.upto phyBackSpec)

end Rows
end Go.Proofs.Ytbkdalgmhmaofaa
