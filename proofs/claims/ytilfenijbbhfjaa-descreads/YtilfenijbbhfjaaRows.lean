/-
  No cell of these rows narrows 'for every input' (looked for: loops, veiled, ifaces, maps, wideKeys, modest, calm, conditions, laid).
  DERIVED. THE GIVEN ROWS OF THIS SEAT. 6 by the template 'for every input the law returns true; each argument reads behind the call as it read before'; 0 by the template 'total and deterministic' (their statements: YtilfenijbbhfjaaTotals.lean).
  GIVEN WITH THE SEED: the statements are not yours to turn. If you find one false, say at which input.
  Laid BY PROGRAM, IN A SANDBOX (cutbox-rows.mjs): the forced cells as the released guide's own fill.sh prints them over the translation fb2bd17eb5a66f28… (all of the seat's roots in one cut). By AI agents, Wed Nov 11 2026. No macro, syntax, notation, axiom, sorry.
-/
import Derived.Test.YtilfenijbbhfjaaChecked
import GoSem.Claim
import GoSem.ClaimJoined
import GoSem.ClaimMapViews
import Derived.JoinedTies
import Derived.KernelRfl
namespace Go.Proofs.Ytilfenijbbhfjaa
/- THE CELL 'sum', in the pinned program and in every row, IS THE sha256 OF THE DUMP (.gsa) THAT YtilfenijbbhfjaaProg.lean LOADS. Nothing in Lean hashes anything: it is a label: what it is worth is what the hold of that sum in a sandbox is worth. -/
noncomputable def Try.pinned : Pinned := { name := "ytilfenijbbhfjaa", sum := "fb2bd17eb5a66f2817419a0c7f7e877ea8310ed215aaf4d996dd32ebd64ff725", checked := Try.checked }
namespace Rows
def none {H : Type} : Left H := { results := [], args := [] }

/-- 'pluglaw.DescSplits': WHATEVER THE INPUT: true; the input reads as it did. -/
def descSplitsSpec : ChangeSpec := { name := "descSplits", fn := fun _ => fun
  | [d] => { results := [.lit (.bool true)], args := [d] }
  | _ => none }
def descSplitsRow : OpenClaim := { program := "ytilfenijbbhfjaa", sum := "fb2bd17eb5a66f2817419a0c7f7e877ea8310ed215aaf4d996dd32ebd64ff725", func := "plugtree/pluglaw.DescSplits", spec := "descSplits", plainKeys := false, apart := false }
def DescSplitsSaid : Prop := descSplitsRow.holds Try.pinned (OpenSpec.ofChange descSplitsSpec)

/-- ITS FALSE NEIGHBOUR: 'it returns false'. Refute it at one input. -/
def descSplitsWrong : ChangeSpec := { name := "descSplits", fn := fun _ => fun
  | [d] => { results := [.lit (.bool false)], args := [d] }
  | _ => none }
def DescSplitsWrongFalsely : Prop := descSplitsRow.holds Try.pinned (OpenSpec.ofChange descSplitsWrong)

/-- 'pluglaw.DescDevices': WHATEVER THE INPUT: true; the input reads as it did. -/
def descDevicesSpec : ChangeSpec := { name := "descDevices", fn := fun _ => fun
  | [d1, d2] => { results := [.lit (.bool true)], args := [d1, d2] }
  | _ => none }
def descDevicesRow : OpenClaim := { program := "ytilfenijbbhfjaa", sum := "fb2bd17eb5a66f2817419a0c7f7e877ea8310ed215aaf4d996dd32ebd64ff725", func := "plugtree/pluglaw.DescDevices", spec := "descDevices", inPlace := ["internal/bytealg.IndexByteString"], plainKeys := false, apart := false }
def DescDevicesSaid : Prop := descDevicesRow.holds Try.pinned (OpenSpec.ofChange descDevicesSpec)

/-- ITS FALSE NEIGHBOUR: 'it returns false'. Refute it at one input. -/
def descDevicesWrong : ChangeSpec := { name := "descDevices", fn := fun _ => fun
  | [d1, d2] => { results := [.lit (.bool false)], args := [d1, d2] }
  | _ => none }
def DescDevicesWrongFalsely : Prop := descDevicesRow.holds Try.pinned (OpenSpec.ofChange descDevicesWrong)

/-- 'pluglaw.DescWrites': WHATEVER THE INPUT: true; the input reads as it did. -/
def descWritesSpec : ChangeSpec := { name := "descWrites", fn := fun _ => fun
  | [d] => { results := [.lit (.bool true)], args := [d] }
  | _ => none }
def descWritesRow : OpenClaim := { program := "ytilfenijbbhfjaa", sum := "fb2bd17eb5a66f2817419a0c7f7e877ea8310ed215aaf4d996dd32ebd64ff725", func := "plugtree/pluglaw.DescWrites", spec := "descWrites", inPlace := ["internal/abi.NoEscape", "internal/bytealg.MakeNoZero"], plainKeys := false, apart := false }
def DescWritesSaid : Prop := descWritesRow.holds Try.pinned (OpenSpec.ofChange descWritesSpec)

/-- ITS FALSE NEIGHBOUR: 'it returns false'. Refute it at one input. -/
def descWritesWrong : ChangeSpec := { name := "descWrites", fn := fun _ => fun
  | [d] => { results := [.lit (.bool false)], args := [d] }
  | _ => none }
def DescWritesWrongFalsely : Prop := descWritesRow.holds Try.pinned (OpenSpec.ofChange descWritesWrong)

/-- 'pluglaw.DescReads': WHATEVER THE INPUT: true; the input reads as it did. -/
def descReadsSpec : ChangeSpec := { name := "descReads", fn := fun _ => fun
  | [d] => { results := [.lit (.bool true)], args := [d] }
  | _ => none }
def descReadsRow : OpenClaim := { program := "ytilfenijbbhfjaa", sum := "fb2bd17eb5a66f2817419a0c7f7e877ea8310ed215aaf4d996dd32ebd64ff725", func := "plugtree/pluglaw.DescReads", spec := "descReads", inPlace := ["internal/abi.NoEscape", "internal/bytealg.MakeNoZero"], unfollowed := true, recurses := true, plainKeys := false, apart := false }
def DescReadsSaid : Prop := descReadsRow.holds Try.pinned (OpenSpec.ofChange descReadsSpec)

/-- ITS FALSE NEIGHBOUR: 'it returns false'. Refute it at one input. -/
def descReadsWrong : ChangeSpec := { name := "descReads", fn := fun _ => fun
  | [d] => { results := [.lit (.bool false)], args := [d] }
  | _ => none }
def DescReadsWrongFalsely : Prop := descReadsRow.holds Try.pinned (OpenSpec.ofChange descReadsWrong)

/-- 'pluglaw.DescTexts': WHATEVER THE INPUT: true; the input reads as it did. -/
def descTextsSpec : ChangeSpec := { name := "descTexts", fn := fun _ => fun
  | [d1, d2] => { results := [.lit (.bool true)], args := [d1, d2] }
  | _ => none }
def descTextsRow : OpenClaim := { program := "ytilfenijbbhfjaa", sum := "fb2bd17eb5a66f2817419a0c7f7e877ea8310ed215aaf4d996dd32ebd64ff725", func := "plugtree/pluglaw.DescTexts", spec := "descTexts", plainKeys := false, apart := false }
def DescTextsSaid : Prop := descTextsRow.holds Try.pinned (OpenSpec.ofChange descTextsSpec)

/-- ITS FALSE NEIGHBOUR: 'it returns false'. Refute it at one input. -/
def descTextsWrong : ChangeSpec := { name := "descTexts", fn := fun _ => fun
  | [d1, d2] => { results := [.lit (.bool false)], args := [d1, d2] }
  | _ => none }
def DescTextsWrongFalsely : Prop := descTextsRow.holds Try.pinned (OpenSpec.ofChange descTextsWrong)

/-- 'plugkeep.DescPieces': WHATEVER THE INPUT: true; the input reads as it did. -/
def descPiecesSpec : ChangeSpec := { name := "descPieces", fn := fun _ => fun
  | [d] => { results := [.lit (.bool true)], args := [d] }
  | _ => none }
def descPiecesRow : OpenClaim := { program := "ytilfenijbbhfjaa", sum := "fb2bd17eb5a66f2817419a0c7f7e877ea8310ed215aaf4d996dd32ebd64ff725", func := "plugtree/plugkeep.DescPieces", spec := "descPieces", inPlace := ["internal/abi.NoEscape", "internal/bytealg.MakeNoZero"], plainKeys := false, apart := false }
def DescPiecesSaid : Prop := descPiecesRow.holds Try.pinned (OpenSpec.ofChange descPiecesSpec)

/-- ITS FALSE NEIGHBOUR: 'it returns false'. Refute it at one input. -/
def descPiecesWrong : ChangeSpec := { name := "descPieces", fn := fun _ => fun
  | [d] => { results := [.lit (.bool false)], args := [d] }
  | _ => none }
def DescPiecesWrongFalsely : Prop := descPiecesRow.holds Try.pinned (OpenSpec.ofChange descPiecesWrong)

/- THE SECOND FORM. 'bulk': how many values and letters a reading holds, each counted each time it is reached (what is shared counts as often as it is met; a slice's spare places count too). A statement '..UptoSaid' is the law's where the arguments, and the package variables that the reading takes, are together of bulk at most 1048576: NARROWER than '..Said'. Prove '..Said' where nothing that the law and all that it calls make is longer than what came in: it says more and counts as full. Else prove '..UptoSaid'. A law counts once. -/
mutual
def uptoBulk {H : Type} : DataW H → Nat
  | .lit (.string bytes) => bytes.length + 1
  | .lit _ => 1
  | .nil => 1
  | .ptr d => uptoBulk d + 1
  | .slice elems spare => uptoBulkAll elems + uptoBulkAll spare + 1
  | .agg parts => uptoBulkAll parts + 1
  | .iface _ d => uptoBulk d + 1
  | .map entries => uptoBulkEntries entries + 1
  | .held _ => 1
def uptoBulkAll {H : Type} : List (DataW H) → Nat
  | [] => 0
  | d :: r => uptoBulk d + uptoBulkAll r
def uptoBulkEntries {H : Type} : List (Lit × DataW H) → Nat
  | [] => 0
  | x :: r => uptoBulkEntry x + uptoBulkEntries r
def uptoBulkEntry {H : Type} : Lit × DataW H → Nat
  | (.string bytes, d) => bytes.length + uptoBulk d + 1
  | (_, d) => uptoBulk d + 1
 end
def uptoSmall : (H : Type) → List (DataW H) → Bool := fun _ ds => decide (uptoBulkAll ds ≤ 1048576)
def OpenSpec.upto (s : _root_.Go.ChangeSpec) : _root_.Go.OpenSpec := { _root_.Go.OpenSpec.ofChange s with cond := some uptoSmall }

/-- 'pluglaw.DescSplits', WHERE WHAT IT READS IS OF BULK AT MOST 1048576: true; the input reads as it did. -/
def descSplitsUptoRow : OpenClaim := { program := "ytilfenijbbhfjaa", sum := "fb2bd17eb5a66f2817419a0c7f7e877ea8310ed215aaf4d996dd32ebd64ff725", func := "plugtree/pluglaw.DescSplits", spec := "descSplits", plainKeys := false, apart := false, narrowed := true }
def DescSplitsUptoSaid : Prop := descSplitsUptoRow.holds Try.pinned (OpenSpec.upto descSplitsSpec)

/-- 'pluglaw.DescDevices', WHERE WHAT IT READS IS OF BULK AT MOST 1048576: true; the input reads as it did. -/
def descDevicesUptoRow : OpenClaim := { program := "ytilfenijbbhfjaa", sum := "fb2bd17eb5a66f2817419a0c7f7e877ea8310ed215aaf4d996dd32ebd64ff725", func := "plugtree/pluglaw.DescDevices", spec := "descDevices", inPlace := ["internal/bytealg.IndexByteString"], plainKeys := false, apart := false, narrowed := true }
def DescDevicesUptoSaid : Prop := descDevicesUptoRow.holds Try.pinned (OpenSpec.upto descDevicesSpec)

/-- 'pluglaw.DescWrites', WHERE WHAT IT READS IS OF BULK AT MOST 1048576: true; the input reads as it did. -/
def descWritesUptoRow : OpenClaim := { program := "ytilfenijbbhfjaa", sum := "fb2bd17eb5a66f2817419a0c7f7e877ea8310ed215aaf4d996dd32ebd64ff725", func := "plugtree/pluglaw.DescWrites", spec := "descWrites", inPlace := ["internal/abi.NoEscape", "internal/bytealg.MakeNoZero"], plainKeys := false, apart := false, narrowed := true }
def DescWritesUptoSaid : Prop := descWritesUptoRow.holds Try.pinned (OpenSpec.upto descWritesSpec)

/-- 'pluglaw.DescReads', WHERE WHAT IT READS IS OF BULK AT MOST 1048576: true; the input reads as it did. -/
def descReadsUptoRow : OpenClaim := { program := "ytilfenijbbhfjaa", sum := "fb2bd17eb5a66f2817419a0c7f7e877ea8310ed215aaf4d996dd32ebd64ff725", func := "plugtree/pluglaw.DescReads", spec := "descReads", inPlace := ["internal/abi.NoEscape", "internal/bytealg.MakeNoZero"], unfollowed := true, recurses := true, plainKeys := false, apart := false, narrowed := true }
def DescReadsUptoSaid : Prop := descReadsUptoRow.holds Try.pinned (OpenSpec.upto descReadsSpec)

/-- 'pluglaw.DescTexts', WHERE WHAT IT READS IS OF BULK AT MOST 1048576: true; the input reads as it did. -/
def descTextsUptoRow : OpenClaim := { program := "ytilfenijbbhfjaa", sum := "fb2bd17eb5a66f2817419a0c7f7e877ea8310ed215aaf4d996dd32ebd64ff725", func := "plugtree/pluglaw.DescTexts", spec := "descTexts", plainKeys := false, apart := false, narrowed := true }
def DescTextsUptoSaid : Prop := descTextsUptoRow.holds Try.pinned (OpenSpec.upto descTextsSpec)

/-- 'plugkeep.DescPieces', WHERE WHAT IT READS IS OF BULK AT MOST 1048576: true; the input reads as it did. -/
def descPiecesUptoRow : OpenClaim := { program := "ytilfenijbbhfjaa", sum := "fb2bd17eb5a66f2817419a0c7f7e877ea8310ed215aaf4d996dd32ebd64ff725", func := "plugtree/plugkeep.DescPieces", spec := "descPieces", inPlace := ["internal/abi.NoEscape", "internal/bytealg.MakeNoZero"], plainKeys := false, apart := false, narrowed := true }
def DescPiecesUptoSaid : Prop := descPiecesUptoRow.holds Try.pinned (OpenSpec.upto descPiecesSpec)

end Rows
end Go.Proofs.Ytilfenijbbhfjaa
