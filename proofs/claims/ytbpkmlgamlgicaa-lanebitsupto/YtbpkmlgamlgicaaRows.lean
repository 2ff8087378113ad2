/-
  No cell of these rows narrows 'for every input' (looked for: loops, veiled, ifaces, maps, wideKeys, modest, calm, conditions, laid).
  DERIVED. THE GIVEN ROWS OF THIS SEAT. 5 by the template 'for every input the law returns true; each argument reads behind the call as it read before'; 0 by the template 'total and deterministic' (their statements: YtbpkmlgamlgicaaTotals.lean).
  GIVEN WITH THE SEED: the statements are not yours to turn. If you find one false, say at which input.
  Laid BY PROGRAM, IN A SANDBOX (cutbox-rows.mjs): the forced cells as the released guide's own fill.sh prints them over the translation 4a7d9ce1fb41406f… (all of the seat's roots in one cut). By AI agents, Wed Nov 11 2026. No macro, syntax, notation, axiom, sorry.
-/
import Derived.Test.YtbpkmlgamlgicaaChecked
import GoSem.Claim
import GoSem.ClaimJoined
import GoSem.ClaimMapViews
import Derived.JoinedTies
import Derived.KernelRfl
namespace Go.Proofs.Ytbpkmlgamlgicaa
/- THE CELL 'sum', in the pinned program and in every row, IS THE sha256 OF THE DUMP (.gsa) THAT YtbpkmlgamlgicaaProg.lean LOADS. Nothing in Lean hashes anything: it is a label: what it is worth is what the hold of that sum in a sandbox is worth. -/
noncomputable def Try.pinned : Pinned := { name := "ytbpkmlgamlgicaa", sum := "4a7d9ce1fb41406f7e8cb204ffd4ede3169d76d3ae4483d9c8b2c4c64de4502f", checked := Try.checked }
namespace Rows
def none {H : Type} : Left H := { results := [], args := [] }

/-- 'pluglaw.Names': WHATEVER THE INPUT: true; the input reads as it did. -/
def namesSpec : ChangeSpec := { name := "names", fn := fun _ => fun
  | [] => { results := [.lit (.bool true)], args := [] }
  | _ => none }
def namesRow : OpenClaim := { program := "ytbpkmlgamlgicaa", sum := "4a7d9ce1fb41406f7e8cb204ffd4ede3169d76d3ae4483d9c8b2c4c64de4502f", func := "plugtree/pluglaw.Names", spec := "names", apart := false }
def NamesSaid : Prop := namesRow.holds Try.pinned (OpenSpec.ofChange namesSpec)

/-- ITS FALSE NEIGHBOUR: 'it returns false'. Refute it at one input. -/
def namesWrong : ChangeSpec := { name := "names", fn := fun _ => fun
  | [] => { results := [.lit (.bool false)], args := [] }
  | _ => none }
def NamesWrongFalsely : Prop := namesRow.holds Try.pinned (OpenSpec.ofChange namesWrong)

/-- 'pluglaw.LaneBits': WHATEVER THE INPUT: true; the input reads as it did. -/
def laneBitsSpec : ChangeSpec := { name := "laneBits", fn := fun _ => fun
  | [d1, d2] => { results := [.lit (.bool true)], args := [d1, d2] }
  | _ => none }
def laneBitsRow : OpenClaim := { program := "ytbpkmlgamlgicaa", sum := "4a7d9ce1fb41406f7e8cb204ffd4ede3169d76d3ae4483d9c8b2c4c64de4502f", func := "plugtree/pluglaw.LaneBits", spec := "laneBits", inPlace := ["internal/bytealg.IndexByteString"], apart := false }
def LaneBitsSaid : Prop := laneBitsRow.holds Try.pinned (OpenSpec.ofChange laneBitsSpec)

/-- ITS FALSE NEIGHBOUR: 'it returns false'. Refute it at one input. -/
def laneBitsWrong : ChangeSpec := { name := "laneBits", fn := fun _ => fun
  | [d1, d2] => { results := [.lit (.bool false)], args := [d1, d2] }
  | _ => none }
def LaneBitsWrongFalsely : Prop := laneBitsRow.holds Try.pinned (OpenSpec.ofChange laneBitsWrong)

/-- 'pluglaw.LaneTurns': WHATEVER THE INPUT: true; the input reads as it did. -/
def laneTurnsSpec : ChangeSpec := { name := "laneTurns", fn := fun _ => fun
  | [d1, d2, d3] => { results := [.lit (.bool true)], args := [d1, d2, d3] }
  | _ => none }
def laneTurnsRow : OpenClaim := { program := "ytbpkmlgamlgicaa", sum := "4a7d9ce1fb41406f7e8cb204ffd4ede3169d76d3ae4483d9c8b2c4c64de4502f", func := "plugtree/pluglaw.LaneTurns", spec := "laneTurns", inPlace := ["internal/bytealg.IndexByteString"], apart := false }
def LaneTurnsSaid : Prop := laneTurnsRow.holds Try.pinned (OpenSpec.ofChange laneTurnsSpec)

/-- ITS FALSE NEIGHBOUR: 'it returns false'. Refute it at one input. -/
def laneTurnsWrong : ChangeSpec := { name := "laneTurns", fn := fun _ => fun
  | [d1, d2, d3] => { results := [.lit (.bool false)], args := [d1, d2, d3] }
  | _ => none }
def LaneTurnsWrongFalsely : Prop := laneTurnsRow.holds Try.pinned (OpenSpec.ofChange laneTurnsWrong)

/-- 'plugkeep.LaneBack': WHATEVER THE INPUT: true; the input reads as it did. -/
def laneBackSpec : ChangeSpec := { name := "laneBack", fn := fun _ => fun
  | [d1, d2, d3] => { results := [.lit (.bool true)], args := [d1, d2, d3] }
  | _ => none }
def laneBackRow : OpenClaim := { program := "ytbpkmlgamlgicaa", sum := "4a7d9ce1fb41406f7e8cb204ffd4ede3169d76d3ae4483d9c8b2c4c64de4502f", func := "plugtree/plugkeep.LaneBack", spec := "laneBack", apart := false }
def LaneBackSaid : Prop := laneBackRow.holds Try.pinned (OpenSpec.ofChange laneBackSpec)

/-- ITS FALSE NEIGHBOUR: 'it returns false'. Refute it at one input. -/
def laneBackWrong : ChangeSpec := { name := "laneBack", fn := fun _ => fun
  | [d1, d2, d3] => { results := [.lit (.bool false)], args := [d1, d2, d3] }
  | _ => none }
def LaneBackWrongFalsely : Prop := laneBackRow.holds Try.pinned (OpenSpec.ofChange laneBackWrong)

/-- 'plugkeep.LaneOne': WHATEVER THE INPUT: true; the input reads as it did. -/
def laneOneSpec : ChangeSpec := { name := "laneOne", fn := fun _ => fun
  | [d1, d2, d3] => { results := [.lit (.bool true)], args := [d1, d2, d3] }
  | _ => none }
def laneOneRow : OpenClaim := { program := "ytbpkmlgamlgicaa", sum := "4a7d9ce1fb41406f7e8cb204ffd4ede3169d76d3ae4483d9c8b2c4c64de4502f", func := "plugtree/plugkeep.LaneOne", spec := "laneOne", apart := false }
def LaneOneSaid : Prop := laneOneRow.holds Try.pinned (OpenSpec.ofChange laneOneSpec)

/-- ITS FALSE NEIGHBOUR: 'it returns false'. Refute it at one input. -/
def laneOneWrong : ChangeSpec := { name := "laneOne", fn := fun _ => fun
  | [d1, d2, d3] => { results := [.lit (.bool false)], args := [d1, d2, d3] }
  | _ => none }
def LaneOneWrongFalsely : Prop := laneOneRow.holds Try.pinned (OpenSpec.ofChange laneOneWrong)

/- THE SECOND FORM. 'bulk': how many values and letters a reading holds, each counted each time it is reached (what is shared counts as often as it is met; a slice's spare places count too). A statement '..UptoSaid' is the law's where the arguments, and the package variables that the reading takes, are together of bulk at most 1048576: NARROWER than '..Said'. Prove '..Said' where nothing that the law and all that it calls make is longer than what came in: it says more and counts as full. Else prove '..UptoSaid'. A law counts once. -/
mutual
def uptoBulk {H : Type} : DataW H → Nat
  | .lit (.string bytes) => bytes.length + 1
  | .lit _ => 1
  | .nil => 1
  | .ptr d => uptoBulk d + 1
  | .slice elems spare => uptoBulkAll elems + uptoBulkAll spare + 1
  | .agg parts => uptoBulkAll parts + 1
  | .iface _ d => uptoBulk d + 1
  | .map entries => uptoBulkEntries entries + 1
  | .held _ => 1
def uptoBulkAll {H : Type} : List (DataW H) → Nat
  | [] => 0
  | d :: r => uptoBulk d + uptoBulkAll r
def uptoBulkEntries {H : Type} : List (Lit × DataW H) → Nat
  | [] => 0
  | x :: r => uptoBulkEntry x + uptoBulkEntries r
def uptoBulkEntry {H : Type} : Lit × DataW H → Nat
  | (.string bytes, d) => bytes.length + uptoBulk d + 1
  | (_, d) => uptoBulk d + 1
 end
def uptoSmall : (H : Type) → List (DataW H) → Bool := fun _ ds => decide (uptoBulkAll ds ≤ 1048576)
def OpenSpec.upto (s : _root_.Go.ChangeSpec) : _root_.Go.OpenSpec := { _root_.Go.OpenSpec.ofChange s with cond := some uptoSmall }

/-- 'pluglaw.Names', WHERE WHAT IT READS IS OF BULK AT MOST 1048576: true; the input reads as it did. -/
def namesUptoRow : OpenClaim := { program := "ytbpkmlgamlgicaa", sum := "4a7d9ce1fb41406f7e8cb204ffd4ede3169d76d3ae4483d9c8b2c4c64de4502f", func := "plugtree/pluglaw.Names", spec := "names", apart := false, narrowed := true }
def NamesUptoSaid : Prop := namesUptoRow.holds Try.pinned (OpenSpec.upto namesSpec)

/-- 'pluglaw.LaneBits', WHERE WHAT IT READS IS OF BULK AT MOST 1048576: true; the input reads as it did. -/
def laneBitsUptoRow : OpenClaim := { program := "ytbpkmlgamlgicaa", sum := "4a7d9ce1fb41406f7e8cb204ffd4ede3169d76d3ae4483d9c8b2c4c64de4502f", func := "plugtree/pluglaw.LaneBits", spec := "laneBits", inPlace := ["internal/bytealg.IndexByteString"], apart := false, narrowed := true }
def LaneBitsUptoSaid : Prop := laneBitsUptoRow.holds Try.pinned (OpenSpec.upto laneBitsSpec)

/-- 'pluglaw.LaneTurns', WHERE WHAT IT READS IS OF BULK AT MOST 1048576: true; the input reads as it did. -/
def laneTurnsUptoRow : OpenClaim := { program := "ytbpkmlgamlgicaa", sum := "4a7d9ce1fb41406f7e8cb204ffd4ede3169d76d3ae4483d9c8b2c4c64de4502f", func := "plugtree/pluglaw.LaneTurns", spec := "laneTurns", inPlace := ["internal/bytealg.IndexByteString"], apart := false, narrowed := true }
def LaneTurnsUptoSaid : Prop := laneTurnsUptoRow.holds Try.pinned (OpenSpec.upto laneTurnsSpec)

/-- 'plugkeep.LaneBack', WHERE WHAT IT READS IS OF BULK AT MOST 1048576: true; the input reads as it did. -/
def laneBackUptoRow : OpenClaim := { program := "ytbpkmlgamlgicaa", sum := "4a7d9ce1fb41406f7e8cb204ffd4ede3169d76d3ae4483d9c8b2c4c64de4502f", func := "plugtree/plugkeep.LaneBack", spec := "laneBack", apart := false, narrowed := true }
def LaneBackUptoSaid : Prop := laneBackUptoRow.holds Try.pinned (OpenSpec.upto laneBackSpec)

/-- 'plugkeep.LaneOne', WHERE WHAT IT READS IS OF BULK AT MOST 1048576: true; the input reads as it did. -/
def laneOneUptoRow : OpenClaim := { program := "ytbpkmlgamlgicaa", sum := "4a7d9ce1fb41406f7e8cb204ffd4ede3169d76d3ae4483d9c8b2c4c64de4502f", func := "plugtree/plugkeep.LaneOne", spec := "laneOne", apart := false, narrowed := true }
def LaneOneUptoSaid : Prop := laneOneUptoRow.holds Try.pinned (OpenSpec.upto laneOneSpec)

end Rows
end Go.Proofs.Ytbpkmlgamlgicaa
