/-
  No cell of these rows narrows 'for every input' (looked for: loops, veiled, ifaces, maps, wideKeys, modest, calm, conditions, laid).
  DERIVED. THE GIVEN ROWS OF THIS SEAT. 6 by the template 'for every input the law returns true; each argument reads behind the call as it read before'; 0 by the template 'total and deterministic' (their statements: YtjmbklbobofciaaTotals.lean).
  GIVEN WITH THE SEED: the statements are not yours to turn. If you find one false, say at which input.
  Laid BY PROGRAM, IN A SANDBOX (cutbox-rows.mjs): the forced cells as the released guide's own fill.sh prints them over the translation 30a06672648d9f0d… (all of the seat's roots in one cut). By AI agents, Wed Nov 11 2026. No macro, syntax, notation, axiom, sorry.
-/
import Derived.Test.YtjmbklbobofciaaChecked
import GoSem.Claim
import GoSem.ClaimJoined
import GoSem.ClaimMapViews
import Derived.JoinedTies
import Derived.KernelRfl
namespace Go.Proofs.Ytjmbklbobofciaa
/- THE CELL 'sum', in the pinned program and in every row, IS THE sha256 OF THE DUMP (.gsa) THAT YtjmbklbobofciaaProg.lean LOADS. Nothing in Lean hashes anything: it is a label: what it is worth is what the hold of that sum in a sandbox is worth. -/
noncomputable def Try.pinned : Pinned := { name := "ytjmbklbobofciaa", sum := "30a06672648d9f0d23b6b1e9561a569d92329daf118c877cd3b7b75f5aa6468c", checked := Try.checked }
namespace Rows
def none {H : Type} : Left H := { results := [], args := [] }

/-- 'pluglaw.ScsiMakes': WHATEVER THE INPUT: true; the input reads as it did. -/
def scsiMakesSpec : ChangeSpec := { name := "scsiMakes", fn := fun _ => fun
  | [d1, d2, d3, d4, d5] => { results := [.lit (.bool true)], args := [d1, d2, d3, d4, d5] }
  | _ => none }
def scsiMakesRow : OpenClaim := { program := "ytjmbklbobofciaa", sum := "30a06672648d9f0d23b6b1e9561a569d92329daf118c877cd3b7b75f5aa6468c", func := "plugtree/pluglaw.ScsiMakes", spec := "scsiMakes", inPlace := ["internal/abi.NoEscape", "internal/bytealg.MakeNoZero"], apart := false }
def ScsiMakesSaid : Prop := scsiMakesRow.holds Try.pinned (OpenSpec.ofChange scsiMakesSpec)

/-- ITS FALSE NEIGHBOUR: 'it returns false'. Refute it at one input. -/
def scsiMakesWrong : ChangeSpec := { name := "scsiMakes", fn := fun _ => fun
  | [d1, d2, d3, d4, d5] => { results := [.lit (.bool false)], args := [d1, d2, d3, d4, d5] }
  | _ => none }
def ScsiMakesWrongFalsely : Prop := scsiMakesRow.holds Try.pinned (OpenSpec.ofChange scsiMakesWrong)

/-- 'pluglaw.ScsiDoes': WHATEVER THE INPUT: true; the input reads as it did. -/
def scsiDoesSpec : ChangeSpec := { name := "scsiDoes", fn := fun _ => fun
  | [d1, d2, d3] => { results := [.lit (.bool true)], args := [d1, d2, d3] }
  | _ => none }
def scsiDoesRow : OpenClaim := { program := "ytjmbklbobofciaa", sum := "30a06672648d9f0d23b6b1e9561a569d92329daf118c877cd3b7b75f5aa6468c", func := "plugtree/pluglaw.ScsiDoes", spec := "scsiDoes", inPlace := ["internal/abi.NoEscape", "internal/bytealg.MakeNoZero"], apart := false }
def ScsiDoesSaid : Prop := scsiDoesRow.holds Try.pinned (OpenSpec.ofChange scsiDoesSpec)

/-- ITS FALSE NEIGHBOUR: 'it returns false'. Refute it at one input. -/
def scsiDoesWrong : ChangeSpec := { name := "scsiDoes", fn := fun _ => fun
  | [d1, d2, d3] => { results := [.lit (.bool false)], args := [d1, d2, d3] }
  | _ => none }
def ScsiDoesWrongFalsely : Prop := scsiDoesRow.holds Try.pinned (OpenSpec.ofChange scsiDoesWrong)

/-- 'plugkeep.ScsiBack': WHATEVER THE INPUT: true; the input reads as it did. -/
def scsiBackSpec : ChangeSpec := { name := "scsiBack", fn := fun _ => fun
  | [d1, d2, d3, d4] => { results := [.lit (.bool true)], args := [d1, d2, d3, d4] }
  | _ => none }
def scsiBackRow : OpenClaim := { program := "ytjmbklbobofciaa", sum := "30a06672648d9f0d23b6b1e9561a569d92329daf118c877cd3b7b75f5aa6468c", func := "plugtree/plugkeep.ScsiBack", spec := "scsiBack", inPlace := ["internal/abi.NoEscape", "internal/bytealg.MakeNoZero"], apart := false }
def ScsiBackSaid : Prop := scsiBackRow.holds Try.pinned (OpenSpec.ofChange scsiBackSpec)

/-- ITS FALSE NEIGHBOUR: 'it returns false'. Refute it at one input. -/
def scsiBackWrong : ChangeSpec := { name := "scsiBack", fn := fun _ => fun
  | [d1, d2, d3, d4] => { results := [.lit (.bool false)], args := [d1, d2, d3, d4] }
  | _ => none }
def ScsiBackWrongFalsely : Prop := scsiBackRow.holds Try.pinned (OpenSpec.ofChange scsiBackWrong)

/-- 'plugkeep.ScsiKeeps': WHATEVER THE INPUT: true; the input reads as it did. -/
def scsiKeepsSpec : ChangeSpec := { name := "scsiKeeps", fn := fun _ => fun
  | [d1, d2, d3] => { results := [.lit (.bool true)], args := [d1, d2, d3] }
  | _ => none }
def scsiKeepsRow : OpenClaim := { program := "ytjmbklbobofciaa", sum := "30a06672648d9f0d23b6b1e9561a569d92329daf118c877cd3b7b75f5aa6468c", func := "plugtree/plugkeep.ScsiKeeps", spec := "scsiKeeps", inPlace := ["internal/abi.NoEscape", "internal/bytealg.MakeNoZero"], apart := false }
def ScsiKeepsSaid : Prop := scsiKeepsRow.holds Try.pinned (OpenSpec.ofChange scsiKeepsSpec)

/-- ITS FALSE NEIGHBOUR: 'it returns false'. Refute it at one input. -/
def scsiKeepsWrong : ChangeSpec := { name := "scsiKeeps", fn := fun _ => fun
  | [d1, d2, d3] => { results := [.lit (.bool false)], args := [d1, d2, d3] }
  | _ => none }
def ScsiKeepsWrongFalsely : Prop := scsiKeepsRow.holds Try.pinned (OpenSpec.ofChange scsiKeepsWrong)

/-- 'plugkeep.ScsiSense': WHATEVER THE INPUT: true; the input reads as it did. -/
def scsiSenseSpec : ChangeSpec := { name := "scsiSense", fn := fun _ => fun
  | [d1, d2, d3] => { results := [.lit (.bool true)], args := [d1, d2, d3] }
  | _ => none }
def scsiSenseRow : OpenClaim := { program := "ytjmbklbobofciaa", sum := "30a06672648d9f0d23b6b1e9561a569d92329daf118c877cd3b7b75f5aa6468c", func := "plugtree/plugkeep.ScsiSense", spec := "scsiSense", inPlace := ["internal/abi.NoEscape", "internal/bytealg.MakeNoZero"], apart := false }
def ScsiSenseSaid : Prop := scsiSenseRow.holds Try.pinned (OpenSpec.ofChange scsiSenseSpec)

/-- ITS FALSE NEIGHBOUR: 'it returns false'. Refute it at one input. -/
def scsiSenseWrong : ChangeSpec := { name := "scsiSense", fn := fun _ => fun
  | [d1, d2, d3] => { results := [.lit (.bool false)], args := [d1, d2, d3] }
  | _ => none }
def ScsiSenseWrongFalsely : Prop := scsiSenseRow.holds Try.pinned (OpenSpec.ofChange scsiSenseWrong)

/-- 'plugkeep.ScsiTwo': WHATEVER THE INPUT: true; the input reads as it did. -/
def scsiTwoSpec : ChangeSpec := { name := "scsiTwo", fn := fun _ => fun
  | [d1, d2, d3, d4, d5, d6, d7] => { results := [.lit (.bool true)], args := [d1, d2, d3, d4, d5, d6, d7] }
  | _ => none }
def scsiTwoRow : OpenClaim := { program := "ytjmbklbobofciaa", sum := "30a06672648d9f0d23b6b1e9561a569d92329daf118c877cd3b7b75f5aa6468c", func := "plugtree/plugkeep.ScsiTwo", spec := "scsiTwo", inPlace := ["internal/abi.NoEscape", "internal/bytealg.MakeNoZero"], apart := false }
def ScsiTwoSaid : Prop := scsiTwoRow.holds Try.pinned (OpenSpec.ofChange scsiTwoSpec)

/-- ITS FALSE NEIGHBOUR: 'it returns false'. Refute it at one input. -/
def scsiTwoWrong : ChangeSpec := { name := "scsiTwo", fn := fun _ => fun
  | [d1, d2, d3, d4, d5, d6, d7] => { results := [.lit (.bool false)], args := [d1, d2, d3, d4, d5, d6, d7] }
  | _ => none }
def ScsiTwoWrongFalsely : Prop := scsiTwoRow.holds Try.pinned (OpenSpec.ofChange scsiTwoWrong)

/- THE SECOND FORM. 'bulk': how many values and letters a reading holds, each counted each time it is reached (what is shared counts as often as it is met; a slice's spare places count too). A statement '..UptoSaid' is the law's where the arguments, and the package variables that the reading takes, are together of bulk at most 1048576: NARROWER than '..Said'. Prove '..Said' where nothing that the law and all that it calls make is longer than what came in: it says more and counts as full. Else prove '..UptoSaid'. A law counts once. -/
mutual
def uptoBulk {H : Type} : DataW H → Nat
  | .lit (.string bytes) => bytes.length + 1
  | .lit _ => 1
  | .nil => 1
  | .ptr d => uptoBulk d + 1
  | .slice elems spare => uptoBulkAll elems + uptoBulkAll spare + 1
  | .agg parts => uptoBulkAll parts + 1
  | .iface _ d => uptoBulk d + 1
  | .map entries => uptoBulkEntries entries + 1
  | .held _ => 1
def uptoBulkAll {H : Type} : List (DataW H) → Nat
  | [] => 0
  | d :: r => uptoBulk d + uptoBulkAll r
def uptoBulkEntries {H : Type} : List (Lit × DataW H) → Nat
  | [] => 0
  | x :: r => uptoBulkEntry x + uptoBulkEntries r
def uptoBulkEntry {H : Type} : Lit × DataW H → Nat
  | (.string bytes, d) => bytes.length + uptoBulk d + 1
  | (_, d) => uptoBulk d + 1
 end
def uptoSmall : (H : Type) → List (DataW H) → Bool := fun _ ds => decide (uptoBulkAll ds ≤ 1048576)
def OpenSpec.upto (s : _root_.Go.ChangeSpec) : _root_.Go.OpenSpec := { _root_.Go.OpenSpec.ofChange s with cond := some uptoSmall }

/-- 'pluglaw.ScsiMakes', WHERE WHAT IT READS IS OF BULK AT MOST 1048576: true; the input reads as it did. -/
def scsiMakesUptoRow : OpenClaim := { program := "ytjmbklbobofciaa", sum := "30a06672648d9f0d23b6b1e9561a569d92329daf118c877cd3b7b75f5aa6468c", func := "plugtree/pluglaw.ScsiMakes", spec := "scsiMakes", inPlace := ["internal/abi.NoEscape", "internal/bytealg.MakeNoZero"], apart := false, narrowed := true }
def ScsiMakesUptoSaid : Prop := scsiMakesUptoRow.holds Try.pinned (OpenSpec.upto scsiMakesSpec)

/-- 'pluglaw.ScsiDoes', WHERE WHAT IT READS IS OF BULK AT MOST 1048576: true; the input reads as it did. -/
def scsiDoesUptoRow : OpenClaim := { program := "ytjmbklbobofciaa", sum := "30a06672648d9f0d23b6b1e9561a569d92329daf118c877cd3b7b75f5aa6468c", func := "plugtree/pluglaw.ScsiDoes", spec := "scsiDoes", inPlace := ["internal/abi.NoEscape", "internal/bytealg.MakeNoZero"], apart := false, narrowed := true }
def ScsiDoesUptoSaid : Prop := scsiDoesUptoRow.holds Try.pinned (OpenSpec.upto scsiDoesSpec)

/-- 'plugkeep.ScsiBack', WHERE WHAT IT READS IS OF BULK AT MOST 1048576: true; the input reads as it did. -/
def scsiBackUptoRow : OpenClaim := { program := "ytjmbklbobofciaa", sum := "30a06672648d9f0d23b6b1e9561a569d92329daf118c877cd3b7b75f5aa6468c", func := "plugtree/plugkeep.ScsiBack", spec := "scsiBack", inPlace := ["internal/abi.NoEscape", "internal/bytealg.MakeNoZero"], apart := false, narrowed := true }
def ScsiBackUptoSaid : Prop := scsiBackUptoRow.holds Try.pinned (OpenSpec.upto scsiBackSpec)

/-- 'plugkeep.ScsiKeeps', WHERE WHAT IT READS IS OF BULK AT MOST 1048576: true; the input reads as it did. -/
def scsiKeepsUptoRow : OpenClaim := { program := "ytjmbklbobofciaa", sum := "30a06672648d9f0d23b6b1e9561a569d92329daf118c877cd3b7b75f5aa6468c", func := "plugtree/plugkeep.ScsiKeeps", spec := "scsiKeeps", inPlace := ["internal/abi.NoEscape", "internal/bytealg.MakeNoZero"], apart := false, narrowed := true }
def ScsiKeepsUptoSaid : Prop := scsiKeepsUptoRow.holds Try.pinned (OpenSpec.upto scsiKeepsSpec)

/-- 'plugkeep.ScsiSense', WHERE WHAT IT READS IS OF BULK AT MOST 1048576: true; the input reads as it did. -/
def scsiSenseUptoRow : OpenClaim := { program := "ytjmbklbobofciaa", sum := "30a06672648d9f0d23b6b1e9561a569d92329daf118c877cd3b7b75f5aa6468c", func := "plugtree/plugkeep.ScsiSense", spec := "scsiSense", inPlace := ["internal/abi.NoEscape", "internal/bytealg.MakeNoZero"], apart := false, narrowed := true }
def ScsiSenseUptoSaid : Prop := scsiSenseUptoRow.holds Try.pinned (OpenSpec.upto scsiSenseSpec)

/-- 'plugkeep.ScsiTwo', WHERE WHAT IT READS IS OF BULK AT MOST 1048576: true; the input reads as it did. -/
def scsiTwoUptoRow : OpenClaim := { program := "ytjmbklbobofciaa", sum := "30a06672648d9f0d23b6b1e9561a569d92329daf118c877cd3b7b75f5aa6468c", func := "plugtree/plugkeep.ScsiTwo", spec := "scsiTwo", inPlace := ["internal/abi.NoEscape", "internal/bytealg.MakeNoZero"], apart := false, narrowed := true }
def ScsiTwoUptoSaid : Prop := scsiTwoUptoRow.holds Try.pinned (OpenSpec.upto scsiTwoSpec)

end Rows
end Go.Proofs.Ytjmbklbobofciaa
