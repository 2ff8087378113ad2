/-
  No cell of these rows narrows 'for every input' (looked for: loops, veiled, ifaces, maps, wideKeys, modest, calm, conditions, laid).
  DERIVED. THE GIVEN ROWS OF THIS SEAT. 6 by the template 'for every input the law returns true; each argument reads behind the call as it read before'; 0 by the template 'total and deterministic' (their statements: YtfhlbndilkidhaaTotals.lean).
  GIVEN WITH THE SEED: the statements are not yours to turn. If you find one false, say at which input.
  Laid BY PROGRAM, IN A SANDBOX (cutbox-rows.mjs): the forced cells as the released guide's own fill.sh prints them over the translation 68f33bff46fc5641… (all of the seat's roots in one cut). By AI agents, Wed Nov 11 2026. No macro, syntax, notation, axiom, sorry.
-/
import Derived.Test.YtfhlbndilkidhaaChecked
import GoSem.Claim
import GoSem.ClaimJoined
import GoSem.ClaimMapViews
import Derived.JoinedTies
import Derived.KernelRfl
namespace Go.Proofs.Ytfhlbndilkidhaa
/- THE CELL 'sum', in the pinned program and in every row, IS THE sha256 OF THE DUMP (.gsa) THAT YtfhlbndilkidhaaProg.lean LOADS. Nothing in Lean hashes anything: it is a label: what it is worth is what the hold of that sum in a sandbox is worth. -/
noncomputable def Try.pinned : Pinned := { name := "ytfhlbndilkidhaa", sum := "68f33bff46fc5641af6d2e3117ef360ef7927f766b50578cdbc89934a826f4ff", checked := Try.checked }
namespace Rows
def none {H : Type} : Left H := { results := [], args := [] }

/-- 'pluglaw.SlotsDo': WHATEVER THE INPUT: true; the input reads as it did. -/
def slotsDoSpec : ChangeSpec := { name := "slotsDo", fn := fun _ => fun
  | [d1, d2] => { results := [.lit (.bool true)], args := [d1, d2] }
  | _ => none }
def slotsDoRow : OpenClaim := { program := "ytfhlbndilkidhaa", sum := "68f33bff46fc5641af6d2e3117ef360ef7927f766b50578cdbc89934a826f4ff", func := "plugtree/pluglaw.SlotsDo", spec := "slotsDo", apart := false }
def SlotsDoSaid : Prop := slotsDoRow.holds Try.pinned (OpenSpec.ofChange slotsDoSpec)

/-- ITS FALSE NEIGHBOUR: 'it returns false'. Refute it at one input. -/
def slotsDoWrong : ChangeSpec := { name := "slotsDo", fn := fun _ => fun
  | [d1, d2] => { results := [.lit (.bool false)], args := [d1, d2] }
  | _ => none }
def SlotsDoWrongFalsely : Prop := slotsDoRow.holds Try.pinned (OpenSpec.ofChange slotsDoWrong)

/-- 'pluglaw.SlotsHalt': WHATEVER THE INPUT: true; the input reads as it did. -/
def slotsHaltSpec : ChangeSpec := { name := "slotsHalt", fn := fun _ => fun
  | [d1, d2, d3] => { results := [.lit (.bool true)], args := [d1, d2, d3] }
  | _ => none }
def slotsHaltRow : OpenClaim := { program := "ytfhlbndilkidhaa", sum := "68f33bff46fc5641af6d2e3117ef360ef7927f766b50578cdbc89934a826f4ff", func := "plugtree/pluglaw.SlotsHalt", spec := "slotsHalt", apart := false }
def SlotsHaltSaid : Prop := slotsHaltRow.holds Try.pinned (OpenSpec.ofChange slotsHaltSpec)

/-- ITS FALSE NEIGHBOUR: 'it returns false'. Refute it at one input. -/
def slotsHaltWrong : ChangeSpec := { name := "slotsHalt", fn := fun _ => fun
  | [d1, d2, d3] => { results := [.lit (.bool false)], args := [d1, d2, d3] }
  | _ => none }
def SlotsHaltWrongFalsely : Prop := slotsHaltRow.holds Try.pinned (OpenSpec.ofChange slotsHaltWrong)

/-- 'plugkeep.SlotsKeep': WHATEVER THE INPUT: true; the input reads as it did. -/
def slotsKeepSpec : ChangeSpec := { name := "slotsKeep", fn := fun _ => fun
  | [d1, d2] => { results := [.lit (.bool true)], args := [d1, d2] }
  | _ => none }
def slotsKeepRow : OpenClaim := { program := "ytfhlbndilkidhaa", sum := "68f33bff46fc5641af6d2e3117ef360ef7927f766b50578cdbc89934a826f4ff", func := "plugtree/plugkeep.SlotsKeep", spec := "slotsKeep", apart := false }
def SlotsKeepSaid : Prop := slotsKeepRow.holds Try.pinned (OpenSpec.ofChange slotsKeepSpec)

/-- ITS FALSE NEIGHBOUR: 'it returns false'. Refute it at one input. -/
def slotsKeepWrong : ChangeSpec := { name := "slotsKeep", fn := fun _ => fun
  | [d1, d2] => { results := [.lit (.bool false)], args := [d1, d2] }
  | _ => none }
def SlotsKeepWrongFalsely : Prop := slotsKeepRow.holds Try.pinned (OpenSpec.ofChange slotsKeepWrong)

/-- 'plugkeep.SlotsRight': WHATEVER THE INPUT: true; the input reads as it did. -/
def slotsRightSpec : ChangeSpec := { name := "slotsRight", fn := fun _ => fun
  | [d] => { results := [.lit (.bool true)], args := [d] }
  | _ => none }
def slotsRightRow : OpenClaim := { program := "ytfhlbndilkidhaa", sum := "68f33bff46fc5641af6d2e3117ef360ef7927f766b50578cdbc89934a826f4ff", func := "plugtree/plugkeep.SlotsRight", spec := "slotsRight", apart := false }
def SlotsRightSaid : Prop := slotsRightRow.holds Try.pinned (OpenSpec.ofChange slotsRightSpec)

/-- ITS FALSE NEIGHBOUR: 'it returns false'. Refute it at one input. -/
def slotsRightWrong : ChangeSpec := { name := "slotsRight", fn := fun _ => fun
  | [d] => { results := [.lit (.bool false)], args := [d] }
  | _ => none }
def SlotsRightWrongFalsely : Prop := slotsRightRow.holds Try.pinned (OpenSpec.ofChange slotsRightWrong)

/-- 'plugkeep.SlotsBack': WHATEVER THE INPUT: true; the input reads as it did. -/
def slotsBackSpec : ChangeSpec := { name := "slotsBack", fn := fun _ => fun
  | [d] => { results := [.lit (.bool true)], args := [d] }
  | _ => none }
def slotsBackRow : OpenClaim := { program := "ytfhlbndilkidhaa", sum := "68f33bff46fc5641af6d2e3117ef360ef7927f766b50578cdbc89934a826f4ff", func := "plugtree/plugkeep.SlotsBack", spec := "slotsBack", apart := false }
def SlotsBackSaid : Prop := slotsBackRow.holds Try.pinned (OpenSpec.ofChange slotsBackSpec)

/-- ITS FALSE NEIGHBOUR: 'it returns false'. Refute it at one input. -/
def slotsBackWrong : ChangeSpec := { name := "slotsBack", fn := fun _ => fun
  | [d] => { results := [.lit (.bool false)], args := [d] }
  | _ => none }
def SlotsBackWrongFalsely : Prop := slotsBackRow.holds Try.pinned (OpenSpec.ofChange slotsBackWrong)

/-- 'plugkeep.SlotsTwice': WHATEVER THE INPUT: true; the input reads as it did. -/
def slotsTwiceSpec : ChangeSpec := { name := "slotsTwice", fn := fun _ => fun
  | [d1, d2, d3, d4] => { results := [.lit (.bool true)], args := [d1, d2, d3, d4] }
  | _ => none }
def slotsTwiceRow : OpenClaim := { program := "ytfhlbndilkidhaa", sum := "68f33bff46fc5641af6d2e3117ef360ef7927f766b50578cdbc89934a826f4ff", func := "plugtree/plugkeep.SlotsTwice", spec := "slotsTwice", apart := false }
def SlotsTwiceSaid : Prop := slotsTwiceRow.holds Try.pinned (OpenSpec.ofChange slotsTwiceSpec)

/-- ITS FALSE NEIGHBOUR: 'it returns false'. Refute it at one input. -/
def slotsTwiceWrong : ChangeSpec := { name := "slotsTwice", fn := fun _ => fun
  | [d1, d2, d3, d4] => { results := [.lit (.bool false)], args := [d1, d2, d3, d4] }
  | _ => none }
def SlotsTwiceWrongFalsely : Prop := slotsTwiceRow.holds Try.pinned (OpenSpec.ofChange slotsTwiceWrong)

/- THE SECOND FORM. 'bulk': how many values and letters a reading holds, each counted each time it is reached (what is shared counts as often as it is met; a slice's spare places count too). A statement '..UptoSaid' is the law's where the arguments, and the package variables that the reading takes, are together of bulk at most 1048576: NARROWER than '..Said'. Prove '..Said' where nothing that the law and all that it calls make is longer than what came in: it says more and counts as full. Else prove '..UptoSaid'. A law counts once. -/
mutual
def uptoBulk {H : Type} : DataW H → Nat
  | .lit (.string bytes) => bytes.length + 1
  | .lit _ => 1
  | .nil => 1
  | .ptr d => uptoBulk d + 1
  | .slice elems spare => uptoBulkAll elems + uptoBulkAll spare + 1
  | .agg parts => uptoBulkAll parts + 1
  | .iface _ d => uptoBulk d + 1
  | .map entries => uptoBulkEntries entries + 1
  | .held _ => 1
def uptoBulkAll {H : Type} : List (DataW H) → Nat
  | [] => 0
  | d :: r => uptoBulk d + uptoBulkAll r
def uptoBulkEntries {H : Type} : List (Lit × DataW H) → Nat
  | [] => 0
  | x :: r => uptoBulkEntry x + uptoBulkEntries r
def uptoBulkEntry {H : Type} : Lit × DataW H → Nat
  | (.string bytes, d) => bytes.length + uptoBulk d + 1
  | (_, d) => uptoBulk d + 1
 end
def uptoSmall : (H : Type) → List (DataW H) → Bool := fun _ ds => decide (uptoBulkAll ds ≤ 1048576)
def OpenSpec.upto (s : _root_.Go.ChangeSpec) : _root_.Go.OpenSpec := { _root_.Go.OpenSpec.ofChange s with cond := some uptoSmall }

/-- 'pluglaw.SlotsDo', WHERE WHAT IT READS IS OF BULK AT MOST 1048576: true; the input reads as it did. -/
def slotsDoUptoRow : OpenClaim := { program := "ytfhlbndilkidhaa", sum := "68f33bff46fc5641af6d2e3117ef360ef7927f766b50578cdbc89934a826f4ff", func := "plugtree/pluglaw.SlotsDo", spec := "slotsDo", apart := false, narrowed := true }
def SlotsDoUptoSaid : Prop := slotsDoUptoRow.holds Try.pinned (OpenSpec.upto slotsDoSpec)

/-- 'pluglaw.SlotsHalt', WHERE WHAT IT READS IS OF BULK AT MOST 1048576: true; the input reads as it did. -/
def slotsHaltUptoRow : OpenClaim := { program := "ytfhlbndilkidhaa", sum := "68f33bff46fc5641af6d2e3117ef360ef7927f766b50578cdbc89934a826f4ff", func := "plugtree/pluglaw.SlotsHalt", spec := "slotsHalt", apart := false, narrowed := true }
def SlotsHaltUptoSaid : Prop := slotsHaltUptoRow.holds Try.pinned (OpenSpec.upto slotsHaltSpec)

/-- 'plugkeep.SlotsKeep', WHERE WHAT IT READS IS OF BULK AT MOST 1048576: true; the input reads as it did. -/
def slotsKeepUptoRow : OpenClaim := { program := "ytfhlbndilkidhaa", sum := "68f33bff46fc5641af6d2e3117ef360ef7927f766b50578cdbc89934a826f4ff", func := "plugtree/plugkeep.SlotsKeep", spec := "slotsKeep", apart := false, narrowed := true }
def SlotsKeepUptoSaid : Prop := slotsKeepUptoRow.holds Try.pinned (OpenSpec.upto slotsKeepSpec)

/-- 'plugkeep.SlotsRight', WHERE WHAT IT READS IS OF BULK AT MOST 1048576: true; the input reads as it did. -/
def slotsRightUptoRow : OpenClaim := { program := "ytfhlbndilkidhaa", sum := "68f33bff46fc5641af6d2e3117ef360ef7927f766b50578cdbc89934a826f4ff", func := "plugtree/plugkeep.SlotsRight", spec := "slotsRight", apart := false, narrowed := true }
def SlotsRightUptoSaid : Prop := slotsRightUptoRow.holds Try.pinned (OpenSpec.upto slotsRightSpec)

/-- 'plugkeep.SlotsBack', WHERE WHAT IT READS IS OF BULK AT MOST 1048576: true; the input reads as it did. -/
def slotsBackUptoRow : OpenClaim := { program := "ytfhlbndilkidhaa", sum := "68f33bff46fc5641af6d2e3117ef360ef7927f766b50578cdbc89934a826f4ff", func := "plugtree/plugkeep.SlotsBack", spec := "slotsBack", apart := false, narrowed := true }
def SlotsBackUptoSaid : Prop := slotsBackUptoRow.holds Try.pinned (OpenSpec.upto slotsBackSpec)

/-- 'plugkeep.SlotsTwice', WHERE WHAT IT READS IS OF BULK AT MOST 1048576: true; the input reads as it did. -/
def slotsTwiceUptoRow : OpenClaim := { program := "ytfhlbndilkidhaa", sum := "68f33bff46fc5641af6d2e3117ef360ef7927f766b50578cdbc89934a826f4ff", func := "plugtree/plugkeep.SlotsTwice", spec := "slotsTwice", apart := false, narrowed := true }
def SlotsTwiceUptoSaid : Prop := slotsTwiceUptoRow.holds Try.pinned (OpenSpec.upto slotsTwiceSpec)

end Rows
end Go.Proofs.Ytfhlbndilkidhaa
