/-
  No cell of these rows narrows 'for every input' (looked for: loops, veiled, ifaces, maps, wideKeys, modest, calm, conditions, laid).
  DERIVED. THE GIVEN ROWS OF THIS SEAT. 3 by the template 'for every input the law returns true; each argument reads behind the call as it read before'; 0 by the template 'total and deterministic' (their statements: YtepifjimfcnggabTotals.lean).
  GIVEN WITH THE SEED: the statements are not yours to turn. If you find one false, say at which input.
  Laid BY PROGRAM, IN A SANDBOX (cutbox-rows.mjs): the forced cells as the released guide's own fill.sh prints them over the translation b5e4740ee3c38aa6… (all of the seat's roots in one cut). By AI agents, Wed Nov 11 2026. No macro, syntax, notation, axiom, sorry.
-/
import Derived.Test.YtepifjimfcnggabChecked
import GoSem.Claim
import GoSem.ClaimJoined
import GoSem.ClaimMapViews
import Derived.JoinedTies
import Derived.KernelRfl
namespace Go.Proofs.Ytepifjimfcnggab
/- THE CELL 'sum', in the pinned program and in every row, IS THE sha256 OF THE DUMP (.gsa) THAT YtepifjimfcnggabProg.lean LOADS. Nothing in Lean hashes anything: it is a label: what it is worth is what the hold of that sum in a sandbox is worth. -/
noncomputable def Try.pinned : Pinned := { name := "ytepifjimfcnggab", sum := "b5e4740ee3c38aa612a62f9d26e18400a7f01fba1c412b4a51c0605a9bac387f", checked := Try.checked }
namespace Rows
def none {H : Type} : Left H := { results := [], args := [] }

/-- 'plugkeep.PacketTwo': WHATEVER THE INPUT: true; the input reads as it did. -/
def packetTwoSpec : ChangeSpec := { name := "packetTwo", fn := fun _ => fun
  | [d1, d2, d3] => { results := [.lit (.bool true)], args := [d1, d2, d3] }
  | _ => none }
def packetTwoRow : OpenClaim := { program := "ytepifjimfcnggab", sum := "b5e4740ee3c38aa612a62f9d26e18400a7f01fba1c412b4a51c0605a9bac387f", func := "plugtree/plugkeep.PacketTwo", spec := "packetTwo", apart := false }
def PacketTwoSaid : Prop := packetTwoRow.holds Try.pinned (OpenSpec.ofChange packetTwoSpec)

/-- ITS FALSE NEIGHBOUR: 'it returns false'. Refute it at one input. -/
def packetTwoWrong : ChangeSpec := { name := "packetTwo", fn := fun _ => fun
  | [d1, d2, d3] => { results := [.lit (.bool false)], args := [d1, d2, d3] }
  | _ => none }
def PacketTwoWrongFalsely : Prop := packetTwoRow.holds Try.pinned (OpenSpec.ofChange packetTwoWrong)

/-- 'plugkeep.PacketOdd': WHATEVER THE INPUT: true; the input reads as it did. -/
def packetOddSpec : ChangeSpec := { name := "packetOdd", fn := fun _ => fun
  | [d1, d2] => { results := [.lit (.bool true)], args := [d1, d2] }
  | _ => none }
def packetOddRow : OpenClaim := { program := "ytepifjimfcnggab", sum := "b5e4740ee3c38aa612a62f9d26e18400a7f01fba1c412b4a51c0605a9bac387f", func := "plugtree/plugkeep.PacketOdd", spec := "packetOdd", apart := false }
def PacketOddSaid : Prop := packetOddRow.holds Try.pinned (OpenSpec.ofChange packetOddSpec)

/-- ITS FALSE NEIGHBOUR: 'it returns false'. Refute it at one input. -/
def packetOddWrong : ChangeSpec := { name := "packetOdd", fn := fun _ => fun
  | [d1, d2] => { results := [.lit (.bool false)], args := [d1, d2] }
  | _ => none }
def PacketOddWrongFalsely : Prop := packetOddRow.holds Try.pinned (OpenSpec.ofChange packetOddWrong)

/-- 'plugkeep.PacketBurst': WHATEVER THE INPUT: true; the input reads as it did. -/
def packetBurstSpec : ChangeSpec := { name := "packetBurst", fn := fun _ => fun
  | [d1, d2, d3] => { results := [.lit (.bool true)], args := [d1, d2, d3] }
  | _ => none }
def packetBurstRow : OpenClaim := { program := "ytepifjimfcnggab", sum := "b5e4740ee3c38aa612a62f9d26e18400a7f01fba1c412b4a51c0605a9bac387f", func := "plugtree/plugkeep.PacketBurst", spec := "packetBurst", apart := false }
def PacketBurstSaid : Prop := packetBurstRow.holds Try.pinned (OpenSpec.ofChange packetBurstSpec)

/-- ITS FALSE NEIGHBOUR: 'it returns false'. Refute it at one input. -/
def packetBurstWrong : ChangeSpec := { name := "packetBurst", fn := fun _ => fun
  | [d1, d2, d3] => { results := [.lit (.bool false)], args := [d1, d2, d3] }
  | _ => none }
def PacketBurstWrongFalsely : Prop := packetBurstRow.holds Try.pinned (OpenSpec.ofChange packetBurstWrong)

/- THE SECOND FORM. 'bulk': how many values and letters a reading holds, each counted each time it is reached (what is shared counts as often as it is met; a slice's spare places count too). A statement '..UptoSaid' is the law's where the arguments, and the package variables that the reading takes, are together of bulk at most 1048576: NARROWER than '..Said'. Prove '..Said' where nothing that the law and all that it calls make is longer than what came in: it says more and counts as full. Else prove '..UptoSaid'. A law counts once. -/
mutual
def uptoBulk {H : Type} : DataW H → Nat
  | .lit (.string bytes) => bytes.length + 1
  | .lit _ => 1
  | .nil => 1
  | .ptr d => uptoBulk d + 1
  | .slice elems spare => uptoBulkAll elems + uptoBulkAll spare + 1
  | .agg parts => uptoBulkAll parts + 1
  | .iface _ d => uptoBulk d + 1
  | .map entries => uptoBulkEntries entries + 1
  | .held _ => 1
def uptoBulkAll {H : Type} : List (DataW H) → Nat
  | [] => 0
  | d :: r => uptoBulk d + uptoBulkAll r
def uptoBulkEntries {H : Type} : List (Lit × DataW H) → Nat
  | [] => 0
  | x :: r => uptoBulkEntry x + uptoBulkEntries r
def uptoBulkEntry {H : Type} : Lit × DataW H → Nat
  | (.string bytes, d) => bytes.length + uptoBulk d + 1
  | (_, d) => uptoBulk d + 1
 end
def uptoSmall : (H : Type) → List (DataW H) → Bool := fun _ ds => decide (uptoBulkAll ds ≤ 1048576)
def OpenSpec.upto (s : _root_.Go.ChangeSpec) : _root_.Go.OpenSpec := { _root_.Go.OpenSpec.ofChange s with cond := some uptoSmall }

/-- 'plugkeep.PacketTwo', WHERE WHAT IT READS IS OF BULK AT MOST 1048576: true; the input reads as it did. -/
def packetTwoUptoRow : OpenClaim := { program := "ytepifjimfcnggab", sum := "b5e4740ee3c38aa612a62f9d26e18400a7f01fba1c412b4a51c0605a9bac387f", func := "plugtree/plugkeep.PacketTwo", spec := "packetTwo", apart := false, narrowed := true }
def PacketTwoUptoSaid : Prop := packetTwoUptoRow.holds Try.pinned (OpenSpec.upto packetTwoSpec)

/-- 'plugkeep.PacketOdd', WHERE WHAT IT READS IS OF BULK AT MOST 1048576: true; the input reads as it did. -/
def packetOddUptoRow : OpenClaim := { program := "ytepifjimfcnggab", sum := "b5e4740ee3c38aa612a62f9d26e18400a7f01fba1c412b4a51c0605a9bac387f", func := "plugtree/plugkeep.PacketOdd", spec := "packetOdd", apart := false, narrowed := true }
def PacketOddUptoSaid : Prop := packetOddUptoRow.holds Try.pinned (OpenSpec.upto packetOddSpec)

/-- 'plugkeep.PacketBurst', WHERE WHAT IT READS IS OF BULK AT MOST 1048576: true; the input reads as it did. -/
def packetBurstUptoRow : OpenClaim := { program := "ytepifjimfcnggab", sum := "b5e4740ee3c38aa612a62f9d26e18400a7f01fba1c412b4a51c0605a9bac387f", func := "plugtree/plugkeep.PacketBurst", spec := "packetBurst", apart := false, narrowed := true }
def PacketBurstUptoSaid : Prop := packetBurstUptoRow.holds Try.pinned (OpenSpec.upto packetBurstSpec)

end Rows
end Go.Proofs.Ytepifjimfcnggab
