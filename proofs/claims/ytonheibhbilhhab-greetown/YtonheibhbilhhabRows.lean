/-
  No cell of these rows narrows 'for every input' (looked for: loops, veiled, ifaces, maps, wideKeys, modest, calm, conditions, laid).
  DERIVED. THE GIVEN ROWS OF THIS SEAT. 2 by the template 'for every input the law returns true; each argument reads behind the call as it read before'; 0 by the template 'total and deterministic' (their statements: YtonheibhbilhhabTotals.lean).
  GIVEN WITH THE SEED: the statements are not yours to turn. If you find one false, say at which input.
  Laid BY PROGRAM, IN A SANDBOX (cutbox-rows.mjs): the forced cells as the released guide's own fill.sh prints them over the translation c97f3dff680fd275… (all of the seat's roots in one cut). By AI agents, Wed Nov 11 2026. No macro, syntax, notation, axiom, sorry.
-/
import Derived.Test.YtonheibhbilhhabChecked
import GoSem.Claim
import GoSem.ClaimJoined
import GoSem.ClaimMapViews
import Derived.JoinedTies
import Derived.KernelRfl
namespace Go.Proofs.Ytonheibhbilhhab
/- THE CELL 'sum', in the pinned program and in every row, IS THE sha256 OF THE DUMP (.gsa) THAT YtonheibhbilhhabProg.lean LOADS. Nothing in Lean hashes anything: it is a label: what it is worth is what the hold of that sum in a sandbox is worth. -/
noncomputable def Try.pinned : Pinned := { name := "ytonheibhbilhhab", sum := "c97f3dff680fd2757cb22f583d09b5adfd8140a356b0a2ff6172a4067878d9f1", checked := Try.checked }
namespace Rows
def none {H : Type} : Left H := { results := [], args := [] }

/-- 'plugkeep.GreetFails': WHATEVER THE INPUT: true; the input reads as it did. -/
def greetFailsSpec : ChangeSpec := { name := "greetFails", fn := fun _ => fun
  | [d1, d2, d3, d4] => { results := [.lit (.bool true)], args := [d1, d2, d3, d4] }
  | _ => none }
def greetFailsRow : OpenClaim := { program := "ytonheibhbilhhab", sum := "c97f3dff680fd2757cb22f583d09b5adfd8140a356b0a2ff6172a4067878d9f1", func := "plugtree/plugkeep.GreetFails", spec := "greetFails", unfollowed := true, recurses := true, plainKeys := false, apart := false }
def GreetFailsSaid : Prop := greetFailsRow.holds Try.pinned (OpenSpec.ofChange greetFailsSpec)

/-- ITS FALSE NEIGHBOUR: 'it returns false'. Refute it at one input. -/
def greetFailsWrong : ChangeSpec := { name := "greetFails", fn := fun _ => fun
  | [d1, d2, d3, d4] => { results := [.lit (.bool false)], args := [d1, d2, d3, d4] }
  | _ => none }
def GreetFailsWrongFalsely : Prop := greetFailsRow.holds Try.pinned (OpenSpec.ofChange greetFailsWrong)

/-- 'plugkeep.GreetOwn': WHATEVER THE INPUT: true; the input reads as it did. -/
def greetOwnSpec : ChangeSpec := { name := "greetOwn", fn := fun _ => fun
  | [d1, d2] => { results := [.lit (.bool true)], args := [d1, d2] }
  | _ => none }
def greetOwnRow : OpenClaim := { program := "ytonheibhbilhhab", sum := "c97f3dff680fd2757cb22f583d09b5adfd8140a356b0a2ff6172a4067878d9f1", func := "plugtree/plugkeep.GreetOwn", spec := "greetOwn", unfollowed := true, recurses := true, plainKeys := false, apart := false }
def GreetOwnSaid : Prop := greetOwnRow.holds Try.pinned (OpenSpec.ofChange greetOwnSpec)

/-- ITS FALSE NEIGHBOUR: 'it returns false'. Refute it at one input. -/
def greetOwnWrong : ChangeSpec := { name := "greetOwn", fn := fun _ => fun
  | [d1, d2] => { results := [.lit (.bool false)], args := [d1, d2] }
  | _ => none }
def GreetOwnWrongFalsely : Prop := greetOwnRow.holds Try.pinned (OpenSpec.ofChange greetOwnWrong)

/- THE SECOND FORM. 'bulk': how many values and letters a reading holds, each counted each time it is reached (what is shared counts as often as it is met; a slice's spare places count too). A statement '..UptoSaid' is the law's where the arguments, and the package variables that the reading takes, are together of bulk at most 1048576: NARROWER than '..Said'. Prove '..Said' where nothing that the law and all that it calls make is longer than what came in: it says more and counts as full. Else prove '..UptoSaid'. A law counts once. -/
mutual
def uptoBulk {H : Type} : DataW H → Nat
  | .lit (.string bytes) => bytes.length + 1
  | .lit _ => 1
  | .nil => 1
  | .ptr d => uptoBulk d + 1
  | .slice elems spare => uptoBulkAll elems + uptoBulkAll spare + 1
  | .agg parts => uptoBulkAll parts + 1
  | .iface _ d => uptoBulk d + 1
  | .map entries => uptoBulkEntries entries + 1
  | .held _ => 1
def uptoBulkAll {H : Type} : List (DataW H) → Nat
  | [] => 0
  | d :: r => uptoBulk d + uptoBulkAll r
def uptoBulkEntries {H : Type} : List (Lit × DataW H) → Nat
  | [] => 0
  | x :: r => uptoBulkEntry x + uptoBulkEntries r
def uptoBulkEntry {H : Type} : Lit × DataW H → Nat
  | (.string bytes, d) => bytes.length + uptoBulk d + 1
  | (_, d) => uptoBulk d + 1
 end
def uptoSmall : (H : Type) → List (DataW H) → Bool := fun _ ds => decide (uptoBulkAll ds ≤ 1048576)
def OpenSpec.upto (s : _root_.Go.ChangeSpec) : _root_.Go.OpenSpec := { _root_.Go.OpenSpec.ofChange s with cond := some uptoSmall }

/-- 'plugkeep.GreetFails', WHERE WHAT IT READS IS OF BULK AT MOST 1048576: true; the input reads as it did. -/
def greetFailsUptoRow : OpenClaim := { program := "ytonheibhbilhhab", sum := "c97f3dff680fd2757cb22f583d09b5adfd8140a356b0a2ff6172a4067878d9f1", func := "plugtree/plugkeep.GreetFails", spec := "greetFails", unfollowed := true, recurses := true, plainKeys := false, apart := false, narrowed := true }
def GreetFailsUptoSaid : Prop := greetFailsUptoRow.holds Try.pinned (OpenSpec.upto greetFailsSpec)

/-- 'plugkeep.GreetOwn', WHERE WHAT IT READS IS OF BULK AT MOST 1048576: true; the input reads as it did. -/
def greetOwnUptoRow : OpenClaim := { program := "ytonheibhbilhhab", sum := "c97f3dff680fd2757cb22f583d09b5adfd8140a356b0a2ff6172a4067878d9f1", func := "plugtree/plugkeep.GreetOwn", spec := "greetOwn", unfollowed := true, recurses := true, plainKeys := false, apart := false, narrowed := true }
def GreetOwnUptoSaid : Prop := greetOwnUptoRow.holds Try.pinned (OpenSpec.upto greetOwnSpec)

end Rows
end Go.Proofs.Ytonheibhbilhhab
