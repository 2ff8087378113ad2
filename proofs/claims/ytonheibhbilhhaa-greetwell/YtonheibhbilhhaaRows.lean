/-
  No cell of these rows narrows 'for every input' (looked for: loops, veiled, ifaces, maps, wideKeys, modest, calm, conditions, laid).
  DERIVED. THE GIVEN ROWS OF THIS SEAT. 5 by the template 'for every input the law returns true; each argument reads behind the call as it read before'; 0 by the template 'total and deterministic' (their statements: YtonheibhbilhhaaTotals.lean).
  GIVEN WITH THE SEED: the statements are not yours to turn. If you find one false, say at which input.
  Laid BY PROGRAM, IN A SANDBOX (cutbox-rows.mjs): the forced cells as the released guide's own fill.sh prints them over the translation b0e9242ffa517787… (all of the seat's roots in one cut). By AI agents, Wed Nov 11 2026. No macro, syntax, notation, axiom, sorry.
-/
import Derived.Test.YtonheibhbilhhaaChecked
import GoSem.Claim
import GoSem.ClaimJoined
import GoSem.ClaimMapViews
import Derived.JoinedTies
import Derived.KernelRfl
namespace Go.Proofs.Ytonheibhbilhhaa
/- THE CELL 'sum', in the pinned program and in every row, IS THE sha256 OF THE DUMP (.gsa) THAT YtonheibhbilhhaaProg.lean LOADS. Nothing in Lean hashes anything: it is a label: what it is worth is what the hold of that sum in a sandbox is worth. -/
noncomputable def Try.pinned : Pinned := { name := "ytonheibhbilhhaa", sum := "b0e9242ffa517787fbbbd5b8b652b86cad85976ae3bba4ece106df5f234e305b", checked := Try.checked }
namespace Rows
def none {H : Type} : Left H := { results := [], args := [] }

/-- 'pluglaw.GreetAsks': WHATEVER THE INPUT: true; the input reads as it did. -/
def greetAsksSpec : ChangeSpec := { name := "greetAsks", fn := fun _ => fun
  | [d1, d2] => { results := [.lit (.bool true)], args := [d1, d2] }
  | _ => none }
def greetAsksRow : OpenClaim := { program := "ytonheibhbilhhaa", sum := "b0e9242ffa517787fbbbd5b8b652b86cad85976ae3bba4ece106df5f234e305b", func := "plugtree/pluglaw.GreetAsks", spec := "greetAsks", unfollowed := true, recurses := true, plainKeys := false, apart := false }
def GreetAsksSaid : Prop := greetAsksRow.holds Try.pinned (OpenSpec.ofChange greetAsksSpec)

/-- ITS FALSE NEIGHBOUR: 'it returns false'. Refute it at one input. -/
def greetAsksWrong : ChangeSpec := { name := "greetAsks", fn := fun _ => fun
  | [d1, d2] => { results := [.lit (.bool false)], args := [d1, d2] }
  | _ => none }
def GreetAsksWrongFalsely : Prop := greetAsksRow.holds Try.pinned (OpenSpec.ofChange greetAsksWrong)

/-- 'pluglaw.GreetTells': WHATEVER THE INPUT: true; the input reads as it did. -/
def greetTellsSpec : ChangeSpec := { name := "greetTells", fn := fun _ => fun
  | [d1, d2, d3] => { results := [.lit (.bool true)], args := [d1, d2, d3] }
  | _ => none }
def greetTellsRow : OpenClaim := { program := "ytonheibhbilhhaa", sum := "b0e9242ffa517787fbbbd5b8b652b86cad85976ae3bba4ece106df5f234e305b", func := "plugtree/pluglaw.GreetTells", spec := "greetTells", inPlace := ["internal/bytealg.IndexByteString", "internal/abi.NoEscape", "internal/bytealg.MakeNoZero"], unfollowed := true, recurses := true, plainKeys := false, apart := false }
def GreetTellsSaid : Prop := greetTellsRow.holds Try.pinned (OpenSpec.ofChange greetTellsSpec)

/-- ITS FALSE NEIGHBOUR: 'it returns false'. Refute it at one input. -/
def greetTellsWrong : ChangeSpec := { name := "greetTells", fn := fun _ => fun
  | [d1, d2, d3] => { results := [.lit (.bool false)], args := [d1, d2, d3] }
  | _ => none }
def GreetTellsWrongFalsely : Prop := greetTellsRow.holds Try.pinned (OpenSpec.ofChange greetTellsWrong)

/-- 'plugkeep.GreetEnds': WHATEVER THE INPUT: true; the input reads as it did. -/
def greetEndsSpec : ChangeSpec := { name := "greetEnds", fn := fun _ => fun
  | [d1, d2, d3] => { results := [.lit (.bool true)], args := [d1, d2, d3] }
  | _ => none }
def greetEndsRow : OpenClaim := { program := "ytonheibhbilhhaa", sum := "b0e9242ffa517787fbbbd5b8b652b86cad85976ae3bba4ece106df5f234e305b", func := "plugtree/plugkeep.GreetEnds", spec := "greetEnds", unfollowed := true, recurses := true, plainKeys := false, apart := false }
def GreetEndsSaid : Prop := greetEndsRow.holds Try.pinned (OpenSpec.ofChange greetEndsSpec)

/-- ITS FALSE NEIGHBOUR: 'it returns false'. Refute it at one input. -/
def greetEndsWrong : ChangeSpec := { name := "greetEnds", fn := fun _ => fun
  | [d1, d2, d3] => { results := [.lit (.bool false)], args := [d1, d2, d3] }
  | _ => none }
def GreetEndsWrongFalsely : Prop := greetEndsRow.holds Try.pinned (OpenSpec.ofChange greetEndsWrong)

/-- 'plugkeep.GreetSure': WHATEVER THE INPUT: true; the input reads as it did. -/
def greetSureSpec : ChangeSpec := { name := "greetSure", fn := fun _ => fun
  | [d1, d2] => { results := [.lit (.bool true)], args := [d1, d2] }
  | _ => none }
def greetSureRow : OpenClaim := { program := "ytonheibhbilhhaa", sum := "b0e9242ffa517787fbbbd5b8b652b86cad85976ae3bba4ece106df5f234e305b", func := "plugtree/plugkeep.GreetSure", spec := "greetSure", plainKeys := false, apart := false }
def GreetSureSaid : Prop := greetSureRow.holds Try.pinned (OpenSpec.ofChange greetSureSpec)

/-- ITS FALSE NEIGHBOUR: 'it returns false'. Refute it at one input. -/
def greetSureWrong : ChangeSpec := { name := "greetSure", fn := fun _ => fun
  | [d1, d2] => { results := [.lit (.bool false)], args := [d1, d2] }
  | _ => none }
def GreetSureWrongFalsely : Prop := greetSureRow.holds Try.pinned (OpenSpec.ofChange greetSureWrong)

/-- 'plugkeep.GreetWell': WHATEVER THE INPUT: true; the input reads as it did. -/
def greetWellSpec : ChangeSpec := { name := "greetWell", fn := fun _ => fun
  | [d1, d2, d3] => { results := [.lit (.bool true)], args := [d1, d2, d3] }
  | _ => none }
def greetWellRow : OpenClaim := { program := "ytonheibhbilhhaa", sum := "b0e9242ffa517787fbbbd5b8b652b86cad85976ae3bba4ece106df5f234e305b", func := "plugtree/plugkeep.GreetWell", spec := "greetWell", unfollowed := true, recurses := true, plainKeys := false, apart := false }
def GreetWellSaid : Prop := greetWellRow.holds Try.pinned (OpenSpec.ofChange greetWellSpec)

/-- ITS FALSE NEIGHBOUR: 'it returns false'. Refute it at one input. -/
def greetWellWrong : ChangeSpec := { name := "greetWell", fn := fun _ => fun
  | [d1, d2, d3] => { results := [.lit (.bool false)], args := [d1, d2, d3] }
  | _ => none }
def GreetWellWrongFalsely : Prop := greetWellRow.holds Try.pinned (OpenSpec.ofChange greetWellWrong)

/- THE SECOND FORM. 'bulk': how many values and letters a reading holds, each counted each time it is reached (what is shared counts as often as it is met; a slice's spare places count too). A statement '..UptoSaid' is the law's where the arguments, and the package variables that the reading takes, are together of bulk at most 1048576: NARROWER than '..Said'. Prove '..Said' where nothing that the law and all that it calls make is longer than what came in: it says more and counts as full. Else prove '..UptoSaid'. A law counts once. -/
mutual
def uptoBulk {H : Type} : DataW H → Nat
  | .lit (.string bytes) => bytes.length + 1
  | .lit _ => 1
  | .nil => 1
  | .ptr d => uptoBulk d + 1
  | .slice elems spare => uptoBulkAll elems + uptoBulkAll spare + 1
  | .agg parts => uptoBulkAll parts + 1
  | .iface _ d => uptoBulk d + 1
  | .map entries => uptoBulkEntries entries + 1
  | .held _ => 1
def uptoBulkAll {H : Type} : List (DataW H) → Nat
  | [] => 0
  | d :: r => uptoBulk d + uptoBulkAll r
def uptoBulkEntries {H : Type} : List (Lit × DataW H) → Nat
  | [] => 0
  | x :: r => uptoBulkEntry x + uptoBulkEntries r
def uptoBulkEntry {H : Type} : Lit × DataW H → Nat
  | (.string bytes, d) => bytes.length + uptoBulk d + 1
  | (_, d) => uptoBulk d + 1
 end
def uptoSmall : (H : Type) → List (DataW H) → Bool := fun _ ds => decide (uptoBulkAll ds ≤ 1048576)
def OpenSpec.upto (s : _root_.Go.ChangeSpec) : _root_.Go.OpenSpec := { _root_.Go.OpenSpec.ofChange s with cond := some uptoSmall }

/-- 'pluglaw.GreetAsks', WHERE WHAT IT READS IS OF BULK AT MOST 1048576: true; the input reads as it did. -/
def greetAsksUptoRow : OpenClaim := { program := "ytonheibhbilhhaa", sum := "b0e9242ffa517787fbbbd5b8b652b86cad85976ae3bba4ece106df5f234e305b", func := "plugtree/pluglaw.GreetAsks", spec := "greetAsks", unfollowed := true, recurses := true, plainKeys := false, apart := false, narrowed := true }
def GreetAsksUptoSaid : Prop := greetAsksUptoRow.holds Try.pinned (OpenSpec.upto greetAsksSpec)

/-- 'pluglaw.GreetTells', WHERE WHAT IT READS IS OF BULK AT MOST 1048576: true; the input reads as it did. -/
def greetTellsUptoRow : OpenClaim := { program := "ytonheibhbilhhaa", sum := "b0e9242ffa517787fbbbd5b8b652b86cad85976ae3bba4ece106df5f234e305b", func := "plugtree/pluglaw.GreetTells", spec := "greetTells", inPlace := ["internal/bytealg.IndexByteString", "internal/abi.NoEscape", "internal/bytealg.MakeNoZero"], unfollowed := true, recurses := true, plainKeys := false, apart := false, narrowed := true }
def GreetTellsUptoSaid : Prop := greetTellsUptoRow.holds Try.pinned (OpenSpec.upto greetTellsSpec)

/-- 'plugkeep.GreetEnds', WHERE WHAT IT READS IS OF BULK AT MOST 1048576: true; the input reads as it did. -/
def greetEndsUptoRow : OpenClaim := { program := "ytonheibhbilhhaa", sum := "b0e9242ffa517787fbbbd5b8b652b86cad85976ae3bba4ece106df5f234e305b", func := "plugtree/plugkeep.GreetEnds", spec := "greetEnds", unfollowed := true, recurses := true, plainKeys := false, apart := false, narrowed := true }
def GreetEndsUptoSaid : Prop := greetEndsUptoRow.holds Try.pinned (OpenSpec.upto greetEndsSpec)

/-- 'plugkeep.GreetSure', WHERE WHAT IT READS IS OF BULK AT MOST 1048576: true; the input reads as it did. -/
def greetSureUptoRow : OpenClaim := { program := "ytonheibhbilhhaa", sum := "b0e9242ffa517787fbbbd5b8b652b86cad85976ae3bba4ece106df5f234e305b", func := "plugtree/plugkeep.GreetSure", spec := "greetSure", plainKeys := false, apart := false, narrowed := true }
def GreetSureUptoSaid : Prop := greetSureUptoRow.holds Try.pinned (OpenSpec.upto greetSureSpec)

/-- 'plugkeep.GreetWell', WHERE WHAT IT READS IS OF BULK AT MOST 1048576: true; the input reads as it did. -/
def greetWellUptoRow : OpenClaim := { program := "ytonheibhbilhhaa", sum := "b0e9242ffa517787fbbbd5b8b652b86cad85976ae3bba4ece106df5f234e305b", func := "plugtree/plugkeep.GreetWell", spec := "greetWell", unfollowed := true, recurses := true, plainKeys := false, apart := false, narrowed := true }
def GreetWellUptoSaid : Prop := greetWellUptoRow.holds Try.pinned (OpenSpec.upto greetWellSpec)

end Rows
end Go.Proofs.Ytonheibhbilhhaa
