/-
  No cell of these rows narrows 'for every input' (looked for: loops, veiled, ifaces, maps, wideKeys, modest, calm, conditions, laid).
  DERIVED. THE GIVEN ROWS OF THIS SEAT. 6 by the template 'for every input the law returns true; each argument reads behind the call as it read before'; 0 by the template 'total and deterministic' (their statements: YthjmcopknkemnaaTotals.lean).
  GIVEN WITH THE SEED: the statements are not yours to turn. If you find one false, say at which input.
  Laid BY PROGRAM, IN A SANDBOX (cutbox-rows.mjs): the forced cells as the released guide's own fill.sh prints them over the translation 8009d6ed9c17d847… (all of the seat's roots in one cut). By AI agents, Wed Nov 11 2026. No macro, syntax, notation, axiom, sorry.
-/
import Derived.Test.YthjmcopknkemnaaChecked
import GoSem.Claim
import GoSem.ClaimJoined
import GoSem.ClaimMapViews
import Derived.JoinedTies
import Derived.KernelRfl
namespace Go.Proofs.Ythjmcopknkemnaa
/- THE CELL 'sum', in the pinned program and in every row, IS THE sha256 OF THE DUMP (.gsa) THAT YthjmcopknkemnaaProg.lean LOADS. Nothing in Lean hashes anything: it is a label: what it is worth is what the hold of that sum in a sandbox is worth. -/
noncomputable def Try.pinned : Pinned := { name := "ythjmcopknkemnaa", sum := "8009d6ed9c17d847ee6664437c074252f1f8a3c530954c3869bc24bdad66ee7a", checked := Try.checked }
namespace Rows
def none {H : Type} : Left H := { results := [], args := [] }

/-- 'pluglaw.HostPacks': WHATEVER THE INPUT: true; the input reads as it did. -/
def hostPacksSpec : ChangeSpec := { name := "hostPacks", fn := fun _ => fun
  | [d1, d2] => { results := [.lit (.bool true)], args := [d1, d2] }
  | _ => none }
def hostPacksRow : OpenClaim := { program := "ythjmcopknkemnaa", sum := "8009d6ed9c17d847ee6664437c074252f1f8a3c530954c3869bc24bdad66ee7a", func := "plugtree/pluglaw.HostPacks", spec := "hostPacks", apart := false }
def HostPacksSaid : Prop := hostPacksRow.holds Try.pinned (OpenSpec.ofChange hostPacksSpec)

/-- ITS FALSE NEIGHBOUR: 'it returns false'. Refute it at one input. -/
def hostPacksWrong : ChangeSpec := { name := "hostPacks", fn := fun _ => fun
  | [d1, d2] => { results := [.lit (.bool false)], args := [d1, d2] }
  | _ => none }
def HostPacksWrongFalsely : Prop := hostPacksRow.holds Try.pinned (OpenSpec.ofChange hostPacksWrong)

/-- 'pluglaw.HostSteps': WHATEVER THE INPUT: true; the input reads as it did. -/
def hostStepsSpec : ChangeSpec := { name := "hostSteps", fn := fun _ => fun
  | [d1, d2, d3] => { results := [.lit (.bool true)], args := [d1, d2, d3] }
  | _ => none }
def hostStepsRow : OpenClaim := { program := "ythjmcopknkemnaa", sum := "8009d6ed9c17d847ee6664437c074252f1f8a3c530954c3869bc24bdad66ee7a", func := "plugtree/pluglaw.HostSteps", spec := "hostSteps", unfollowed := true, recurses := true, apart := false }
def HostStepsSaid : Prop := hostStepsRow.holds Try.pinned (OpenSpec.ofChange hostStepsSpec)

/-- ITS FALSE NEIGHBOUR: 'it returns false'. Refute it at one input. -/
def hostStepsWrong : ChangeSpec := { name := "hostSteps", fn := fun _ => fun
  | [d1, d2, d3] => { results := [.lit (.bool false)], args := [d1, d2, d3] }
  | _ => none }
def HostStepsWrongFalsely : Prop := hostStepsRow.holds Try.pinned (OpenSpec.ofChange hostStepsWrong)

/-- 'pluglaw.HostPlays': WHATEVER THE INPUT: true; the input reads as it did. -/
def hostPlaysSpec : ChangeSpec := { name := "hostPlays", fn := fun _ => fun
  | [d1, d2, d3] => { results := [.lit (.bool true)], args := [d1, d2, d3] }
  | _ => none }
def hostPlaysRow : OpenClaim := { program := "ythjmcopknkemnaa", sum := "8009d6ed9c17d847ee6664437c074252f1f8a3c530954c3869bc24bdad66ee7a", func := "plugtree/pluglaw.HostPlays", spec := "hostPlays", unfollowed := true, recurses := true, apart := false }
def HostPlaysSaid : Prop := hostPlaysRow.holds Try.pinned (OpenSpec.ofChange hostPlaysSpec)

/-- ITS FALSE NEIGHBOUR: 'it returns false'. Refute it at one input. -/
def hostPlaysWrong : ChangeSpec := { name := "hostPlays", fn := fun _ => fun
  | [d1, d2, d3] => { results := [.lit (.bool false)], args := [d1, d2, d3] }
  | _ => none }
def HostPlaysWrongFalsely : Prop := hostPlaysRow.holds Try.pinned (OpenSpec.ofChange hostPlaysWrong)

/-- 'plugkeep.HostBack': WHATEVER THE INPUT: true; the input reads as it did. -/
def hostBackSpec : ChangeSpec := { name := "hostBack", fn := fun _ => fun
  | [d1, d2] => { results := [.lit (.bool true)], args := [d1, d2] }
  | _ => none }
def hostBackRow : OpenClaim := { program := "ythjmcopknkemnaa", sum := "8009d6ed9c17d847ee6664437c074252f1f8a3c530954c3869bc24bdad66ee7a", func := "plugtree/plugkeep.HostBack", spec := "hostBack", unfollowed := true, recurses := true, apart := false }
def HostBackSaid : Prop := hostBackRow.holds Try.pinned (OpenSpec.ofChange hostBackSpec)

/-- ITS FALSE NEIGHBOUR: 'it returns false'. Refute it at one input. -/
def hostBackWrong : ChangeSpec := { name := "hostBack", fn := fun _ => fun
  | [d1, d2] => { results := [.lit (.bool false)], args := [d1, d2] }
  | _ => none }
def HostBackWrongFalsely : Prop := hostBackRow.holds Try.pinned (OpenSpec.ofChange hostBackWrong)

/-- 'plugkeep.HostOnce': WHATEVER THE INPUT: true; the input reads as it did. -/
def hostOnceSpec : ChangeSpec := { name := "hostOnce", fn := fun _ => fun
  | [d1, d2, d3] => { results := [.lit (.bool true)], args := [d1, d2, d3] }
  | _ => none }
def hostOnceRow : OpenClaim := { program := "ythjmcopknkemnaa", sum := "8009d6ed9c17d847ee6664437c074252f1f8a3c530954c3869bc24bdad66ee7a", func := "plugtree/plugkeep.HostOnce", spec := "hostOnce", unfollowed := true, recurses := true, apart := false }
def HostOnceSaid : Prop := hostOnceRow.holds Try.pinned (OpenSpec.ofChange hostOnceSpec)

/-- ITS FALSE NEIGHBOUR: 'it returns false'. Refute it at one input. -/
def hostOnceWrong : ChangeSpec := { name := "hostOnce", fn := fun _ => fun
  | [d1, d2, d3] => { results := [.lit (.bool false)], args := [d1, d2, d3] }
  | _ => none }
def HostOnceWrongFalsely : Prop := hostOnceRow.holds Try.pinned (OpenSpec.ofChange hostOnceWrong)

/-- 'plugkeep.HostCalm': WHATEVER THE INPUT: true; the input reads as it did. -/
def hostCalmSpec : ChangeSpec := { name := "hostCalm", fn := fun _ => fun
  | [d1, d2, d3] => { results := [.lit (.bool true)], args := [d1, d2, d3] }
  | _ => none }
def hostCalmRow : OpenClaim := { program := "ythjmcopknkemnaa", sum := "8009d6ed9c17d847ee6664437c074252f1f8a3c530954c3869bc24bdad66ee7a", func := "plugtree/plugkeep.HostCalm", spec := "hostCalm", unfollowed := true, recurses := true, apart := false }
def HostCalmSaid : Prop := hostCalmRow.holds Try.pinned (OpenSpec.ofChange hostCalmSpec)

/-- ITS FALSE NEIGHBOUR: 'it returns false'. Refute it at one input. -/
def hostCalmWrong : ChangeSpec := { name := "hostCalm", fn := fun _ => fun
  | [d1, d2, d3] => { results := [.lit (.bool false)], args := [d1, d2, d3] }
  | _ => none }
def HostCalmWrongFalsely : Prop := hostCalmRow.holds Try.pinned (OpenSpec.ofChange hostCalmWrong)

/- THE SECOND FORM. 'bulk': how many values and letters a reading holds, each counted each time it is reached (what is shared counts as often as it is met; a slice's spare places count too). A statement '..UptoSaid' is the law's where the arguments, and the package variables that the reading takes, are together of bulk at most 1048576: NARROWER than '..Said'. Prove '..Said' where nothing that the law and all that it calls make is longer than what came in: it says more and counts as full. Else prove '..UptoSaid'. A law counts once. -/
mutual
def uptoBulk {H : Type} : DataW H → Nat
  | .lit (.string bytes) => bytes.length + 1
  | .lit _ => 1
  | .nil => 1
  | .ptr d => uptoBulk d + 1
  | .slice elems spare => uptoBulkAll elems + uptoBulkAll spare + 1
  | .agg parts => uptoBulkAll parts + 1
  | .iface _ d => uptoBulk d + 1
  | .map entries => uptoBulkEntries entries + 1
  | .held _ => 1
def uptoBulkAll {H : Type} : List (DataW H) → Nat
  | [] => 0
  | d :: r => uptoBulk d + uptoBulkAll r
def uptoBulkEntries {H : Type} : List (Lit × DataW H) → Nat
  | [] => 0
  | x :: r => uptoBulkEntry x + uptoBulkEntries r
def uptoBulkEntry {H : Type} : Lit × DataW H → Nat
  | (.string bytes, d) => bytes.length + uptoBulk d + 1
  | (_, d) => uptoBulk d + 1
 end
def uptoSmall : (H : Type) → List (DataW H) → Bool := fun _ ds => decide (uptoBulkAll ds ≤ 1048576)
def OpenSpec.upto (s : _root_.Go.ChangeSpec) : _root_.Go.OpenSpec := { _root_.Go.OpenSpec.ofChange s with cond := some uptoSmall }

/-- 'pluglaw.HostPacks', WHERE WHAT IT READS IS OF BULK AT MOST 1048576: true; the input reads as it did. -/
def hostPacksUptoRow : OpenClaim := { program := "ythjmcopknkemnaa", sum := "8009d6ed9c17d847ee6664437c074252f1f8a3c530954c3869bc24bdad66ee7a", func := "plugtree/pluglaw.HostPacks", spec := "hostPacks", apart := false, narrowed := true }
def HostPacksUptoSaid : Prop := hostPacksUptoRow.holds Try.pinned (OpenSpec.upto hostPacksSpec)

/-- 'pluglaw.HostSteps', WHERE WHAT IT READS IS OF BULK AT MOST 1048576: true; the input reads as it did. -/
def hostStepsUptoRow : OpenClaim := { program := "ythjmcopknkemnaa", sum := "8009d6ed9c17d847ee6664437c074252f1f8a3c530954c3869bc24bdad66ee7a", func := "plugtree/pluglaw.HostSteps", spec := "hostSteps", unfollowed := true, recurses := true, apart := false, narrowed := true }
def HostStepsUptoSaid : Prop := hostStepsUptoRow.holds Try.pinned (OpenSpec.upto hostStepsSpec)

/-- 'pluglaw.HostPlays', WHERE WHAT IT READS IS OF BULK AT MOST 1048576: true; the input reads as it did. -/
def hostPlaysUptoRow : OpenClaim := { program := "ythjmcopknkemnaa", sum := "8009d6ed9c17d847ee6664437c074252f1f8a3c530954c3869bc24bdad66ee7a", func := "plugtree/pluglaw.HostPlays", spec := "hostPlays", unfollowed := true, recurses := true, apart := false, narrowed := true }
def HostPlaysUptoSaid : Prop := hostPlaysUptoRow.holds Try.pinned (OpenSpec.upto hostPlaysSpec)

/-- 'plugkeep.HostBack', WHERE WHAT IT READS IS OF BULK AT MOST 1048576: true; the input reads as it did. -/
def hostBackUptoRow : OpenClaim := { program := "ythjmcopknkemnaa", sum := "8009d6ed9c17d847ee6664437c074252f1f8a3c530954c3869bc24bdad66ee7a", func := "plugtree/plugkeep.HostBack", spec := "hostBack", unfollowed := true, recurses := true, apart := false, narrowed := true }
def HostBackUptoSaid : Prop := hostBackUptoRow.holds Try.pinned (OpenSpec.upto hostBackSpec)

/-- 'plugkeep.HostOnce', WHERE WHAT IT READS IS OF BULK AT MOST 1048576: true; the input reads as it did. -/
def hostOnceUptoRow : OpenClaim := { program := "ythjmcopknkemnaa", sum := "8009d6ed9c17d847ee6664437c074252f1f8a3c530954c3869bc24bdad66ee7a", func := "plugtree/plugkeep.HostOnce", spec := "hostOnce", unfollowed := true, recurses := true, apart := false, narrowed := true }
def HostOnceUptoSaid : Prop := hostOnceUptoRow.holds Try.pinned (OpenSpec.upto hostOnceSpec)

/-- 'plugkeep.HostCalm', WHERE WHAT IT READS IS OF BULK AT MOST 1048576: true; the input reads as it did. -/
def hostCalmUptoRow : OpenClaim := { program := "ythjmcopknkemnaa", sum := "8009d6ed9c17d847ee6664437c074252f1f8a3c530954c3869bc24bdad66ee7a", func := "plugtree/plugkeep.HostCalm", spec := "hostCalm", unfollowed := true, recurses := true, apart := false, narrowed := true }
def HostCalmUptoSaid : Prop := hostCalmUptoRow.holds Try.pinned (OpenSpec.upto hostCalmSpec)

end Rows
end Go.Proofs.Ythjmcopknkemnaa
