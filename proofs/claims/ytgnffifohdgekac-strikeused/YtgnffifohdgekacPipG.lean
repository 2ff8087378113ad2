/- plugref: are two pipes the same. -/
import Derived.Test.YtgnffifohdgekacPipF
namespace Go.Proofs.Ytgnffifohdgekac.pipe
open Go.RowKit
set_option linter.unusedVariables false
set_option linter.unusedSimpArgs false
set_option maxRecDepth 100000

def samB (p r : Pp) : Bool := (p.s == r.s) && ((p.q == r.q) && (decide (p.L = r.L) && decide (p.G = r.G)))
theorem samB_same (p : Pp) : samB p p = true := by simp [samB]
/-- a pipe that is read -/
def Rp (w : World) (p : Pp) (vL vG : Value) : Prop := Rts w vL p.L ∧ Rts w vG p.G
theorem Rp.below {w u : World} {p : Pp} {vL vG : Value} (h : Rp w p vL vG) (hb : Below w.heap.size w u) : Rp u p vL vG := ⟨h.1.below hb, h.2.below hb⟩
theorem Rp.nil (w : World) : Rp w zP (.slice none 0 0) (.slice none 0 0) := ⟨Rts.nil w, Rts.nil w⟩
/-- what a call answers, as far as it is read -/
def RAns (w : World) (p : Pp) (code : Int) (e : Ending) (w' : World) : Prop :=
  ∃ vL vG, e = .returned (.tuple #[ppV p.s p.q vL vG, .int .i64 code]) ∧ Rp w' p vL vG ∧ Below w.heap.size w w'
theorem Ans.read {w w' : World} {p : Pp} {code : Int} {e : Ending} (h : Ans w p code e w') : RAns w p code e w' := by
  obtain ⟨vL, vG, he, h1, h2, hb⟩ := h
  exact ⟨vL, vG, he, ⟨h1.rts, h2.rts⟩, hb⟩
theorem RAns.zero {w w' : World} (code : Int) (hb : Below w.heap.size w w') : RAns w zP code (.returned (.tuple #[ppV 0 0 (.slice none 0 0) (.slice none 0 0), .int .i64 code])) w' := (Ans.zero code hb).read
end Go.Proofs.Ytgnffifohdgekac.pipe
