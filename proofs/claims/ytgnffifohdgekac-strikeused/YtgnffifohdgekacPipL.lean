/- plugkeep: pipeLives. -/
import Derived.Test.YtgnffifohdgekacPipG
namespace Go.Proofs.Ytgnffifohdgekac.pipe
open Go.RowKit
set_option linter.unusedVariables false
set_option linter.unusedSimpArgs false
set_option maxRecDepth 100000

/-- a pipe that was told, in a place of its own -/
theorem pp_laid (u : World) (s q : Int) (vL vG : Value) : ∃ u1 uf, u.alloc (ppO 0 0 (.slice none 0 0) (.slice none 0 0)) = u1 ∧ (((u1.setCell ⟨u.heap.size, 0, none⟩ (.int .i64 s)).setCell ⟨u.heap.size, 1, none⟩ (.int .i64 q)).setCell ⟨u.heap.size, 2, none⟩ vL).setCell ⟨u.heap.size, 3, none⟩ vG = uf ∧
    u1.heap[u.heap.size]? = some (ppO 0 0 (.slice none 0 0) (.slice none 0 0)) ∧ uf.heap[u.heap.size]? = some (ppO s q vL vG) ∧ Below u.heap.size u uf := by
  obtain ⟨u1, hu1, hX1, hb1⟩ := pp_named u 0 0 (.slice none 0 0) (.slice none 0 0)
  obtain ⟨uf, huf, hXf, hBf, _, _⟩ := pp_put u1 u.heap.size _ _ _ _ s q vL vG hX1
  exact ⟨u1, uf, hu1, huf, hX1, hXf, hBf _ _ (Nat.le_refl _) hb1⟩
theorem Rts.form {w : World} {v : Value} {l : List ByteArray} (h : Rts w v l) : ∃ a c, v = .slice a l.length c ∧ l.length ≤ c ∧ c ≤ maxLen := by
  obtain ⟨a, c, h, h1, h2, _⟩ := h; exact ⟨_, _, h, h1, h2⟩
def tA : ByteArray := ⟨#[97]⟩
def tB : ByteArray := ⟨#[98]⟩
/-- texts and numbers that were laid down -/
theorem rts_laid (w : World) (l : List ByteArray) (h : l.length ≤ 1000) : Rts (w.alloc (.cells (l.map Value.string).toArray 9)) (.slice (some ⟨w.heap.size, 0, none⟩) l.length l.length) l := by
  refine ⟨_, _, rfl, Nat.le_refl _, by unfold maxLen; omega, fun _ => ⟨_, _, rfl, by simp, fun j x hx => ?_⟩⟩
  rw [Nat.zero_add, cell_of_row _ _ _ _ _ (0, 0) (MapKept.heap_alloc w _).1]
  simp [hx]
theorem ris_laid (w : World) (l : List Int) (h : l.length ≤ 1000) : Ris (w.alloc (.cells (l.map (Value.int .i64)).toArray 3)) (.slice (some ⟨w.heap.size, 0, none⟩) l.length l.length) l := by
  refine ⟨_, _, rfl, Nat.le_refl _, by unfold maxLen; omega, fun _ => ⟨_, _, rfl, by simp, fun j x hx => ?_⟩⟩
  rw [Nat.zero_add, cell_of_row _ _ _ _ _ (0, 0) (MapKept.heap_alloc w _).1]
  simp [hx]
end Go.Proofs.Ytgnffifohdgekac.pipe
