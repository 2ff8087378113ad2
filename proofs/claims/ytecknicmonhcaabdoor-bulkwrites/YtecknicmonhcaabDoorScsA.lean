/- scsi: a disk in its box; texts that are read. -/
import Derived.Test.YtecknicmonhcaabDoorScsM
import Derived.Test.YtecknicmonhcaabDoorPipA
namespace Go.Proofs.YtecknicmonhcaabDoor.scsi
open Go.RowKit Go.Proofs.YtecknicmonhcaabDoor.lane Go.Proofs.YtecknicmonhcaabDoor.pipe Go.Proofs.YtecknicmonhcaabDoor.strike
set_option linter.unusedVariables false
set_option linter.unusedSimpArgs false
set_option maxRecDepth 100000

abbrev dkV (x : Value) (s : Int) : Value := .agg #[x, .int .i64 s]
abbrev dkO (x : Value) (s : Int) : Obj := .cells #[x, .int .i64 s] 24
theorem rts_form {w : World} {v : Value} {l : List ByteArray} (h : Rts w v l) : ∃ a c, v = .slice a l.length c ∧ l.length ≤ c ∧ c ≤ maxLen := by
  obtain ⟨a, c, h, h1, h2, _⟩ := h; exact ⟨_, _, h, h1, h2⟩
theorem rts_laid (w : World) (l : List ByteArray) (h : l.length ≤ 1000) : Rts (w.alloc (.cells (l.map Value.string).toArray 9)) (.slice (some ⟨w.heap.size, 0, none⟩) l.length l.length) l := by
  refine ⟨_, _, rfl, Nat.le_refl _, by unfold maxLen; omega, fun _ => ⟨_, _, rfl, by simp, fun j x hx => ?_⟩⟩
  rw [Nat.zero_add, cell_of_row _ _ _ _ _ (0, 0) (MapKept.heap_alloc w _).1]
  simp [hx]
theorem csetX {v : World} {R : Nat} {cs cs' : Array Value} {T : TypeId} (k : Nat) (x : Value) (h : v.heap[R]? = some (.cells cs T)) (hk : cs.setIfInBounds k x = cs') : (v.setCell ⟨R, k, none⟩ x).heap[R]? = some (.cells cs' T) := by
  rw [← hk]; exact heap_setCell_same v R k cs T x h
theorem boxD {u : World} {X : Nat} {x : Value} {s : Int} (h : u.heap[X]? = some (dkO x s)) :
    (X < u.heap.size ∧ u.cell? ⟨X, 0, none⟩ = some x ∧ u.cell? ⟨X, 1, none⟩ = some (.int .i64 s)) ∧ u.frozen? ⟨X, 0, none⟩ = false ∧ u.frozen? ⟨X, 1, none⟩ = false := by
  have hlt := (Array.getElem?_eq_some_iff.1 h).1
  have hf : ∀ i, u.frozen? ⟨X, i, none⟩ = false := fun i => frozen_of_row u X i _ _ h
  refine ⟨⟨hlt, ?_, ?_⟩, hf 0, hf 1⟩ <;> (rw [cell_of_row u X _ _ _ (0, 0) h]; rfl)
/-- a disk is put in the place X -/
theorem dk_put (u : World) (X : Nat) (x : Value) (s : Int) (x' : Value) (s' : Int) (hX : u.heap[X]? = some (dkO x s)) :
    ∃ uf, (u.setCell ⟨X, 0, none⟩ x').setCell ⟨X, 1, none⟩ (.int .i64 s') = uf ∧ uf.heap[X]? = some (dkO x' s') ∧ (∀ (B : Nat) (w0 : World), B ≤ X → Below B w0 u → Below B w0 uf) ∧ (∀ k, k ≠ X → uf.heap[k]? = u.heap[k]?) ∧ uf.heap.size = u.heap.size := by
  refine ⟨_, rfl, csetX 1 _ (csetX 0 _ hX rfl) rfl, fun B w0 hB hb => (hb.setCell hB _).setCell hB _, fun k hk => ?_, by simp⟩
  rw [heap_setCell_other _ _ _ _ hk, heap_setCell_other _ _ _ _ hk]
theorem dk_named (w : World) (x : Value) (s : Int) : ∃ w0, w.alloc (dkO x s) = w0 ∧ w0.heap[w.heap.size]? = some (dkO x s) ∧ Below w.heap.size w w0 := ⟨_, rfl, (MapKept.heap_alloc w _).1, balloc _ _⟩
theorem dk_zero : (Tryd.prog.info? 24).map (fun i => (i.zero, i.size)) = some (some (dkV (.slice none 0 0) 0), 2) := by kernel_rfl
/-- a parameter in a box of its own -/
theorem dk_param (w : World) (x : Value) (s : Int) : ∃ w1 uf, w.alloc (dkO (.slice none 0 0) 0) = w1 ∧ (w1.setCell ⟨w.heap.size, 0, none⟩ x).setCell ⟨w.heap.size, 1, none⟩ (.int .i64 s) = uf ∧ w1.heap[w.heap.size]? = some (dkO (.slice none 0 0) 0) ∧ uf.heap[w.heap.size]? = some (dkO x s) ∧ Below w.heap.size w uf := by
  obtain ⟨w1, hw1, hX1, hb1⟩ := dk_named w (.slice none 0 0) 0
  obtain ⟨uf, huf, hXf, hBf, _, _⟩ := dk_put w1 w.heap.size _ _ x s hX1
  exact ⟨w1, uf, hw1, huf, hX1, hXf, hBf _ _ (Nat.le_refl _) hb1⟩
/-- the texts that v reads stay when a block is written that they don't lie in -/
theorem Rts.keptAt {w u : World} {v : Value} {l : List ByteArray} (h : Rts w v l) (hs : w.heap.size ≤ u.heap.size) {X : Nat} (hX : ∀ a n c, v = .slice (some a) n c → a.block ≠ X) (hk : ∀ k, k ≠ X → k < w.heap.size → u.heap[k]? = w.heap[k]?) : Rts u v l := by
  obtain ⟨a, c, hv, h1, h2, h4⟩ := h
  refine ⟨a, c, hv, h1, h2, fun hn => ?_⟩
  obtain ⟨g, off, ha, hg, hc⟩ := h4 hn
  subst ha
  exact ⟨g, off, rfl, Nat.lt_of_lt_of_le hg hs, fun j y hy => (World.cell?_of_block (a := ⟨g, off + j, none⟩) (hk g (hX _ _ _ hv) hg)).trans (hc j y hy)⟩
end Go.Proofs.YtecknicmonhcaabDoor.scsi
