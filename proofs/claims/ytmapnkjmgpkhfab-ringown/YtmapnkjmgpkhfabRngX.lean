/- RingOwn: cells that are written over, the room behind them, too. -/
import Derived.Test.YtmapnkjmgpkhfabRngJ
namespace Go.Proofs.Ytmapnkjmgpkhfab.ring
open Go Go.RowKit
set_option linter.unusedVariables false
set_option linter.unusedSimpArgs false
set_option maxRecDepth 100000

/-- a slice with all its room in a block of which p holds -/
def Rm (p : Nat → Prop) (w : World) (v : Value) : Prop :=
  ∃ a n c, v = .slice a n c ∧ n ≤ c ∧ c ≤ maxLen ∧ (0 < c → ∃ g, a = some ⟨g, 0, none⟩ ∧ p g ∧ ∀ j, j < c * 3 → (∃ x, w.cell? ⟨g, j, none⟩ = some x) ∧ w.frozen? ⟨g, j, none⟩ = false)
/-- only cells in blocks of which p holds are other than they were -/
structure Spl (p : Nat → Prop) (w w' : World) : Prop where
  os : w'.os = w.os
  tape : w'.tape = w.tape
  output : w'.output = w.output
  size : w'.heap.size = w.heap.size
  block : ∀ k, ¬ p k → w'.heap[k]? = w.heap[k]?
  cell : ∀ a x, w.cell? a = some x → ∃ y, w'.cell? a = some y
  frozen : ∀ a, w'.frozen? a = w.frozen? a
section
variable {p : Nat → Prop} {w u v : World}
theorem Spl.refl (p : Nat → Prop) (w : World) : Spl p w w := ⟨rfl, rfl, rfl, rfl, fun _ _ => rfl, fun _ x h => ⟨x, h⟩, fun _ => rfl⟩
theorem Spl.set (h : Spl p w u) {g k : Nat} (hg : p g) (x : Value) : Spl p w (u.setCell ⟨g, k, none⟩ x) :=
  ⟨h.os, h.tape, h.output, by have := h.size; simpa using this, fun i hi => (heap_setCell_other _ _ _ _ (fun q => hi (by rw [q]; exact hg))).trans (h.block i hi),
    fun a y hy => by obtain ⟨z, hz⟩ := h.cell a y hy; exact cell?_setCell_some hz, fun a => (World.frozen?_setCell _ _ _ _).trans (h.frozen a)⟩
theorem Spl.below {B : Nat} (h : Spl p w u) (hp : ∀ k, k < B → ¬ p k) : Below B w u := ⟨h.os, h.tape, h.output, Nat.le_of_eq h.size.symm, fun k hk => h.block k (hp k hk)⟩
theorem Rm.mono {p' : Nat → Prop} {x : Value} (h : Rm p w x) (hp : ∀ g, p g → g < w.heap.size → p' g) : Rm p' w x := by
  obtain ⟨a, n, c, hv, h1, h2, h4⟩ := h
  refine ⟨a, n, c, hv, h1, h2, fun hn => ?_⟩
  obtain ⟨g, ha, hg, hc⟩ := h4 hn
  obtain ⟨x, hx⟩ := (hc 0 (by omega)).1
  exact ⟨g, ha, hp g hg (World.block_lt_of_cell? w _ hx), hc⟩
theorem Rm.below {x : Value} (h : Rm p w x) (hb : Below w.heap.size w u) : Rm p u x := by
  obtain ⟨a, n, c, hv, h1, h2, h4⟩ := h
  refine ⟨a, n, c, hv, h1, h2, fun hn => ?_⟩
  obtain ⟨g, ha, hg, hc⟩ := h4 hn
  obtain ⟨y, hy⟩ := (hc 0 (by omega)).1
  have hlt : g < w.heap.size := World.block_lt_of_cell? w _ hy
  refine ⟨g, ha, hg, fun j hj => ?_⟩
  rw [World.cell?_of_block (w := w) (a := ⟨g, j, none⟩) (hb.block g hlt), World.frozen?_of_block (w := w) (a := ⟨g, j, none⟩) (hb.block g hlt)]
  exact hc j hj
theorem Ces.rm {B : Nat} {x : Value} {L : List Ce} (h : Ces w B x L) : Rm (fun g => B ≤ g) w x := by
  rcases h.2 with ⟨rfl, h0⟩ | ⟨g, cap, cur, rfl, hB, hg, hnc, hcm, hs, ht⟩
  · exact ⟨none, 0, 0, rfl, Nat.le_refl _, Nat.zero_le _, fun q => by omega⟩
  · refine ⟨_, _, cap, rfl, hnc, hcm, fun _ => ⟨g, rfl, hB, fun j hj => ⟨?_, ?_⟩⟩⟩
    · rw [cell_of_row w g j cur _ (0, 0) hg]
      exact ⟨_, Array.getElem?_eq_getElem (by omega)⟩
    · exact frozen_of_row w g _ cur _ hg
end
theorem whole_run (a : Option Addr) (n c : Nat) : ∀ W : World, (Instr.slice 22 (.slice a n c) none (some (.int .i64 (c : Int))) none).run Try.prog W = .ok (.slice a c c) W := fun W => by
  have := run_slice_h (P := Try.prog) (w := W) 22 a n c Try.underlying22 .i64 (c : Int) (by omega) (by omega)
  simp [this, go_sem, sliced, Addr.add]
  try (intro _; cases a <;> simp [Addr.add])
end Go.Proofs.Ytmapnkjmgpkhfab.ring
