/- PipeOwn: texts that are written over, the room behind them, too. -/
import Derived.Test.YtjmbklbobofciabPipA
namespace Go.Proofs.Ytjmbklbobofciab.pipe
open Go.RowKit
set_option linter.unusedVariables false
set_option linter.unusedSimpArgs false
set_option maxRecDepth 100000

/-- a slice with all its room in a block of which p holds -/
def Rm (p : Nat → Prop) (w : World) (v : Value) : Prop :=
  ∃ a n c, v = .slice a n c ∧ n ≤ c ∧ c ≤ maxLen ∧ (0 < c → ∃ g off, a = some ⟨g, off, none⟩ ∧ p g ∧ ∀ j, j < c → (∃ x, w.cell? ⟨g, off + j, none⟩ = some x) ∧ w.frozen? ⟨g, off + j, none⟩ = false)
/-- only cells in blocks of which p holds are other than they were -/
structure Sp (p : Nat → Prop) (w w' : World) : Prop where
  os : w'.os = w.os
  tape : w'.tape = w.tape
  output : w'.output = w.output
  size : w'.heap.size = w.heap.size
  block : ∀ k, ¬ p k → w'.heap[k]? = w.heap[k]?
  cell : ∀ a x, w.cell? a = some x → ∃ y, w'.cell? a = some y
  frozen : ∀ a, w'.frozen? a = w.frozen? a
section
variable {p : Nat → Prop} {w u v : World}
theorem Sp.refl (p : Nat → Prop) (w : World) : Sp p w w := ⟨rfl, rfl, rfl, rfl, fun _ _ => rfl, fun _ x h => ⟨x, h⟩, fun _ => rfl⟩
theorem Sp.set (h : Sp p w u) {g k : Nat} (hg : p g) (x : Value) : Sp p w (u.setCell ⟨g, k, none⟩ x) :=
  ⟨h.os, h.tape, h.output, by have := h.size; simpa using this, fun i hi => (heap_setCell_other _ _ _ _ (fun q => hi (by rw [q]; exact hg))).trans (h.block i hi),
    fun a y hy => by obtain ⟨z, hz⟩ := h.cell a y hy; exact cell?_setCell_some hz, fun a => (World.frozen?_setCell _ _ _ _).trans (h.frozen a)⟩
theorem Sp.below {B : Nat} (h : Sp p w u) (hp : ∀ k, k < B → ¬ p k) : Below B w u := ⟨h.os, h.tape, h.output, Nat.le_of_eq h.size.symm, fun k hk => h.block k (hp k hk)⟩
theorem Rm.sp {x : Value} (h : Rm p w x) (hs : Sp p w u) : Rm p u x := by
  obtain ⟨a, n, c, hv, h1, h2, h4⟩ := h
  refine ⟨a, n, c, hv, h1, h2, fun hn => ?_⟩
  obtain ⟨g, off, ha, hp, hc⟩ := h4 hn
  refine ⟨g, off, ha, hp, fun j hj => ⟨?_, (hs.frozen _).trans (hc j hj).2⟩⟩
  obtain ⟨x, hx⟩ := (hc j hj).1
  exact hs.cell _ x hx
theorem Ow.rm {x : Value} {l : List ByteArray} (h : Ow p w x l) : Rm p w x := by
  obtain ⟨a, c, hv, h1, h2, h4⟩ := h
  refine ⟨a, _, c, hv, h1, h2, fun hn => ?_⟩
  obtain ⟨g, off, ha, hp, _, _, hc⟩ := h4 hn
  exact ⟨g, off, ha, hp, hc⟩
end
theorem whole_run (a : Option Addr) (n c : Nat) : ∀ W : World, (Instr.slice 22 (.slice a n c) none (some (.int .i64 (c : Int))) none).run Try.prog W = .ok (.slice a c c) W := fun W => by
  have := run_slice_h (P := Try.prog) (w := W) 22 a n c Try.underlying22 .i64 (c : Int) (by omega) (by omega)
  simp [this, go_sem, sliced, Addr.add]
  try (intro _; cases a <;> simp [Addr.add])
set_option maxHeartbeats 1000000 in
theorem spoil_any (p : Nat → Prop) (v : Value) (w : World) (h : Rm p w v) : Calls Try.prog 7 #[v] w fun e w' => e = .returned (.tuple #[]) ∧ Sp p w w' := by
  obtain ⟨a, n, c, rfl, h1, h2, h4⟩ := h
  have HR : Hid (0 < c → ∃ g off, a = some ⟨g, off, none⟩ ∧ p g ∧ ∀ j, j < c → (∃ x, w.cell? ⟨g, off + j, none⟩ = some x) ∧ w.frozen? ⟨g, off + j, none⟩ = false) := h4
  have hw := whole_run a n c
  unfold maxLen at h2
  clear h4
  go_enter Try.func7, Try.ntmps7
  go_wp2
  go_loopw [9] (fun i wr => ∃ k : Nat, k ≤ c ∧ i = .int .i64 (k : Int) ∧ Hid (Sp p w wr)) (fun i _ => c - (intOf i).toNat)
  case atStart => exact ⟨0, Nat.zero_le _, rfl, Sp.refl _ _⟩
  case round =>
    obtain ⟨k, hk, rfl, HS⟩ := hrel
    by_cases hlt : ¬ k < c
    · clear hw
      go_wp2
      go_returns
      exact ⟨rfl, HS.out⟩
    · have hlt : k < c := by omega
      obtain ⟨g, off, rfl, hp, hc⟩ := HR.out (by omega)
      obtain ⟨⟨x, hx⟩, hf⟩ := hc k hlt
      obtain ⟨y, hy⟩ := HS.out.cell _ x hx
      have hfr : wr.frozen? ⟨g, off + k, none⟩ = false := (HS.out.frozen _).trans hf
      have HE : Hid (Sp p w (wr.setCell ⟨g, off + k, none⟩ (.string ⟨#[115, 112, 111, 105, 108, 116]⟩))) := HS.out.set hp _
      clear hw HR hp hc hx hf HS
      go_wp2
      go_roundw
      case rel => exact ⟨k + 1, by omega, by go_num, HE.out⟩
      case measure => simp [intOf]; omega
end Go.Proofs.Ytjmbklbobofciab.pipe
