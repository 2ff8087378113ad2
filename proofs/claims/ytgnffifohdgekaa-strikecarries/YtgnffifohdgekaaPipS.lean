/- a slice of texts: what it is from k on, and up to k. -/
import Derived.Test.YtgnffifohdgekaaPipG
namespace Go.Proofs.Ytgnffifohdgekaa.pipe
open Go.RowKit
set_option linter.unusedVariables false
set_option maxRecDepth 100000

theorem Rts.from {w : World} {a : Option Addr} {n c : Nat} {T : List ByteArray} (h : Rts w (.slice a n c) T) (k : Nat) (hk : k ≤ n) :
    ∃ a1, (∀ W : World, (Instr.slice 22 (.slice a n c) (some (.int .i64 (k : Int))) none none).run Try.prog W = .ok (.slice a1 (n - k) (c - k)) W) ∧ Rts w (.slice a1 (n - k) (c - k)) (T.drop k) := by
  obtain ⟨a', c', hv, h1, h2, h4⟩ := h
  injection hv with e1 e2 e3
  subst e1 e2 e3
  refine ⟨if c = k then a else a.map (·.add k), fun W => ?_, if c = k then a else a.map (·.add k), c - k, by rw [List.length_drop], by rw [List.length_drop]; omega, by omega, fun hn => ?_⟩
  · have := run_slice_l (P := Try.prog) (w := W) 22 a T.length c Try.underlying22 .i64 (k : Int) (by omega) (by omega)
    simp [this, go_sem, sliced]
  · rw [List.length_drop] at hn
    obtain ⟨g, off, rfl, hg, hc⟩ := h4 (by omega)
    refine ⟨g, off + k, by rw [if_neg (by omega)]; simp [Addr.add_lit], hg, fun j x hx => ?_⟩
    rw [List.getElem?_drop] at hx
    rw [show off + k + j = off + (k + j) by omega]
    exact hc _ x hx
theorem Rts.upto {w : World} {a : Option Addr} {n c : Nat} {T : List ByteArray} (h : Rts w (.slice a n c) T) (k : Nat) (hk : k ≤ n) :
    (∀ W : World, (Instr.slice 22 (.slice a n c) none (some (.int .i64 (k : Int))) none).run Try.prog W = .ok (.slice a k c) W) ∧ Rts w (.slice a k c) (T.take k) := by
  obtain ⟨a', c', hv, h1, h2, h4⟩ := h
  injection hv with e1 e2 e3
  subst e1 e2 e3
  have hl : (T.take k).length = k := by rw [List.length_take, Nat.min_eq_left hk]
  refine ⟨fun W => ?_, a, c, by rw [hl], by omega, h2, fun hn => ?_⟩
  · have := run_slice_h (P := Try.prog) (w := W) 22 a T.length c Try.underlying22 .i64 (k : Int) (by omega) (by omega)
    simp [this, go_sem, sliced, Addr.add]
    try (intro _; cases a <;> simp [Addr.add])
  · obtain ⟨g, off, rfl, hg, hc⟩ := h4 (by omega)
    refine ⟨g, off, rfl, hg, fun j x hx => hc j x ?_⟩
    have hj := (List.getElem?_eq_some_iff.1 hx).1
    rw [List.getElem?_take, if_pos (by omega)] at hx
    exact hx
end Go.Proofs.Ytgnffifohdgekaa.pipe
