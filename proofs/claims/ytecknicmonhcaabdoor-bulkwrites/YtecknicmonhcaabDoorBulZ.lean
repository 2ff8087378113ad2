/- texts that are read stay when a disk's box is written. -/
import Derived.Test.YtecknicmonhcaabDoorBulI
import Derived.Test.YtecknicmonhcaabDoorBulL
namespace Go.Proofs.YtecknicmonhcaabDoor.bulk
open Go Go.RowKit Go.PlainAid Go.Proofs.YtecknicmonhcaabDoor.lane Go.Proofs.YtecknicmonhcaabDoor.pipe Go.Proofs.YtecknicmonhcaabDoor.strike
set_option linter.unusedVariables false
set_option linter.unusedSimpArgs false
set_option maxRecDepth 100000

/-- texts that are read stay when a disk's box is written -/
theorem rtz_chg {w u : World} {B : Nat} {v y : Value} {l : List ByteArray} {s : Int} {T : TypeId} (h : Rts w v l) (hB : w.heap[B]? = some (bx T (dkl y s))) (hy : ∀ x, y ≠ .string x) (hc : Chg B w u) : Rts u v l := by
  by_cases hl : 0 < l.length
  · refine Rts.chg h hc fun a n c hv e => ?_
    obtain ⟨a', c', hv', h1, h2, h4⟩ := h
    obtain ⟨g, off, ha, hg, hcell⟩ := h4 hl
    have : a = ⟨g, off, none⟩ := by
      rw [hv] at hv'; injection hv' with q _ _; rw [ha] at q; injection q
    subst this
    have e : g = B := e
    subst e
    have hx := hcell 0 l[0] (List.getElem?_eq_getElem hl)
    rw [Nat.add_zero, cell_of_row w g off _ _ (0, 0) hB] at hx
    match off, hx with
    | 0, hx =>
      have : y = .string l[0] := by simpa [dkl] using hx
      exact hy _ this
    | 1, hx => simp [dkl] at hx
    | k + 2, hx => simp [dkl] at hx
  · obtain ⟨a, c, hv, h1, h2, _⟩ := h
    exact ⟨a, c, hv, h1, h2, fun q => absurd q hl⟩
theorem nil_list : (⟨#[]⟩ : ByteArray).toList = [] := by decide +kernel
theorem size_nil {A : ByteArray} (h : A.size = 0) : A = ⟨#[]⟩ := by
  apply nums_inj
  have := nums_length A
  rw [h] at this
  rw [List.length_eq_zero_iff.1 this]; rfl
theorem nil_ne {A : ByteArray} (h : A.size ≠ 0) : (A.toList == []) = false := by
  have q := toList_beq A ⟨#[]⟩
  rw [nil_list] at q
  rw [q]
  exact decide_eq_false fun e => h (by rw [e]; rfl)
end Go.Proofs.YtecknicmonhcaabDoor.bulk
