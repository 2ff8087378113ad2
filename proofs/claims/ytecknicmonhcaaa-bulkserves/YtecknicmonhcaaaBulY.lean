/- plugref: Served. (Written by tools/genbuly.py.) -/
import Derived.Test.YtecknicmonhcaaaBulX
import Derived.Test.YtecknicmonhcaaaBulU
import Derived.Test.YtecknicmonhcaaaBulVj
namespace Go.Proofs.Ytecknicmonhcaaa.bulk
open Go Go.RowKit Go.PlainAid Go.Proofs.Ytecknicmonhcaaa.lane Go.Proofs.Ytecknicmonhcaaa.pipe Go.Proofs.Ytecknicmonhcaaa.strike
open Go.Proofs.Ytecknicmonhcaaa.scsi (Dk chkC chk_iff doD doT doC diskRight_any do_none)
set_option linter.unusedVariables false
set_option linter.unusedSimpArgs false
set_option maxRecDepth 100000

/-- texts that are read stay when a disk's box is written -/
theorem rts_chg {w u : World} {B : Nat} {v y : Value} {l : List ByteArray} {s : Int} {T : TypeId} (h : Rts w v l) (hB : w.heap[B]? = some (bx T (dkl y s))) (hy : ∀ x, y ≠ .string x) (hc : Chg B w u) : Rts u v l := by
  by_cases hl : 0 < l.length
  · refine Rts.chg h hc fun a n c hv e => ?_
    obtain ⟨a', c', hv', h1, h2, h4⟩ := h
    obtain ⟨g, off, ha, hg, hcell⟩ := h4 hl
    have : a = ⟨g, off, none⟩ := by
      rw [hv] at hv'; injection hv' with q _ _; rw [ha] at q; injection q
    subst this
    have e : g = B := e
    subst e
    have hx := hcell 0 l[0] (List.getElem?_eq_getElem hl)
    rw [Nat.add_zero, cell_of_row w g off _ _ (0, 0) hB] at hx
    match off, hx with
    | 0, hx =>
      have : y = .string l[0] := by simpa [dkl] using hx
      exact hy _ this
    | 1, hx => simp [dkl] at hx
    | k + 2, hx => simp [dkl] at hx
  · obtain ⟨a, c, hv, h1, h2, _⟩ := h
    exact ⟨a, c, hv, h1, h2, fun q => absurd q hl⟩
theorem rts_ns {w : World} {v : Value} {l : List ByteArray} (h : Rts w v l) : ∀ x, v ≠ .string x := by
  obtain ⟨a, c, rfl, _⟩ := h
  exact fun x q => by cases q
theorem ext_zero (t : ByteArray) : t.extract 0 0 = ⟨#[]⟩ := by apply nums_inj; rw [nums_cut]; rfl
theorem ext_all {t : ByteArray} {n : Nat} (h : t.size ≤ n) : t.extract 0 n = t := by
  apply nums_inj
  rw [nums_cut, List.drop_zero, List.take_of_length_le]
  rw [nums_length]; omega
/-- what Served answers -/
def SdP (d : Dk) (s t : ByteArray) (w : World) (e : Ending) (w' : World) : Prop :=
  ∃ v', e = .returned (.tuple #[ag (dkl v' (svD d s t).s), .string (svA d s t), .string (svT d s t), .int .i64 (tkE d s t)]) ∧ Rts w' v' (svD d s t).b ∧ Below w.heap.size w w'
end Go.Proofs.Ytecknicmonhcaaa.bulk
