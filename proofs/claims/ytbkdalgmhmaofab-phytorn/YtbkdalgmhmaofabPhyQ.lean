/- a slice of texts as an argument: what its cells hold. -/
import Derived.Test.YtbkdalgmhmaofabPhyL
import Derived.OpenShut
import Derived.ChangeArms
import Derived.ChangeSame
import Derived.SliceStrings
import Derived.Carry
namespace Go.Proofs.Ytbkdalgmhmaofab.lane
open Go.ChangeShapes Go.WideShapes Go.ChangeAt Go.RowKit

theorem txt_cells : Try.prog.cellsOf 9 = 1 := by kernel_rfl
theorem laid_out : laidOutB Try.prog = true := by kernel_rfl
theorem sts_open {H : Type} {enc : TypeId × Value → H} {w : World} {base : Nat} {spare : Nat → Bool} {held : Bool} {r : Reach} {b0 : Nat} {v : Value} {x : DataW H} {p : List MemPlace} (hv : Value.okWide Try.prog w r b0 22 v) (h : DataW.Trod enc Try.prog w base spare held 22 v x p) :
    ∃ (a : Option Addr) (cap : Nat) (l : List ByteArray), v = .slice a l.length cap ∧ l.length ≤ cap ∧ cap ≤ maxLen ∧ Sts w a l ∧ ∀ y ∈ l, y.size ≤ maxLen := by
  obtain ⟨a0, len, cap, rfl⟩ := okWide_slice Try.underlying22 hv
  obtain ⟨fuel, hf⟩ := h
  rcases open_strings Try.underlying22 Try.underlying9 txt_cells hf with ⟨hcs, hx⟩ | ⟨a, len', cap', ss, hcs, _, hl, hm, hz, hx, hcell, hws⟩
  · simp [Value.cells] at hcs
    obtain ⟨rfl, rfl, rfl⟩ := hcs
    exact ⟨none, 0, [], rfl, Nat.zero_le _, Nat.zero_le _, fun j y hj => by simp at hj, fun y hy => by simp at hy⟩
  · simp [Value.cells] at hcs
    obtain ⟨rfl, rfl, rfl⟩ := hcs
    have hss : len ≤ ss.length := by rw [hz]; split <;> omega
    refine ⟨some a, cap, ss.take len, ?_, ?_, hm, ?_, ?_⟩
    · rw [List.length_take, Nat.min_eq_left hss]
    · rw [List.length_take, Nat.min_eq_left hss]; exact hl
    · intro j y hj
      have hj1 := (List.getElem?_eq_some_iff.1 hj).1
      rw [List.length_take, Nat.min_eq_left hss] at hj1
      have hc := hcell j (by omega)
      obtain ⟨b, off, spot⟩ := a
      have hspot : spot = none := by simpa [Addr.add] using World.cell?_spot (hcell 0 (by omega))
      subst hspot
      refine ⟨b, off, rfl, ?_⟩
      rw [Addr.add_lit] at hc
      rw [hc]
      rw [List.getElem?_take, if_pos hj1] at hj
      simp [List.getD, hj]
    · intro y hy
      exact hws y (List.mem_of_mem_take hy)
end Go.Proofs.Ytbkdalgmhmaofab.lane
