/- a slice of numbers as an argument: what its cells hold, and what it weighs. -/
import Derived.Test.YtemlafdmeaobfabRouA
import Derived.OpenShut
import Derived.ChangeArms
import Derived.ChangeSame
import Derived.SliceStrings
import Derived.Carry
import Derived.SizedLaws
import Derived.Deep.Slices
import Derived.Deep.Strs
namespace Go.Proofs.Ytemlafdmeaobfab.route
open Go.ChangeShapes Go.WideShapes Go.ChangeAt Go.RowKit Go.Deep
set_option linter.unusedVariables false
set_option maxRecDepth 10000

theorem laid_out : laidOutB Try.prog = true := by kernel_rfl
theorem ints_cells : Try.prog.cellsOf 23 = 1 := by kernel_rfl
theorem int_bytes : Try.prog.bytesOf 3 = 8 := by kernel_rfl
theorem int_cells : Try.prog.cellsOf 3 = 1 := by kernel_rfl
theorem wf64 {n : Int} (h : (Lit.int .i64 n).wf = true) : -9223372036854775808 ≤ n ∧ n ≤ 9223372036854775807 := by
  have h1 : IntKind.i64.min ≤ n ∧ n ≤ 9223372036854775807 := by simpa [Lit.wf] using h
  have h2 : IntKind.i64.min = -9223372036854775808 := by decide
  omega
theorem range_at {α : Type} {f : Nat → α} {len i : Nat} {x : α} (h : ((List.range len).map f)[i]? = some x) : i < len ∧ f i = x := by
  rw [List.getElem?_map] at h
  have hi : i < len := by
    rcases Nat.lt_or_ge i len with q | q
    · exact q
    · rw [List.getElem?_eq_none (by simpa using q)] at h; cases h
  rw [List.getElem?_eq_getElem (by simpa using hi)] at h
  simp at h
  exact ⟨hi, h⟩
theorem spot_of {w : World} {a : Addr} {v : Value} (h : w.cell? (a.add 0) = some v) : ∃ g off, a = ⟨g, off, none⟩ ∧ g < w.heap.size := by
  obtain ⟨b, off, spot⟩ := a
  have hspot : spot = none := by simpa [Addr.add] using World.cell?_spot h
  subst hspot
  exact ⟨b, off, rfl, by simpa [Addr.add] using World.block_lt_of_cell? w _ h⟩
section
variable {H : Type} {enc : TypeId × Value → H} {w : World} {base : Nat} {spare : Nat → Bool} {held : Bool}
theorem open_ints {fuel : Nat} {v : Value} {x : DataW H × List MemPlace} (h : DataW.trod enc Try.prog w base spare held fuel 23 [v] = some x) : ∃ l, Ris w v l := by
  rcases open_slice1 Try.underlying23 int_cells h with ⟨hcs, _⟩ | ⟨a, len, cap, m, n, V, D, Pl, hcs, _, hl, hm, hmm, _, hcell⟩
  · simp at hcs; subst hcs
    exact ⟨[], none, 0, rfl, Nat.le_refl _, Nat.zero_le _, fun q => by simp at q⟩
  · simp at hcs; subst hcs
    have hlm : len ≤ m := by rw [hmm]; split <;> omega
    have hE : ∀ i, i < len → ∃ k : Int, V i = .int .i64 k := fun i hi => by
      obtain ⟨k, e, _, _⟩ := DataW.trod_int Try.underlying3 (hcell i (by omega)).2
      simp at e
      exact ⟨k, e⟩
    obtain ⟨E, hE⟩ := choose_lt hE
    refine ⟨(List.range len).map E, some a, cap, by simp, by simpa using hl, hm, fun hn => ?_⟩
    have hn : 0 < len := by simpa using hn
    obtain ⟨g, off, rfl, hg⟩ := spot_of (hcell 0 (by omega)).1
    refine ⟨g, off, rfl, hg, fun j y hy => ?_⟩
    obtain ⟨hj, rfl⟩ := range_at hy
    have := (hcell j (by omega)).1
    rw [Addr.add_lit, hE j hj] at this
    exact this
theorem ints_open {r : Reach} {b0 : Nat} {v : Value} {x : DataW H} {p : List MemPlace} (hv : Value.okWide Try.prog w r b0 23 v) (h : DataW.Trod enc Try.prog w base spare held 23 v x p) : ∃ l, Ris w v l := by
  obtain ⟨a0, len, cap, rfl⟩ := okWide_slice Try.underlying23 hv
  obtain ⟨fuel, hf⟩ := h
  exact open_ints hf
/-- what is read weighs no more than this -/
def Lt (t : TypeId) (x : DataW H) : Prop := ∀ n ∈ x.weights Try.prog t, n ≤ reachBytes
theorem Lt.slice {t e : TypeId} {elems sp : List (DataW H)} (ht : Try.prog.underlying t = some (.slice e)) (h : Lt t (DataW.slice elems sp)) : elems.length * Try.prog.bytesOf e ≤ reachBytes := by
  unfold Lt at h
  rw [DataW.weights] at h
  simp only [ht] at h
  have h1 := h _ (List.mem_cons_self ..)
  exact Nat.le_trans (Nat.mul_le_mul_right _ (Nat.le_add_right _ _)) h1
theorem ints_w {fuel : Nat} {v : Value} {x : DataW H × List MemPlace} (h : DataW.trod enc Try.prog w base spare held fuel 23 [v] = some x) (hw : Lt 23 x.1) {l : List Int} (hr : Ris w v l) : l.length * 8 ≤ reachBytes := by
  obtain ⟨a', c', hv, _⟩ := hr
  rcases open_slice1 Try.underlying23 int_cells h with ⟨hcs, _⟩ | ⟨a, len, cap, m, n, V, D, Pl, hcs, _, hl, hm, hmm, hx, hcell⟩
  · simp at hcs; rw [hcs] at hv; injection hv with _ h1 _; rw [← h1]; exact Nat.zero_le _
  · simp at hcs; rw [hcs] at hv; injection hv with _ h1 _
    rw [hx] at hw
    have := hw.slice Try.underlying23
    rw [List.length_map, List.length_range, int_bytes, h1] at this
    exact this
theorem ints_weighs {v : Value} {l : List Int} {x : DataW H} {p : List MemPlace} (h : DataW.Trod enc Try.prog w base spare held 23 v x p) (hr : Ris w v l) (hw : Lt 23 x) : l.length * 8 ≤ reachBytes := by
  have hr' := hr
  obtain ⟨a', c', hv, _⟩ := hr'
  subst hv
  obtain ⟨fuel, hf⟩ := h
  exact ints_w hf hw hr
end
end Go.Proofs.Ytemlafdmeaobfab.route
