/- an arena as an argument, and a slice of numbers: what their cells hold, and what they weigh. -/
import Derived.Test.YtifebinpjpalhaaAreA
import Derived.OpenShut
import Derived.ChangeArms
import Derived.ChangeSame
import Derived.SliceStrings
import Derived.Carry
import Derived.SizedLaws
import Derived.Deep.Slices
import Derived.Deep.Strs
namespace Go.Proofs.Ytifebinpjpalhaa.arena
open Go.ChangeShapes Go.WideShapes Go.ChangeAt Go.RowKit Go.Deep
set_option linter.unusedVariables false
set_option maxRecDepth 10000

theorem laid_out : laidOutB Try.prog = true := by kernel_rfl
theorem int_cells : Try.prog.cellsOf 3 = 1 := by kernel_rfl
theorem span_cells : Try.prog.cellsOf 43 = 2 := by kernel_rfl
theorem spans_cells : Try.prog.cellsOf 22 = 1 := by kernel_rfl
theorem arena_cells : Try.prog.cellsOf 24 = 2 := by kernel_rfl
theorem span_bytes : Try.prog.bytesOf 43 = 16 := by kernel_rfl
theorem wf64 {n : Int} (h : (Lit.int .i64 n).wf = true) : -9223372036854775808 ≤ n ∧ n ≤ 9223372036854775807 := by
  have h1 : IntKind.i64.min ≤ n ∧ n ≤ 9223372036854775807 := by simpa [Lit.wf] using h
  have h2 : IntKind.i64.min = -9223372036854775808 := by decide
  omega
theorem range_at {α : Type} {f : Nat → α} {len i : Nat} {x : α} (h : ((List.range len).map f)[i]? = some x) : i < len ∧ f i = x := by
  rw [List.getElem?_map] at h
  have hi : i < len := by
    rcases Nat.lt_or_ge i len with q | q
    · exact q
    · rw [List.getElem?_eq_none (by simpa using q)] at h; cases h
  rw [List.getElem?_eq_getElem (by simpa using hi)] at h
  simp at h
  exact ⟨hi, h⟩
theorem spot_of {w : World} {a : Addr} {v : Value} (h : w.cell? (a.add 0) = some v) : ∃ g off, a = ⟨g, off, none⟩ ∧ g < w.heap.size := by
  obtain ⟨b, off, spot⟩ := a
  have hspot : spot = none := by simpa [Addr.add] using World.cell?_spot h
  subst hspot
  exact ⟨b, off, rfl, by simpa [Addr.add] using World.block_lt_of_cell? w _ h⟩
section
variable {H : Type} {enc : TypeId × Value → H} {w : World} {base : Nat} {spare : Nat → Bool} {held : Bool}
theorem open_span {fuel : Nat} {cs : List Value} {x : DataW H × List MemPlace} (h : DataW.trod enc Try.prog w base spare held fuel 43 cs = some x) :
    ∃ e : Sp, cs = pcell e ∧ (-9223372036854775808 ≤ e.1 ∧ e.1 ≤ 9223372036854775807) ∧ -9223372036854775808 ≤ e.2 ∧ e.2 ≤ 9223372036854775807 := by
  obtain ⟨xs, n, _, hx, hlen, hxl, hfs⟩ := DataW.trod_struct Try.underlying43 h
  rw [span_cells] at hlen
  match cs, hlen with
  | [c0, c1], _ =>
    have g0 := hfs 0 _ rfl
    have g1 := hfs 1 _ rfl
    match xs, hxl with
    | [y0, y1], _ =>
      simp [int_cells] at g0 g1
      obtain ⟨k0, e0, _, f0⟩ := DataW.trod_int Try.underlying3 g0
      obtain ⟨k1, e1, _, f1⟩ := DataW.trod_int Try.underlying3 g1
      simp at e0 e1
      subst e0 e1
      exact ⟨(k0, k1), rfl, wf64 f0, wf64 f1⟩
theorem open_spans {fuel : Nat} {v : Value} {x : DataW H × List MemPlace} (h : DataW.trod enc Try.prog w base spare held fuel 22 [v] = some x) : ∃ L, Rss w v L ∧ Inr L := by
  rcases open_slice Try.underlying22 h with ⟨hcs, _⟩ | ⟨a, len, cap, m, n, D, Pl, hcs, _, hl, hm, hmm, _, hcell⟩
  · simp at hcs; subst hcs
    exact ⟨[], Rss.nil w, fun q hq => by simp at hq⟩
  · simp at hcs; subst hcs
    have hlm : len ≤ m := by rw [hmm]; split <;> omega
    rw [span_cells] at hcell
    have hE : ∀ i, i < len → ∃ e : Sp, (∀ r y, (pcell e)[r]? = some y → w.cell? ((a.add (i * 2)).add r) = some y) ∧ (-9223372036854775808 ≤ e.1 ∧ e.1 ≤ 9223372036854775807) ∧ -9223372036854775808 ≤ e.2 ∧ e.2 ≤ 9223372036854775807 := by
      intro i hi
      obtain ⟨cs', h1, h2⟩ := hcell i (by omega)
      obtain ⟨e, rfl, he⟩ := open_span h2
      obtain ⟨_, _, h3⟩ := World.cells?_some h1
      refine ⟨e, fun r y hy => ?_, he⟩
      have hr : r < 2 := (List.getElem?_eq_some_iff.1 hy).1
      rw [h3 r hr]; exact hy
    obtain ⟨E, hE⟩ := choose_lt hE
    refine ⟨(List.range len).map E, ⟨some a, cap, by simp, by simpa using hl, hm, fun hn => ?_⟩, fun q hq => ?_⟩
    · have hn : 0 < len := by simpa using hn
      have h0 := (hE 0 hn).1 0 _ rfl
      obtain ⟨g, off, rfl, hg⟩ := spot_of (a := a) (by simpa [Addr.add] using h0)
      refine ⟨g, off, rfl, hg, fun j y hy => ?_⟩
      obtain ⟨hj, rfl⟩ := range_at hy
      have h1 := (hE j hj).1 0 _ rfl
      have h2 := (hE j hj).1 1 _ rfl
      rw [Addr.add_lit, Addr.add_lit] at h1 h2
      exact ⟨h1, h2⟩
    · obtain ⟨i, hi, rfl⟩ := List.mem_map.1 hq
      exact (hE i (List.mem_range.1 hi)).2
theorem ar_open {r : Reach} {b0 : Nat} {v : Value} {x : DataW H} {p : List MemPlace} (hv : Value.okWide Try.prog w r b0 24 v) (h : DataW.Trod enc Try.prog w base spare held 24 v x p) :
    ∃ (z : Int) (u : Value) (L : List Sp), v = arV z u ∧ (Rss w u L ∧ Inr L) := by
  obtain ⟨cs, rfl, hsz⟩ := okWide_struct Try.underlying24 hv
  obtain ⟨fuel, hf⟩ := h
  obtain ⟨xs, n, _, hx, _, hxl, hfs⟩ := DataW.trod_struct Try.underlying24 hf
  obtain ⟨l⟩ := cs
  have hl5 : l.length = 2 := hsz.trans arena_cells
  match l, hl5 with
  | [c0, c1], _ =>
    have g0 := hfs 0 _ rfl
    have g1 := hfs 1 _ rfl
    match xs, hxl with
    | [y0, y1], _ =>
      simp [Value.cells, int_cells, spans_cells] at g0 g1
      obtain ⟨k0, e0, _, _⟩ := DataW.trod_int Try.underlying3 g0
      obtain ⟨L, hL⟩ := open_spans g1
      simp at e0
      subst e0
      exact ⟨k0, c1, L, rfl, hL⟩
/-- what is read weighs no more than this -/
def Lt (t : TypeId) (x : DataW H) : Prop := ∀ n ∈ x.weights Try.prog t, n ≤ reachBytes
theorem Lt.slice {t e : TypeId} {elems sp : List (DataW H)} (ht : Try.prog.underlying t = some (.slice e)) (h : Lt t (DataW.slice elems sp)) : elems.length * Try.prog.bytesOf e ≤ reachBytes := by
  unfold Lt at h
  rw [DataW.weights] at h
  simp only [ht] at h
  have h1 := h _ (List.mem_cons_self ..)
  exact Nat.le_trans (Nat.mul_le_mul_right _ (Nat.le_add_right _ _)) h1
theorem Lt.part {t : TypeId} {fs : Array Field} {parts : List (DataW H)} (ht : Try.prog.underlying t = some (.struct fs)) (h : Lt t (DataW.agg parts)) {j : Nat} {u : TypeId} {d : DataW H} (h1 : (fs.toList.map (·.type))[j]? = some u) (h2 : parts[j]? = some d) : Lt u d := by
  unfold Lt at h
  rw [DataW.weights] at h
  simp only [ht] at h
  exact fun n hn => h n (DataW.weights_mem_each h1 h2 n hn)
theorem spans_w {fuel : Nat} {v : Value} {x : DataW H × List MemPlace} (h : DataW.trod enc Try.prog w base spare held fuel 22 [v] = some x) (hw : Lt 22 x.1) {l : List Sp} (hr : Rss w v l) : l.length * 16 ≤ reachBytes := by
  obtain ⟨a', c', hv, _⟩ := hr
  rcases open_slice Try.underlying22 h with ⟨hcs, _⟩ | ⟨a, len, cap, m, n, D, Pl, hcs, _, hl, hm, hmm, hx, hcell⟩
  · simp at hcs; rw [hcs] at hv; injection hv with _ h1 _; rw [← h1]; exact Nat.zero_le _
  · simp at hcs; rw [hcs] at hv; injection hv with _ h1 _
    rw [hx] at hw
    have := hw.slice Try.underlying22
    rw [List.length_map, List.length_range, span_bytes, h1] at this
    exact this
theorem ar_weighs {z : Int} {u : Value} {L : List Sp} {x : DataW H} {p : List MemPlace} (h : DataW.Trod enc Try.prog w base spare held 24 (arV z u) x p) (hc : Rss w u L ∧ Inr L) (hw : Lt 24 x) : L.length * 16 ≤ reachBytes := by
  obtain ⟨fuel, hf⟩ := h
  obtain ⟨xs, n, _, hx, _, hxl, hfs⟩ := DataW.trod_struct Try.underlying24 hf
  have g1 := hfs 1 _ rfl
  injection hx with hx _
  rw [hx] at hw
  match xs, hxl with
  | [y0, y1], _ =>
    simp [Value.cells, spans_cells] at g1
    exact spans_w g1 (hw.part Try.underlying24 (j := 1) rfl rfl) hc.1
end
end Go.Proofs.Ytifebinpjpalhaa.arena
