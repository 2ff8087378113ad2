/- a disk as an argument: what its cells hold, and what it weighs. -/
import Derived.Test.YtecknicmonhcaabDoorScsA
import Derived.OpenShut
import Derived.ChangeArms
import Derived.ChangeSame
import Derived.SliceStrings
import Derived.Carry
import Derived.SizedLaws
import Derived.Deep.Slices
import Derived.Deep.Strs
namespace Go.Proofs.YtecknicmonhcaabDoor.scsi
open Go.ChangeShapes Go.WideShapes Go.ChangeAt Go.RowKit Go.Deep Go.Proofs.YtecknicmonhcaabDoor.pipe
set_option linter.unusedVariables false
set_option maxRecDepth 10000

theorem laid_out : laidOutB Tryd.prog = true := by kernel_rfl
theorem int_cells : Tryd.prog.cellsOf 3 = 1 := by kernel_rfl
theorem txt_cells : Tryd.prog.cellsOf 9 = 1 := by kernel_rfl
theorem txs_cells : Tryd.prog.cellsOf 22 = 1 := by kernel_rfl
theorem dk_cells : Tryd.prog.cellsOf 24 = 2 := by kernel_rfl
theorem txt_bytes : Tryd.prog.bytesOf 9 = 16 := by kernel_rfl
theorem range_at {α : Type} {f : Nat → α} {len i : Nat} {x : α} (h : ((List.range len).map f)[i]? = some x) : i < len ∧ f i = x := by
  rw [List.getElem?_map] at h
  have hi : i < len := by
    rcases Nat.lt_or_ge i len with q | q
    · exact q
    · rw [List.getElem?_eq_none (by simpa using q)] at h; cases h
  rw [List.getElem?_eq_getElem (by simpa using hi)] at h
  simp at h
  exact ⟨hi, h⟩
theorem spot_of {w : World} {a : Addr} {v : Value} (h : w.cell? (a.add 0) = some v) : ∃ g off, a = ⟨g, off, none⟩ ∧ g < w.heap.size := by
  obtain ⟨b, off, spot⟩ := a
  have hspot : spot = none := by simpa [Addr.add] using World.cell?_spot h
  subst hspot
  exact ⟨b, off, rfl, by simpa [Addr.add] using World.block_lt_of_cell? w _ h⟩
section
variable {H : Type} {enc : TypeId × Value → H} {w : World} {base : Nat} {spare : Nat → Bool} {held : Bool}
theorem open_txs {fuel : Nat} {v : Value} {x : DataW H × List MemPlace} (h : DataW.trod enc Tryd.prog w base spare held fuel 22 [v] = some x) : ∃ l, Rts w v l := by
  rcases open_strs Tryd.underlying22 Tryd.underlying9 txt_cells h with ⟨hcs, _⟩ | ⟨a, len, cap, m, Sx, hcs, _, hl, hm, hmm, _, hcell⟩
  · simp at hcs; subst hcs
    exact ⟨[], Rts.nil w⟩
  · simp at hcs; subst hcs
    have hlm : len ≤ m := by rw [hmm]; split <;> omega
    refine ⟨(List.range len).map Sx, some a, cap, by simp, by simpa using hl, hm, fun hn => ?_⟩
    have hn : 0 < len := by simpa using hn
    obtain ⟨g, off, rfl, hg⟩ := spot_of (hcell 0 (by omega)).1
    refine ⟨g, off, rfl, hg, fun j y hy => ?_⟩
    obtain ⟨hj, rfl⟩ := range_at hy
    have := (hcell j (by omega)).1
    rwa [Addr.add_lit] at this
theorem dk_open {r : Reach} {b0 : Nat} {v : Value} {x : DataW H} {p : List MemPlace} (hv : Value.okWide Tryd.prog w r b0 24 v) (h : DataW.Trod enc Tryd.prog w base spare held 24 v x p) :
    ∃ (y : Value) (l : List ByteArray) (s : Int), v = dkV y s ∧ Rts w y l := by
  obtain ⟨cs, rfl, hsz⟩ := okWide_struct Tryd.underlying24 hv
  obtain ⟨fuel, hf⟩ := h
  obtain ⟨xs, n, _, hx, _, hxl, hfs⟩ := DataW.trod_struct Tryd.underlying24 hf
  obtain ⟨l⟩ := cs
  have hl5 : l.length = 2 := hsz.trans dk_cells
  match l, hl5 with
  | [c0, c1], _ =>
    match xs, hxl with
    | [y0, y1], _ =>
      have g0 := hfs 0 _ rfl
      have g1 := hfs 1 _ rfl
      simp [Value.cells, int_cells, txs_cells] at g0 g1
      obtain ⟨k1, e1, _, _⟩ := DataW.trod_int Tryd.underlying3 g1
      obtain ⟨L, hL⟩ := open_txs g0
      simp at e1
      subst e1
      exact ⟨c0, L, k1, rfl, hL⟩
/-- what is read weighs no more than this -/
def Lt (t : TypeId) (x : DataW H) : Prop := ∀ n ∈ x.weights Tryd.prog t, n ≤ reachBytes
theorem Lt.slice {t e : TypeId} {elems sp : List (DataW H)} (ht : Tryd.prog.underlying t = some (.slice e)) (h : Lt t (DataW.slice elems sp)) : elems.length * Tryd.prog.bytesOf e ≤ reachBytes := by
  unfold Lt at h
  rw [DataW.weights] at h
  simp only [ht] at h
  have h1 := h _ (List.mem_cons_self ..)
  exact Nat.le_trans (Nat.mul_le_mul_right _ (Nat.le_add_right _ _)) h1
theorem Lt.part {t : TypeId} {fs : Array Field} {parts : List (DataW H)} (ht : Tryd.prog.underlying t = some (.struct fs)) (h : Lt t (DataW.agg parts)) {j : Nat} {u : TypeId} {d : DataW H} (h1 : (fs.toList.map (·.type))[j]? = some u) (h2 : parts[j]? = some d) : Lt u d := by
  unfold Lt at h
  rw [DataW.weights] at h
  simp only [ht] at h
  exact fun n hn => h n (DataW.weights_mem_each h1 h2 n hn)
theorem txs_w {fuel : Nat} {v : Value} {x : DataW H × List MemPlace} (h : DataW.trod enc Tryd.prog w base spare held fuel 22 [v] = some x) (hw : Lt 22 x.1) {l : List ByteArray} (hr : Rts w v l) : l.length * 16 ≤ reachBytes := by
  obtain ⟨a', c', hv, _⟩ := hr
  rcases open_strs Tryd.underlying22 Tryd.underlying9 txt_cells h with ⟨hcs, _⟩ | ⟨a, len, cap, m, Sx, hcs, _, hl, hm, hmm, hx, hcell⟩
  · simp at hcs; rw [hcs] at hv; injection hv with _ h1 _; rw [← h1]; exact Nat.zero_le _
  · simp at hcs; rw [hcs] at hv; injection hv with _ h1 _
    rw [hx] at hw
    have := hw.slice Tryd.underlying22
    rw [List.length_map, List.length_range, txt_bytes, h1] at this
    exact this
theorem dk_weighs {y : Value} {l : List ByteArray} {s : Int} {x : DataW H} {p : List MemPlace} (h : DataW.Trod enc Tryd.prog w base spare held 24 (dkV y s) x p) (hc : Rts w y l) (hw : Lt 24 x) : l.length * 16 ≤ reachBytes := by
  obtain ⟨fuel, hf⟩ := h
  obtain ⟨xs, n, _, hx, _, hxl, hfs⟩ := DataW.trod_struct Tryd.underlying24 hf
  have g0 := hfs 0 _ rfl
  injection hx with hx _
  rw [hx] at hw
  match xs, hxl with
  | [y0, y1], _ =>
    simp [Value.cells, txs_cells] at g0
    exact txs_w g0 (hw.part Tryd.underlying24 (j := 0) rfl rfl) hc
end
end Go.Proofs.YtecknicmonhcaabDoor.scsi
