/- a hub as an argument: what its cells hold. -/
import Derived.Test.YtdnmjeiljpdmcaaHubC
import Derived.OpenShut
import Derived.ChangeArms
import Derived.ChangeSame
import Derived.SliceStrings
import Derived.Carry
import Derived.SizedLaws
import Derived.Deep.Slices
import Derived.Deep.Strs
namespace Go.Proofs.Ytdnmjeiljpdmcaa.hub
open Go.ChangeShapes Go.WideShapes Go.ChangeAt Go.RowKit Go.Deep
open Go.Proofs.Ytdnmjeiljpdmcaa.slots (cl cl_at)
set_option linter.unusedVariables false
set_option maxRecDepth 10000

theorem laid_out : laidOutB Try.prog = true := by kernel_rfl
theorem int_cells : Try.prog.cellsOf 3 = 1 := by kernel_rfl
theorem port_cells : Try.prog.cellsOf 23 = 2 := by kernel_rfl
theorem ports_cells : Try.prog.cellsOf 24 = 32 := by kernel_rfl
theorem hub_cells : Try.prog.cellsOf 26 = 33 := by kernel_rfl
def InI (x : Int) : Prop := -9223372036854775808 ≤ x ∧ x ≤ 9223372036854775807
def AllI (cs : List Value) : Prop := ∀ i, i < cs.length → ∃ x : Int, cs[i]? = some (.int .i64 x) ∧ InI x
theorem AllI.list : ∀ {cs : List Value}, AllI cs → ∃ l : List Int, cs = l.map (Value.int .i64) ∧ ∀ x ∈ l, InI x
  | [], _ => ⟨[], rfl, fun x hx => by cases hx⟩
  | c :: r, h => by
    obtain ⟨x, hx, hb⟩ := h 0 (by simp)
    obtain ⟨l, rfl, hl⟩ := AllI.list (cs := r) (fun i hi => by simpa using h (i + 1) (by simpa using hi))
    simp at hx
    refine ⟨x :: l, by rw [hx]; rfl, fun y hy => ?_⟩
    rcases List.mem_cons.1 hy with rfl | q
    · exact hb
    · exact hl y q
theorem AllI.at {cs : List Value} {k n : Nat} (h : AllI ((cs.drop k).take n)) (hk : k + n ≤ cs.length) (i : Nat) (h1 : k ≤ i) (h2 : i < k + n) : ∃ x : Int, cs[i]? = some (.int .i64 x) ∧ InI x := by
  obtain ⟨x, hx, hb⟩ := h (i - k) (by simp; omega)
  refine ⟨x, ?_, hb⟩
  rw [List.getElem?_take, if_pos (by omega), List.getElem?_drop, show k + (i - k) = i by omega] at hx
  exact hx
section
variable {H : Type} {enc : TypeId × Value → H} {w : World} {base : Nat} {spare : Nat → Bool} {held : Bool}
theorem some_at {α : Type} {xs : List α} {i : Nat} (h : i < xs.length) : ∃ y, xs[i]? = some y := ⟨_, List.getElem?_eq_getElem h⟩
theorem open_port {fuel : Nat} {cs : List Value} {x : DataW H × List MemPlace} (h : DataW.trod enc Try.prog w base spare held fuel 23 cs = some x) : AllI cs := by
  obtain ⟨xs, n, _, hx, hlen, hxl, hfs⟩ := DataW.trod_struct Try.underlying23 h
  rw [port_cells] at hlen
  match cs, hlen with
  | [c0, c1], _ =>
    have g0 := hfs 0 _ rfl
    have g1 := hfs 1 _ rfl
    match xs, hxl with
    | [y0, y1], _ =>
      simp [int_cells] at g0 g1
      obtain ⟨k0, e0, _, f0⟩ := DataW.trod_int Try.underlying3 g0
      obtain ⟨k1, e1, _, f1⟩ := DataW.trod_int Try.underlying3 g1
      simp at e0 e1
      subst e0 e1
      intro i hi
      match i, hi with
      | 0, _ => exact ⟨k0, rfl, bounds_i64 f0⟩
      | 1, _ => exact ⟨k1, rfl, bounds_i64 f1⟩
theorem open_ports {fuel : Nat} {cs : List Value} {x : DataW H × List MemPlace} (h : DataW.trod enc Try.prog w base spare held fuel 24 cs = some x) : AllI cs := by
  obtain ⟨xs, m, _, hx, hlen, hxl, hfs⟩ := DataW.trod_array Try.underlying24 h
  rw [ports_cells] at hlen
  intro i hi
  have g := hfs (i / 2) (by omega)
  obtain ⟨y, hy⟩ := some_at (xs := xs) (i := i / 2) (by omega)
  rw [hy, port_cells] at g
  exact AllI.at (open_port g) (by omega) i (by omega) (by omega)
theorem hb_open {r : Reach} {b0 : Nat} {v : Value} {x : DataW H} {p : List MemPlace} (hv : Value.okWide Try.prog w r b0 26 v) (h : DataW.Trod enc Try.prog w base spare held 26 v x p) : ∃ F : List Int, v = ag F ∧ Hb F := by
  obtain ⟨cs, rfl, hsz⟩ := okWide_struct Try.underlying26 hv
  rw [hub_cells] at hsz
  obtain ⟨fuel, hf⟩ := h
  obtain ⟨xs, n, _, hx, hlen, hxl, hfs⟩ := DataW.trod_struct Try.underlying26 hf
  obtain ⟨l⟩ := cs
  have hl5 : l.length = 33 := hsz
  match xs, hxl with
  | [y0, y1], _ =>
    have g0 : DataW.trod enc Try.prog w base spare held n 3 ((l.drop 0).take (Try.prog.cellsOf 3)) = some y0 := hfs 0 _ rfl
    have g1 : DataW.trod enc Try.prog w base spare held n 24 ((l.drop 1).take (Try.prog.cellsOf 24)) = some y1 := hfs 1 _ rfl
    rw [int_cells] at g0
    rw [ports_cells] at g1
    obtain ⟨k0, e0, _, f0⟩ := DataW.trod_int Try.underlying3 g0
    have a1 := open_ports g1
    have ha : AllI l := by
      intro i hi
      by_cases j0 : i = 0
      · subst j0
        have := congrArg (fun l => l[0]?) e0
        simp only [List.getElem?_take, List.getElem?_drop] at this
        exact ⟨k0, by simpa using this, bounds_i64 f0⟩
      · exact AllI.at (k := 1) (n := 32) a1 (by omega) i (by omega) (by omega)
    obtain ⟨m, rfl, hm⟩ := ha.list
    rw [List.length_map] at hl5
    have hcl : ∀ j, InI (cl m j) := fun j => by
      by_cases hj : j < m.length
      · have := cl_at hj
        rw [List.getElem?_eq_getElem hj] at this
        injection this with e
        rw [← e]
        exact hm _ (List.getElem_mem hj)
      · have : cl m j = 0 := by unfold cl; rw [List.getD_eq_getElem?_getD, List.getElem?_eq_none (by omega)]; rfl
        rw [this]; exact ⟨by decide, by decide⟩
    exact ⟨m, rfl, hl5, fun j => (hcl j).1, fun j => (hcl j).2⟩
end
end Go.Proofs.Ytdnmjeiljpdmcaa.hub
