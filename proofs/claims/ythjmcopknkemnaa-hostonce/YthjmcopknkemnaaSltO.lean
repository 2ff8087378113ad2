/- a board as an argument, a command, and a slice of commands: what their cells hold. -/
import Derived.Test.YthjmcopknkemnaaSltA
import Derived.OpenShut
import Derived.ChangeArms
import Derived.ChangeSame
import Derived.SliceStrings
import Derived.Carry
import Derived.SizedLaws
import Derived.Deep.Slices
import Derived.Deep.Strs
namespace Go.Proofs.Ythjmcopknkemnaa.slots
open Go.ChangeShapes Go.WideShapes Go.ChangeAt Go.RowKit Go.Deep
set_option linter.unusedVariables false
set_option maxRecDepth 10000

theorem laid_out : laidOutB Try.prog = true := by kernel_rfl
theorem int_cells : Try.prog.cellsOf 3 = 1 := by kernel_rfl
theorem ends_cells : Try.prog.cellsOf 36 = 32 := by kernel_rfl
theorem slot_cells : Try.prog.cellsOf 38 = 66 := by kernel_rfl
theorem slots_cells : Try.prog.cellsOf 39 = 594 := by kernel_rfl
theorem board_cells : Try.prog.cellsOf 41 = 594 := by kernel_rfl
theorem cmd_cells : Try.prog.cellsOf 23 = 4 := by kernel_rfl
def AllI (cs : List Value) : Prop := ∀ i, i < cs.length → ∃ x : Int, cs[i]? = some (.int .i64 x)
theorem AllI.list : ∀ {cs : List Value}, AllI cs → ∃ l : List Int, cs = l.map (Value.int .i64)
  | [], _ => ⟨[], rfl⟩
  | c :: r, h => by
    obtain ⟨x, hx⟩ := h 0 (by simp)
    obtain ⟨l, rfl⟩ := AllI.list (cs := r) (fun i hi => by simpa using h (i + 1) (by simpa using hi))
    simp at hx
    exact ⟨x :: l, by rw [hx]; rfl⟩
theorem AllI.at {cs : List Value} {k n : Nat} (h : AllI ((cs.drop k).take n)) (hk : k + n ≤ cs.length) (i : Nat) (h1 : k ≤ i) (h2 : i < k + n) : ∃ x : Int, cs[i]? = some (.int .i64 x) := by
  obtain ⟨x, hx⟩ := h (i - k) (by simp; omega)
  refine ⟨x, ?_⟩
  rw [List.getElem?_take, if_pos (by omega), List.getElem?_drop, show k + (i - k) = i by omega] at hx
  exact hx
section
variable {H : Type} {enc : TypeId × Value → H} {w : World} {base : Nat} {spare : Nat → Bool} {held : Bool}
theorem some_at {α : Type} {xs : List α} {i : Nat} (h : i < xs.length) : ∃ y, xs[i]? = some y := ⟨_, List.getElem?_eq_getElem h⟩
theorem open_ends {fuel : Nat} {cs : List Value} {x : DataW H × List MemPlace} (h : DataW.trod enc Try.prog w base spare held fuel 36 cs = some x) : AllI cs := by
  obtain ⟨xs, m, _, hx, hlen, hxl, hfs⟩ := DataW.trod_array Try.underlying36 h
  rw [ends_cells] at hlen
  intro i hi
  have g := hfs i (by omega)
  obtain ⟨y, hy⟩ := some_at (xs := xs) (i := i) (by omega)
  rw [hy, int_cells, Nat.mul_one] at g
  obtain ⟨k, e, _, _⟩ := DataW.trod_int Try.underlying3 g
  have := congrArg (fun l => l[0]?) e
  simp only [List.getElem?_take, List.getElem?_drop] at this
  exact ⟨k, by simpa using this⟩
theorem open_slot {fuel : Nat} {cs : List Value} {x : DataW H × List MemPlace} (h : DataW.trod enc Try.prog w base spare held fuel 38 cs = some x) : AllI cs := by
  obtain ⟨xs, m, _, hx, hlen, hxl, hfs⟩ := DataW.trod_struct Try.underlying38 h
  rw [slot_cells] at hlen
  match xs, hxl with
  | [y0, y1, y2, y3], _ =>
    have g0 : DataW.trod enc Try.prog w base spare held m 3 ((cs.drop 0).take (Try.prog.cellsOf 3)) = some y0 := hfs 0 _ rfl
    have g1 : DataW.trod enc Try.prog w base spare held m 3 ((cs.drop 1).take (Try.prog.cellsOf 3)) = some y1 := hfs 1 _ rfl
    have g2 : DataW.trod enc Try.prog w base spare held m 36 ((cs.drop 2).take (Try.prog.cellsOf 36)) = some y2 := hfs 2 _ rfl
    have g3 : DataW.trod enc Try.prog w base spare held m 36 ((cs.drop 34).take (Try.prog.cellsOf 36)) = some y3 := hfs 3 _ rfl
    rw [int_cells] at g0 g1
    rw [ends_cells] at g2 g3
    obtain ⟨k0, e0, _, _⟩ := DataW.trod_int Try.underlying3 g0
    obtain ⟨k1, e1, _, _⟩ := DataW.trod_int Try.underlying3 g1
    have a2 := open_ends g2
    have a3 := open_ends g3
    intro i hi
    by_cases j0 : i = 0
    · subst j0
      have := congrArg (fun l => l[0]?) e0
      simp only [List.getElem?_take, List.getElem?_drop] at this
      exact ⟨k0, by simpa using this⟩
    by_cases j1 : i = 1
    · subst j1
      have := congrArg (fun l => l[0]?) e1
      simp only [List.getElem?_take, List.getElem?_drop] at this
      exact ⟨k1, by simpa using this⟩
    by_cases j2 : i < 34
    · exact AllI.at (k := 2) (n := 32) a2 (by omega) i (by omega) (by omega)
    · exact AllI.at (k := 34) (n := 32) a3 (by omega) i (by omega) (by omega)
theorem open_slots {fuel : Nat} {cs : List Value} {x : DataW H × List MemPlace} (h : DataW.trod enc Try.prog w base spare held fuel 39 cs = some x) : AllI cs := by
  obtain ⟨xs, m, _, hx, hlen, hxl, hfs⟩ := DataW.trod_array Try.underlying39 h
  rw [slots_cells] at hlen
  intro i hi
  have g := hfs (i / 66) (by omega)
  obtain ⟨y, hy⟩ := some_at (xs := xs) (i := i / 66) (by omega)
  rw [hy, slot_cells] at g
  exact AllI.at (open_slot g) (by omega) i (by omega) (by omega)
theorem bd_open {r : Reach} {b0 : Nat} {v : Value} {x : DataW H} {p : List MemPlace} (hv : Value.okWide Try.prog w r b0 41 v) (h : DataW.Trod enc Try.prog w base spare held 41 v x p) : ∃ B : Bd, v = ag (fl B) ∧ Wf B := by
  obtain ⟨cs, rfl, hsz⟩ := okWide_struct Try.underlying41 hv
  rw [board_cells] at hsz
  obtain ⟨fuel, hf⟩ := h
  obtain ⟨xs, n, _, hx, hlen, hxl, hfs⟩ := DataW.trod_struct Try.underlying41 hf
  obtain ⟨l⟩ := cs
  have hl5 : l.length = 594 := hsz
  match xs, hxl with
  | [y0], _ =>
    have g0 : DataW.trod enc Try.prog w base spare held n 39 ((l.drop 0).take (Try.prog.cellsOf 39)) = some y0 := hfs 0 _ rfl
    rw [slots_cells] at g0
    have a0 := open_slots g0
    have e : (List.drop 0 l).take 594 = l := by rw [List.drop_zero, List.take_of_length_le (by omega)]
    have a1 : AllI l := by
      have : AllI ((List.drop 0 l).take 594) := a0
      rw [e] at this
      exact this
    obtain ⟨m, rfl⟩ := a1.list
    rw [List.length_map] at hl5
    exact ⟨toB m, by rw [fl_toB hl5]; rfl, toB_wf hl5⟩
theorem open_cmd {fuel : Nat} {cs : List Value} {x : DataW H × List MemPlace} (h : DataW.trod enc Try.prog w base spare held fuel 23 cs = some x) : ∃ k n e a : Int, cs = [.int .i64 k, .int .i64 n, .int .i64 e, .int .i64 a] ∧ (-9223372036854775808 ≤ n ∧ n ≤ 9223372036854775807) ∧ (-9223372036854775808 ≤ a ∧ a ≤ 9223372036854775807) ∧ (-9223372036854775808 ≤ k ∧ k ≤ 9223372036854775807) ∧ (-9223372036854775808 ≤ e ∧ e ≤ 9223372036854775807) := by
  obtain ⟨xs, n, _, hx, hlen, hxl, hfs⟩ := DataW.trod_struct Try.underlying23 h
  rw [cmd_cells] at hlen
  match cs, hlen with
  | [c0, c1, c2, c3], _ =>
    have g0 := hfs 0 _ rfl
    have g1 := hfs 1 _ rfl
    have g2 := hfs 2 _ rfl
    have g3 := hfs 3 _ rfl
    match xs, hxl with
    | [y0, y1, y2, y3], _ =>
      simp [int_cells] at g0 g1 g2 g3
      obtain ⟨k0, e0, _, f0⟩ := DataW.trod_int Try.underlying3 g0
      obtain ⟨k1, e1, _, f1⟩ := DataW.trod_int Try.underlying3 g1
      obtain ⟨k2, e2, _, f2⟩ := DataW.trod_int Try.underlying3 g2
      obtain ⟨k3, e3, _, f3⟩ := DataW.trod_int Try.underlying3 g3
      simp at e0 e1 e2 e3
      subst e0 e1 e2 e3
      exact ⟨k0, k1, k2, k3, rfl, bounds_i64 f1, bounds_i64 f3, bounds_i64 f0, bounds_i64 f2⟩
structure InB (k n e a : Int) : Prop where
  n1 : -9223372036854775808 ≤ n
  n2 : n ≤ 9223372036854775807
  a1 : -9223372036854775808 ≤ a
  a2 : a ≤ 9223372036854775807
  k1 : -9223372036854775808 ≤ k
  k2 : k ≤ 9223372036854775807
  e1 : -9223372036854775808 ≤ e
  e2 : e ≤ 9223372036854775807
theorem cm_open {r : Reach} {b0 : Nat} {v : Value} {x : DataW H} {p : List MemPlace} (hv : Value.okWide Try.prog w r b0 23 v) (h : DataW.Trod enc Try.prog w base spare held 23 v x p) : ∃ k n e a : Int, v = ag [k, n, e, a] ∧ InB k n e a := by
  obtain ⟨cs, rfl, hsz⟩ := okWide_struct Try.underlying23 hv
  obtain ⟨fuel, hf⟩ := h
  obtain ⟨k, n, e, a, hc, hn, ha, hk, he⟩ := open_cmd hf
  obtain ⟨l⟩ := cs
  simp only [Value.cells] at hc
  subst hc
  exact ⟨k, n, e, a, rfl, hn.1, hn.2, ha.1, ha.2, hk.1, hk.2, he.1, he.2⟩
end
end Go.Proofs.Ythjmcopknkemnaa.slots
