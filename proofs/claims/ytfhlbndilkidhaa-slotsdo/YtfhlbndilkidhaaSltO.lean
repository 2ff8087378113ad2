/- a board as an argument, a command, and a slice of commands: what their cells hold. -/
import Derived.Test.YtfhlbndilkidhaaSltA
import Derived.OpenShut
import Derived.ChangeArms
import Derived.ChangeSame
import Derived.SliceStrings
import Derived.Carry
import Derived.SizedLaws
import Derived.Deep.Slices
import Derived.Deep.Strs
namespace Go.Proofs.Ytfhlbndilkidhaa.slots
open Go.ChangeShapes Go.WideShapes Go.ChangeAt Go.RowKit Go.Deep
set_option linter.unusedVariables false
set_option maxRecDepth 10000

theorem laid_out : laidOutB Try.prog = true := by kernel_rfl
theorem int_cells : Try.prog.cellsOf 3 = 1 := by kernel_rfl
theorem ends_cells : Try.prog.cellsOf 22 = 32 := by kernel_rfl
theorem slot_cells : Try.prog.cellsOf 24 = 66 := by kernel_rfl
theorem slots_cells : Try.prog.cellsOf 25 = 594 := by kernel_rfl
theorem board_cells : Try.prog.cellsOf 27 = 594 := by kernel_rfl
theorem cmd_cells : Try.prog.cellsOf 29 = 4 := by kernel_rfl
def AllI (cs : List Value) : Prop := ∀ i, i < cs.length → ∃ x : Int, cs[i]? = some (.int .i64 x)
theorem AllI.list : ∀ {cs : List Value}, AllI cs → ∃ l : List Int, cs = l.map (Value.int .i64)
  | [], _ => ⟨[], rfl⟩
  | c :: r, h => by
    obtain ⟨x, hx⟩ := h 0 (by simp)
    obtain ⟨l, rfl⟩ := AllI.list (cs := r) (fun i hi => by simpa using h (i + 1) (by simpa using hi))
    simp at hx
    exact ⟨x :: l, by rw [hx]; rfl⟩
theorem AllI.at {cs : List Value} {k n : Nat} (h : AllI ((cs.drop k).take n)) (hk : k + n ≤ cs.length) (i : Nat) (h1 : k ≤ i) (h2 : i < k + n) : ∃ x : Int, cs[i]? = some (.int .i64 x) := by
  obtain ⟨x, hx⟩ := h (i - k) (by simp; omega)
  refine ⟨x, ?_⟩
  rw [List.getElem?_take, if_pos (by omega), List.getElem?_drop, show k + (i - k) = i by omega] at hx
  exact hx
section
variable {H : Type} {enc : TypeId × Value → H} {w : World} {base : Nat} {spare : Nat → Bool} {held : Bool}
theorem some_at {α : Type} {xs : List α} {i : Nat} (h : i < xs.length) : ∃ y, xs[i]? = some y := ⟨_, List.getElem?_eq_getElem h⟩
theorem open_ends {fuel : Nat} {cs : List Value} {x : DataW H × List MemPlace} (h : DataW.trod enc Try.prog w base spare held fuel 22 cs = some x) : AllI cs := by
  obtain ⟨xs, m, _, hx, hlen, hxl, hfs⟩ := DataW.trod_array Try.underlying22 h
  rw [ends_cells] at hlen
  intro i hi
  have g := hfs i (by omega)
  obtain ⟨y, hy⟩ := some_at (xs := xs) (i := i) (by omega)
  rw [hy, int_cells, Nat.mul_one] at g
  obtain ⟨k, e, _, _⟩ := DataW.trod_int Try.underlying3 g
  have := congrArg (fun l => l[0]?) e
  simp only [List.getElem?_take, List.getElem?_drop] at this
  exact ⟨k, by simpa using this⟩
theorem open_slot {fuel : Nat} {cs : List Value} {x : DataW H × List MemPlace} (h : DataW.trod enc Try.prog w base spare held fuel 24 cs = some x) : AllI cs := by
  obtain ⟨xs, m, _, hx, hlen, hxl, hfs⟩ := DataW.trod_struct Try.underlying24 h
  rw [slot_cells] at hlen
  match xs, hxl with
  | [y0, y1, y2, y3], _ =>
    have g0 : DataW.trod enc Try.prog w base spare held m 3 ((cs.drop 0).take (Try.prog.cellsOf 3)) = some y0 := hfs 0 _ rfl
    have g1 : DataW.trod enc Try.prog w base spare held m 3 ((cs.drop 1).take (Try.prog.cellsOf 3)) = some y1 := hfs 1 _ rfl
    have g2 : DataW.trod enc Try.prog w base spare held m 22 ((cs.drop 2).take (Try.prog.cellsOf 22)) = some y2 := hfs 2 _ rfl
    have g3 : DataW.trod enc Try.prog w base spare held m 22 ((cs.drop 34).take (Try.prog.cellsOf 22)) = some y3 := hfs 3 _ rfl
    rw [int_cells] at g0 g1
    rw [ends_cells] at g2 g3
    obtain ⟨k0, e0, _, _⟩ := DataW.trod_int Try.underlying3 g0
    obtain ⟨k1, e1, _, _⟩ := DataW.trod_int Try.underlying3 g1
    have a2 := open_ends g2
    have a3 := open_ends g3
    intro i hi
    by_cases j0 : i = 0
    · subst j0
      have := congrArg (fun l => l[0]?) e0
      simp only [List.getElem?_take, List.getElem?_drop] at this
      exact ⟨k0, by simpa using this⟩
    by_cases j1 : i = 1
    · subst j1
      have := congrArg (fun l => l[0]?) e1
      simp only [List.getElem?_take, List.getElem?_drop] at this
      exact ⟨k1, by simpa using this⟩
    by_cases j2 : i < 34
    · exact AllI.at (k := 2) (n := 32) a2 (by omega) i (by omega) (by omega)
    · exact AllI.at (k := 34) (n := 32) a3 (by omega) i (by omega) (by omega)
theorem open_slots {fuel : Nat} {cs : List Value} {x : DataW H × List MemPlace} (h : DataW.trod enc Try.prog w base spare held fuel 25 cs = some x) : AllI cs := by
  obtain ⟨xs, m, _, hx, hlen, hxl, hfs⟩ := DataW.trod_array Try.underlying25 h
  rw [slots_cells] at hlen
  intro i hi
  have g := hfs (i / 66) (by omega)
  obtain ⟨y, hy⟩ := some_at (xs := xs) (i := i / 66) (by omega)
  rw [hy, slot_cells] at g
  exact AllI.at (open_slot g) (by omega) i (by omega) (by omega)
theorem bd_open {r : Reach} {b0 : Nat} {v : Value} {x : DataW H} {p : List MemPlace} (hv : Value.okWide Try.prog w r b0 27 v) (h : DataW.Trod enc Try.prog w base spare held 27 v x p) : ∃ B : Bd, v = ag (fl B) ∧ Wf B := by
  obtain ⟨cs, rfl, hsz⟩ := okWide_struct Try.underlying27 hv
  rw [board_cells] at hsz
  obtain ⟨fuel, hf⟩ := h
  obtain ⟨xs, n, _, hx, hlen, hxl, hfs⟩ := DataW.trod_struct Try.underlying27 hf
  obtain ⟨l⟩ := cs
  have hl5 : l.length = 594 := hsz
  match xs, hxl with
  | [y0], _ =>
    have g0 : DataW.trod enc Try.prog w base spare held n 25 ((l.drop 0).take (Try.prog.cellsOf 25)) = some y0 := hfs 0 _ rfl
    rw [slots_cells] at g0
    have a0 := open_slots g0
    have e : (List.drop 0 l).take 594 = l := by rw [List.drop_zero, List.take_of_length_le (by omega)]
    have a1 : AllI l := by
      have : AllI ((List.drop 0 l).take 594) := a0
      rw [e] at this
      exact this
    obtain ⟨m, rfl⟩ := a1.list
    rw [List.length_map] at hl5
    exact ⟨toB m, by rw [fl_toB hl5]; rfl, toB_wf hl5⟩
theorem open_cmd {fuel : Nat} {cs : List Value} {x : DataW H × List MemPlace} (h : DataW.trod enc Try.prog w base spare held fuel 29 cs = some x) : ∃ k n e a : Int, cs = [.int .i64 k, .int .i64 n, .int .i64 e, .int .i64 a] ∧ (-9223372036854775808 ≤ n ∧ n ≤ 9223372036854775807) ∧ (-9223372036854775808 ≤ a ∧ a ≤ 9223372036854775807) ∧ (-9223372036854775808 ≤ k ∧ k ≤ 9223372036854775807) ∧ (-9223372036854775808 ≤ e ∧ e ≤ 9223372036854775807) := by
  obtain ⟨xs, n, _, hx, hlen, hxl, hfs⟩ := DataW.trod_struct Try.underlying29 h
  rw [cmd_cells] at hlen
  match cs, hlen with
  | [c0, c1, c2, c3], _ =>
    have g0 := hfs 0 _ rfl
    have g1 := hfs 1 _ rfl
    have g2 := hfs 2 _ rfl
    have g3 := hfs 3 _ rfl
    match xs, hxl with
    | [y0, y1, y2, y3], _ =>
      simp [int_cells] at g0 g1 g2 g3
      obtain ⟨k0, e0, _, f0⟩ := DataW.trod_int Try.underlying3 g0
      obtain ⟨k1, e1, _, f1⟩ := DataW.trod_int Try.underlying3 g1
      obtain ⟨k2, e2, _, f2⟩ := DataW.trod_int Try.underlying3 g2
      obtain ⟨k3, e3, _, f3⟩ := DataW.trod_int Try.underlying3 g3
      simp at e0 e1 e2 e3
      subst e0 e1 e2 e3
      exact ⟨k0, k1, k2, k3, rfl, bounds_i64 f1, bounds_i64 f3, bounds_i64 f0, bounds_i64 f2⟩
structure InB (k n e a : Int) : Prop where
  n1 : -9223372036854775808 ≤ n
  n2 : n ≤ 9223372036854775807
  a1 : -9223372036854775808 ≤ a
  a2 : a ≤ 9223372036854775807
  k1 : -9223372036854775808 ≤ k
  k2 : k ≤ 9223372036854775807
  e1 : -9223372036854775808 ≤ e
  e2 : e ≤ 9223372036854775807
theorem cm_open {r : Reach} {b0 : Nat} {v : Value} {x : DataW H} {p : List MemPlace} (hv : Value.okWide Try.prog w r b0 29 v) (h : DataW.Trod enc Try.prog w base spare held 29 v x p) : ∃ k n e a : Int, v = ag [k, n, e, a] ∧ InB k n e a := by
  obtain ⟨cs, rfl, hsz⟩ := okWide_struct Try.underlying29 hv
  obtain ⟨fuel, hf⟩ := h
  obtain ⟨k, n, e, a, hc, hn, ha, hk, he⟩ := open_cmd hf
  obtain ⟨l⟩ := cs
  simp only [Value.cells] at hc
  subst hc
  exact ⟨k, n, e, a, rfl, hn.1, hn.2, ha.1, ha.2, hk.1, hk.2, he.1, he.2⟩
/-- a command; a slice that reads as these commands -/
abbrev Cm := Int × Int × Int × Int
def cmL (c : Cm) : List Int := [c.1, c.2.1, c.2.2.1, c.2.2.2]
def cmOk (c : Cm) : Prop := InB c.1 c.2.1 c.2.2.1 c.2.2.2
def Rcm (w : World) (v : Value) (T : List Cm) : Prop :=
  ∃ a c, v = .slice a T.length c ∧ T.length ≤ c ∧ c ≤ maxLen ∧ (0 < T.length → ∃ g off, a = some ⟨g, off, none⟩ ∧ g < w.heap.size ∧ ∀ j x, T[j]? = some x → cmOk x ∧ w.rangeAt g (off + j * 4) ((cmL x).map (Value.int .i64)))
theorem Rcm.nil (w : World) : Rcm w (.slice none 0 0) [] := ⟨none, 0, rfl, Nat.le_refl _, Nat.zero_le _, fun h => by simp at h⟩
theorem Rcm.form {w : World} {v : Value} {T : List Cm} (h : Rcm w v T) : ∃ a c, v = .slice a T.length c ∧ T.length ≤ c ∧ c ≤ maxLen := by
  obtain ⟨a, c, h, h1, h2, _⟩ := h; exact ⟨_, _, h, h1, h2⟩
theorem Rcm.at {w : World} {a : Option Addr} {n c : Nat} {T : List Cm} (h : Rcm w (.slice a n c) T) (k : Nat) (x : Cm) (hk : T[k]? = some x) : ∃ g off, a = some ⟨g, off, none⟩ ∧ cmOk x ∧ ∀ u, Below w.heap.size w u → u.rangeAt g (off + k * 4) ((cmL x).map (Value.int .i64)) := by
  obtain ⟨a', c', hv, h1, h2, h4⟩ := h
  have hl := (List.getElem?_eq_some_iff.1 hk).1
  obtain ⟨g, off, ha, hg, hc⟩ := h4 (by omega)
  have : a = a' := by injection hv
  exact ⟨g, off, this.trans ha, (hc k x hk).1, fun u hu j y hy => (hu.cell (p := ⟨g, off + k * 4 + j, none⟩) hg).trans ((hc k x hk).2 j y hy)⟩
theorem range_at {α : Type} {f : Nat → α} {len i : Nat} {x : α} (h : ((List.range len).map f)[i]? = some x) : i < len ∧ f i = x := by
  rw [List.getElem?_map] at h
  have hi : i < len := by
    rcases Nat.lt_or_ge i len with q | q
    · exact q
    · rw [List.getElem?_eq_none (by simpa using q)] at h; cases h
  rw [List.getElem?_eq_getElem (by simpa using hi)] at h
  simp at h
  exact ⟨hi, h⟩
theorem spot_of {w : World} {a : Addr} {v : Value} (h : w.cell? (a.add 0) = some v) : ∃ g off, a = ⟨g, off, none⟩ ∧ g < w.heap.size := by
  obtain ⟨b, off, spot⟩ := a
  have hspot : spot = none := by simpa [Addr.add] using World.cell?_spot h
  subst hspot
  exact ⟨b, off, rfl, by simpa [Addr.add] using World.block_lt_of_cell? w _ h⟩
theorem cms_open {r : Reach} {b0 : Nat} {v : Value} {x : DataW H} {p : List MemPlace} (hv : Value.okWide Try.prog w r b0 39 v) (h : DataW.Trod enc Try.prog w base spare held 39 v x p) : ∃ T, Rcm w v T := by
  obtain ⟨a0, len0, cap0, rfl⟩ := okWide_slice Try.underlying39 hv
  obtain ⟨fuel, hf⟩ := h
  rcases open_slice Try.underlying39 hf with ⟨hcs, _⟩ | ⟨a, len, cap, m, n, D, Pl, hcs, _, hl, hm, hmm, _, hcell⟩
  · simp [Value.cells] at hcs
    obtain ⟨rfl, rfl, rfl⟩ := hcs
    exact ⟨[], Rcm.nil w⟩
  · simp [Value.cells] at hcs
    obtain ⟨rfl, rfl, rfl⟩ := hcs
    have hlm : len0 ≤ m := by rw [hmm]; split <;> omega
    rw [cmd_cells] at hcell
    have hE : ∀ i, i < len0 → ∃ e : Cm, cmOk e ∧ ∀ r y, ((cmL e).map (Value.int .i64))[r]? = some y → w.cell? ((a.add (i * 4)).add r) = some y := by
      intro i hi
      obtain ⟨cs', h1, h2⟩ := hcell i (by omega)
      obtain ⟨k, n, e, ar, rfl, hn, ha, hk, he⟩ := open_cmd h2
      obtain ⟨_, _, h3⟩ := World.cells?_some h1
      refine ⟨(k, n, e, ar), ⟨hn.1, hn.2, ha.1, ha.2, hk.1, hk.2, he.1, he.2⟩, fun r y hy => ?_⟩
      have hr : r < 4 := (List.getElem?_eq_some_iff.1 hy).1
      rw [h3 r hr]; exact hy
    obtain ⟨E, hE⟩ := choose_lt hE
    refine ⟨(List.range len0).map E, some a, cap0, by simp, by simpa using hl, hm, fun hn => ?_⟩
    have hn : 0 < len0 := by simpa using hn
    have h0 := (hE 0 hn).2 0 _ rfl
    obtain ⟨g, off, rfl, hg⟩ := spot_of (a := a) (by simpa [Addr.add] using h0)
    refine ⟨g, off, rfl, hg, fun j y hy => ?_⟩
    obtain ⟨hj, rfl⟩ := range_at hy
    refine ⟨(hE j hj).1, fun r z hz => ?_⟩
    have := (hE j hj).2 r z hz
    rw [Addr.add_lit, Addr.add_lit] at this
    exact this
end
end Go.Proofs.Ytfhlbndilkidhaa.slots
