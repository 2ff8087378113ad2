/- a device and a configuration as arguments: what their cells hold. -/
import Derived.Test.YtebaepkghbihkaaDescH
import Derived.Test.YtebaepkghbihkaaDescE
import Derived.OpenShut
import Derived.ChangeArms
import Derived.ChangeSame
import Derived.SliceStrings
import Derived.Carry
import Derived.Deep.Slices
import Derived.Deep.Strs
namespace Go.Proofs.Ytebaepkghbihkaa.desc
open Go.ChangeShapes Go.WideShapes Go.ChangeAt Go.RowKit Go.Proofs.Ytebaepkghbihkaa.lane Go.PlainAid Go.Deep
set_option linter.unusedVariables false
set_option maxRecDepth 10000

theorem laid_out : laidOutB Try.prog = true := by kernel_rfl
theorem int_cells : Try.prog.cellsOf 3 = 1 := by kernel_rfl
theorem bool_cells : Try.prog.cellsOf 4 = 1 := by kernel_rfl
theorem txt_cells : Try.prog.cellsOf 9 = 1 := by kernel_rfl
theorem txs_cells : Try.prog.cellsOf 27 = 1 := by kernel_rfl
theorem ens_cells : Try.prog.cellsOf 62 = 1 := by kernel_rfl
theorem fcs_cells : Try.prog.cellsOf 24 = 1 := by kernel_rfl
theorem end_cells : Try.prog.cellsOf 86 = 5 := by kernel_rfl
theorem face_cells : Try.prog.cellsOf 64 = 6 := by kernel_rfl
theorem conf_cells : Try.prog.cellsOf 26 = 5 := by kernel_rfl
theorem flat_len {α : Type} (f : α → List Value) (s : Nat) (hs : ∀ x, (f x).length = s) (l : List α) : (l.flatMap f).length = l.length * s := by
  induction l with
  | nil => simp
  | cons x r ih => rw [List.flatMap_cons, List.length_append, ih, hs, List.length_cons, Nat.add_mul]; omega
theorem flat_at {α : Type} (f : α → List Value) (s : Nat) (hs : ∀ x, (f x).length = s) : ∀ (l : List α) (i r : Nat) (y : Value), r < s → (l.flatMap f)[i * s + r]? = some y → ∃ x, l[i]? = some x ∧ (f x)[r]? = some y := by
  intro l
  induction l with
  | nil => intro i r y _ h; simp at h
  | cons a t ih =>
    intro i r y hr h
    rw [List.flatMap_cons] at h
    cases i with
    | zero =>
      rw [Nat.zero_mul, Nat.zero_add, List.getElem?_append_left (by rw [hs]; exact hr)] at h
      exact ⟨a, rfl, h⟩
    | succ i =>
      rw [List.getElem?_append_right (by rw [hs, Nat.add_mul]; omega), hs, show (i + 1) * s + r - s = i * s + r by rw [Nat.add_mul]; omega] at h
      obtain ⟨x, h1, h2⟩ := ih i r y hr h
      exact ⟨x, by simpa using h1, h2⟩
theorem Rdg.rows {α : Type} {w : World} (f : α → List Value) (s : Nat) (h0 : 0 < s) (hs : ∀ x, (f x).length = s) (a : Addr) (l : List α) (cap : Nat) (hl : l.length ≤ cap) (hm : cap ≤ maxLen)
    (hc : ∀ i x, l[i]? = some x → ∀ r y, (f x)[r]? = some y → w.cell? (a.add (i * s + r)) = some y) : Rdg w s (.slice (some a) l.length cap) l.length (l.flatMap f) := by
  refine ⟨some a, cap, rfl, hl, hm, flat_len f s hs l, fun hn => ?_⟩
  have hcell : ∀ j y, (l.flatMap f)[j]? = some y → w.cell? (a.add j) = some y := by
    intro j y hj
    have e : j / s * s + j % s = j := by rw [Nat.mul_comm]; exact Nat.div_add_mod j s
    rw [← e] at hj
    obtain ⟨x, h1, h2⟩ := flat_at f s hs l (j / s) (j % s) y (Nat.mod_lt _ h0) hj
    have := hc _ x h1 _ y h2
    rwa [e] at this
  obtain ⟨b, off, spot⟩ := a
  have hne : 0 < (l.flatMap f).length := by rw [flat_len f s hs l]; exact Nat.mul_pos hn h0
  have hc0 := hcell 0 _ (List.getElem?_eq_getElem hne)
  have hspot : spot = none := by simpa [Addr.add] using World.cell?_spot hc0
  subst hspot
  refine ⟨b, off, rfl, ?_, fun j y hj => ?_⟩
  · have := World.block_lt_of_cell? w _ hc0
    simpa [Addr.add] using this
  · have := hcell j y hj
    rwa [Addr.add_lit] at this
theorem range_at {α : Type} {f : Nat → α} {len i : Nat} {x : α} (h : ((List.range len).map f)[i]? = some x) : i < len ∧ f i = x := by
  rw [List.getElem?_map] at h
  have hi : i < len := by
    rcases Nat.lt_or_ge i len with q | q
    · exact q
    · rw [List.getElem?_eq_none (by simpa using q)] at h; cases h
  rw [List.getElem?_eq_getElem (by simpa using hi)] at h
  simp at h
  exact ⟨hi, h⟩
theorem tcells_flat (ps : List (List Int)) : tcells ps = ps.flatMap fun p => [Value.string (strOfNums p)] := by
  induction ps with
  | nil => rfl
  | cons p r ih => rw [tcells, List.map_cons, List.flatMap_cons, ← ih]; rfl
theorem add_add {w : World} {a : Addr} {i r : Nat} {z : Value} (hz : w.cell? a = some z) : (a.add i).add r = a.add (i + r) := by
  have := World.cell?_spot hz
  obtain ⟨b, off, spot⟩ := a
  simp only at this
  subst this
  rw [Addr.add_lit, Addr.add_lit, Addr.add_lit, Nat.add_assoc]
theorem Rdg.none (w : World) (s : Nat) : Rdg w s (.slice Option.none 0 0) 0 [] := ⟨Option.none, 0, rfl, Nat.le_refl _, Nat.zero_le _, by simp, fun h => by omega⟩
section
variable {H : Type} {enc : TypeId × Value → H} {w : World} {base : Nat} {spare : Nat → Bool} {held : Bool}
theorem open_txs {fuel : Nat} {v : Value} {x : DataW H × List MemPlace} (h : DataW.trod enc Try.prog w base spare held fuel 27 [v] = some x) : ∃ ps, Rts w v ps ∧ BB ps ∧ ∀ p ∈ ps, p.length ≤ maxLen := by
  rcases open_strs Try.underlying27 Try.underlying9 txt_cells h with ⟨hcs, _⟩ | ⟨a, len, cap, m, Sx, hcs, _, hl, hm, hmm, _, hcell⟩
  · simp at hcs; subst hcs
    exact ⟨[], Rdg.none w 1, fun p hp => by simp at hp, fun p hp => by simp at hp⟩
  · simp at hcs; subst hcs
    have hlm : len ≤ m := by rw [hmm]; split <;> omega
    refine ⟨(List.range len).map fun i => nums (Sx i), ?_, ?_, ?_⟩
    · have hpl : ((List.range len).map fun i => nums (Sx i)).length = len := by simp
      have := Rdg.rows (w := w) (fun p : List Int => [Value.string (strOfNums p)]) 1 (by omega) (fun _ => rfl) a ((List.range len).map fun i => nums (Sx i)) cap (by simpa using hl) hm (by
        intro i x hx r y hy
        obtain ⟨hi, rfl⟩ := range_at hx
        match r, hy with
        | 0, hy =>
          simp at hy; subst hy
          rw [str_nums, Nat.mul_one, Nat.add_zero]
          exact (hcell i (by omega)).1
        | (r + 1), hy => simp at hy)
      rw [← tcells_flat] at this
      unfold Rts
      rw [hpl] at this ⊢
      exact this
    · intro p hp
      obtain ⟨i, _, rfl⟩ := List.mem_map.1 hp
      exact nums_byt _
    · intro p hp
      obtain ⟨i, hi, rfl⟩ := List.mem_map.1 hp
      rw [nums_length]
      exact (hcell i (by have := List.mem_range.1 hi; omega)).2

theorem open_end {fuel : Nat} {cs : List Value} {x : DataW H × List MemPlace} (h : DataW.trod enc Try.prog w base spare held fuel 86 cs = some x) : ∃ e, cs = ecell e := by
  obtain ⟨xs, n, _, hx, hlen, hxl, hfs⟩ := DataW.trod_struct Try.underlying86 h
  rw [end_cells] at hlen
  match cs, hlen with
  | [c0, c1, c2, c3, c4], _ =>
    have g0 := hfs 0 _ rfl
    have g1 := hfs 1 _ rfl
    have g2 := hfs 2 _ rfl
    have g3 := hfs 3 _ rfl
    have g4 := hfs 4 _ rfl
    match xs, hxl with
    | [y0, y1, y2, y3, y4], _ =>
      simp [int_cells, bool_cells] at g0 g1 g2 g3 g4
      obtain ⟨k0, e0, _, _⟩ := DataW.trod_int Try.underlying3 g0
      obtain ⟨k1, e1, _⟩ := DataW.trod_bool Try.underlying4 g1
      obtain ⟨k2, e2, _, _⟩ := DataW.trod_int Try.underlying3 g2
      obtain ⟨k3, e3, _, _⟩ := DataW.trod_int Try.underlying3 g3
      obtain ⟨k4, e4, _, _⟩ := DataW.trod_int Try.underlying3 g4
      simp at e0 e1 e2 e3 e4
      subst e0 e1 e2 e3 e4
      exact ⟨⟨k0, k1, k2, k3, k4⟩, rfl⟩
theorem open_ens {fuel : Nat} {v : Value} {x : DataW H × List MemPlace} (h : DataW.trod enc Try.prog w base spare held fuel 62 [v] = some x) : ∃ es, Rns w v es := by
  rcases open_slice Try.underlying62 h with ⟨hcs, _⟩ | ⟨a, len, cap, m, n, D, Pl, hcs, _, hl, hm, hmm, _, hcell⟩
  · simp at hcs; subst hcs
    exact ⟨[], Rdg.none w 5⟩
  · simp at hcs; subst hcs
    have hlm : len ≤ m := by rw [hmm]; split <;> omega
    rw [end_cells] at hcell
    have hE : ∀ i, i < len → ∃ e : En, ∀ r y, (ecell e)[r]? = some y → w.cell? ((a.add (i * 5)).add r) = some y := by
      intro i hi
      obtain ⟨cs', h1, h2⟩ := hcell i (by omega)
      obtain ⟨e, rfl⟩ := open_end h2
      obtain ⟨_, _, h3⟩ := World.cells?_some h1
      refine ⟨e, fun r y hy => ?_⟩
      have hr : r < 5 := (List.getElem?_eq_some_iff.1 hy).1
      rw [h3 r hr]; exact hy
    haveI : Inhabited En := ⟨⟨0, false, 0, 0, 0⟩⟩
    obtain ⟨E, hE⟩ := choose_lt hE
    refine ⟨(List.range len).map E, ?_⟩
    have hpl : ((List.range len).map E).length = len := by simp
    have := Rdg.rows (w := w) ecell 5 (by omega) (fun _ => rfl) a ((List.range len).map E) cap (by simpa using hl) hm (by
      intro i x hx r y hy
      obtain ⟨hi, rfl⟩ := range_at hx
      have h0 := hE 0 (by omega) 0 _ rfl
      rw [Nat.zero_mul] at h0
      rw [← add_add (z := .int .i64 (E 0).ad) (by simpa [Addr.add] using h0)]
      exact hE i hi r y hy)
    unfold Rns
    rw [hpl] at this ⊢
    exact this
theorem open_face {fuel : Nat} {cs : List Value} {x : DataW H × List MemPlace} (h : DataW.trod enc Try.prog w base spare held fuel 64 cs = some x) : ∃ q : Fc × Value × Value, cs = fcell q ∧ Rf w q := by
  obtain ⟨xs, n, _, hx, hlen, hxl, hfs⟩ := DataW.trod_struct Try.underlying64 h
  rw [face_cells] at hlen
  match cs, hlen with
  | [c0, c1, c2, c3, c4, c5], _ =>
    have g0 := hfs 0 _ rfl
    have g1 := hfs 1 _ rfl
    have g2 := hfs 2 _ rfl
    have g3 := hfs 3 _ rfl
    have g4 := hfs 4 _ rfl
    have g5 := hfs 5 _ rfl
    match xs, hxl with
    | [y0, y1, y2, y3, y4, y5], _ =>
      simp [int_cells, txs_cells, ens_cells] at g0 g1 g2 g3 g4 g5
      obtain ⟨k0, e0, _, _⟩ := DataW.trod_int Try.underlying3 g0
      obtain ⟨k1, e1, _, _⟩ := DataW.trod_int Try.underlying3 g1
      obtain ⟨k2, e2, _, _⟩ := DataW.trod_int Try.underlying3 g2
      obtain ⟨k3, e3, _, _⟩ := DataW.trod_int Try.underlying3 g3
      obtain ⟨ps, p1, p2, p3⟩ := open_txs g4
      obtain ⟨es, p4⟩ := open_ens g5
      simp at e0 e1 e2 e3
      subst e0 e1 e2 e3
      exact ⟨(⟨k0, k1, k2, k3, ps, es⟩, c4, c5), rfl, p1, p4, p2, p3⟩
theorem open_fcs {fuel : Nat} {v : Value} {x : DataW H × List MemPlace} (h : DataW.trod enc Try.prog w base spare held fuel 24 [v] = some x) : ∃ L, Rfs w v L := by
  rcases open_slice Try.underlying24 h with ⟨hcs, _⟩ | ⟨a, len, cap, m, n, D, Pl, hcs, _, hl, hm, hmm, _, hcell⟩
  · simp at hcs; subst hcs
    exact ⟨[], Rdg.none w 6, fun q hq => by simp at hq⟩
  · simp at hcs; subst hcs
    have hlm : len ≤ m := by rw [hmm]; split <;> omega
    rw [face_cells] at hcell
    have hE : ∀ i, i < len → ∃ q : Fc × Value × Value, Rf w q ∧ ∀ r y, (fcell q)[r]? = some y → w.cell? ((a.add (i * 6)).add r) = some y := by
      intro i hi
      obtain ⟨cs', h1, h2⟩ := hcell i (by omega)
      obtain ⟨q, rfl, hq⟩ := open_face h2
      obtain ⟨_, _, h3⟩ := World.cells?_some h1
      refine ⟨q, hq, fun r y hy => ?_⟩
      have hr : r < 6 := (List.getElem?_eq_some_iff.1 hy).1
      rw [h3 r hr]; exact hy
    haveI : Inhabited (Fc × Value × Value) := ⟨(⟨0, 0, 0, 0, [], []⟩, .bool false, .bool false)⟩
    obtain ⟨E, hE⟩ := choose_lt hE
    refine ⟨(List.range len).map E, ?_, fun q hq => ?_⟩
    · have hpl : ((List.range len).map E).length = len := by simp
      have := Rdg.rows (w := w) fcell 6 (by omega) (fun _ => rfl) a ((List.range len).map E) cap (by simpa using hl) hm (by
        intro i x hx r y hy
        obtain ⟨hi, rfl⟩ := range_at hx
        have h0 := (hE 0 (by omega)).2 0 _ rfl
        rw [Nat.zero_mul] at h0
        rw [← add_add (z := .int .i64 (E 0).1.cl) (by simpa [Addr.add] using h0)]
        exact (hE i hi).2 r y hy)
      rw [hpl] at this ⊢
      exact this
    · obtain ⟨i, hi, rfl⟩ := List.mem_map.1 hq
      exact (hE i (List.mem_range.1 hi)).1
theorem cf_open {r : Reach} {b0 : Nat} {v : Value} {x : DataW H} {p : List MemPlace} (hv : Value.okWide Try.prog w r b0 26 v) (h : DataW.Trod enc Try.prog w base spare held 26 v x p) :
    ∃ (c : Cf) (u : Value) (L : FL), v = cfV c u ∧ Rc w u c L := by
  obtain ⟨cs, rfl, hsz⟩ := okWide_struct Try.underlying26 hv
  obtain ⟨fuel, hf⟩ := h
  obtain ⟨xs, n, _, hx, _, hxl, hfs⟩ := DataW.trod_struct Try.underlying26 hf
  obtain ⟨l⟩ := cs
  have hl5 : l.length = 5 := hsz.trans conf_cells
  match l, hl5 with
  | [c0, c1, c2, c3, c4], _ =>
    have g0 := hfs 0 _ rfl
    have g1 := hfs 1 _ rfl
    have g2 := hfs 2 _ rfl
    have g3 := hfs 3 _ rfl
    have g4 := hfs 4 _ rfl
    match xs, hxl with
    | [y0, y1, y2, y3, y4], _ =>
      simp [Value.cells, int_cells, fcs_cells] at g0 g1 g2 g3 g4
      obtain ⟨k0, e0, _, _⟩ := DataW.trod_int Try.underlying3 g0
      obtain ⟨k1, e1, _, _⟩ := DataW.trod_int Try.underlying3 g1
      obtain ⟨k2, e2, _, _⟩ := DataW.trod_int Try.underlying3 g2
      obtain ⟨k3, e3, _, _⟩ := DataW.trod_int Try.underlying3 g3
      obtain ⟨L, hL⟩ := open_fcs g4
      simp at e0 e1 e2 e3
      subst e0 e1 e2 e3
      exact ⟨⟨k0, k1, k2, k3, L.map Prod.fst⟩, c4, L, rfl, hL, rfl⟩
theorem dev_cells : Try.prog.cellsOf 23 = 12 := by kernel_rfl
theorem dv_open {r : Reach} {b0 : Nat} {v : Value} {x : DataW H} {p : List MemPlace} (hv : Value.okWide Try.prog w r b0 23 v) (h : DataW.Trod enc Try.prog w base spare held 23 v x p) :
    ∃ d : Dv, v = dvV d := by
  obtain ⟨cs, rfl, hsz⟩ := okWide_struct Try.underlying23 hv
  obtain ⟨fuel, hf⟩ := h
  obtain ⟨xs, n, _, hx, _, hxl, hfs⟩ := DataW.trod_struct Try.underlying23 hf
  obtain ⟨l⟩ := cs
  have hl5 : l.length = 12 := hsz.trans dev_cells
  match l, hl5 with
  | [c0, c1, c2, c3, c4, c5, c6, c7, c8, c9, c10, c11], _ =>
    match xs, hxl with
    | [y0, y1, y2, y3, y4, y5, y6, y7, y8, y9, y10, y11], _ =>
      have g0 := hfs 0 _ rfl
      have g1 := hfs 1 _ rfl
      have g2 := hfs 2 _ rfl
      have g3 := hfs 3 _ rfl
      have g4 := hfs 4 _ rfl
      have g5 := hfs 5 _ rfl
      have g6 := hfs 6 _ rfl
      have g7 := hfs 7 _ rfl
      have g8 := hfs 8 _ rfl
      have g9 := hfs 9 _ rfl
      have g10 := hfs 10 _ rfl
      have g11 := hfs 11 _ rfl
      simp [Value.cells, int_cells] at g0 g1 g2 g3 g4 g5 g6 g7 g8 g9 g10 g11
      obtain ⟨k0, e0, _, _⟩ := DataW.trod_int Try.underlying3 g0
      obtain ⟨k1, e1, _, _⟩ := DataW.trod_int Try.underlying3 g1
      obtain ⟨k2, e2, _, _⟩ := DataW.trod_int Try.underlying3 g2
      obtain ⟨k3, e3, _, _⟩ := DataW.trod_int Try.underlying3 g3
      obtain ⟨k4, e4, _, _⟩ := DataW.trod_int Try.underlying3 g4
      obtain ⟨k5, e5, _, _⟩ := DataW.trod_int Try.underlying3 g5
      obtain ⟨k6, e6, _, _⟩ := DataW.trod_int Try.underlying3 g6
      obtain ⟨k7, e7, _, _⟩ := DataW.trod_int Try.underlying3 g7
      obtain ⟨k8, e8, _, _⟩ := DataW.trod_int Try.underlying3 g8
      obtain ⟨k9, e9, _, _⟩ := DataW.trod_int Try.underlying3 g9
      obtain ⟨k10, e10, _, _⟩ := DataW.trod_int Try.underlying3 g10
      obtain ⟨k11, e11, _, _⟩ := DataW.trod_int Try.underlying3 g11
      simp at e0 e1 e2 e3 e4 e5 e6 e7 e8 e9 e10 e11
      subst e0 e1 e2 e3 e4 e5 e6 e7 e8 e9 e10 e11
      exact ⟨⟨k0, k1, k2, k3, k4, k5, k6, k7, k8, k9, k10, k11⟩, rfl⟩
end
end Go.Proofs.Ytebaepkghbihkaa.desc
