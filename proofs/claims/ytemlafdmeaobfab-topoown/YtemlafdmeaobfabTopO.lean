/- nodes and slices of nodes as arguments: what their cells hold, and what they weigh. -/
import Derived.Test.YtemlafdmeaobfabRouO
import Derived.Test.YtemlafdmeaobfabTopA
namespace Go.Proofs.Ytemlafdmeaobfab.topo
open Go.ChangeShapes Go.WideShapes Go.ChangeAt Go.RowKit Go.Deep Go.Proofs.Ytemlafdmeaobfab.route
set_option linter.unusedVariables false
set_option maxRecDepth 10000

theorem laid_out : laidOutB Try.prog = true := by kernel_rfl
theorem node_cells : Try.prog.cellsOf 25 = 4 := by kernel_rfl
theorem node_bytes : Try.prog.bytesOf 25 = 48 := by kernel_rfl
theorem add_add {w : World} {a : Addr} {i r : Nat} {z : Value} (hz : w.cell? a = some z) : (a.add i).add r = a.add (i + r) := by
  have := World.cell?_spot hz
  obtain ⟨b, off, spot⟩ := a
  simp only at this
  subst this
  rw [Addr.add_lit, Addr.add_lit, Addr.add_lit, Nat.add_assoc]
theorem flat_at {α : Type} (f : α → List Value) (s : Nat) (hs : ∀ x, (f x).length = s) : ∀ (l : List α) (i r : Nat) (y : Value), r < s → (l.flatMap f)[i * s + r]? = some y → ∃ x, l[i]? = some x ∧ (f x)[r]? = some y := by
  intro l
  induction l with
  | nil => intro i r y _ h; simp at h
  | cons a t ih =>
    intro i r y hr h
    rw [List.flatMap_cons] at h
    cases i with
    | zero =>
      rw [Nat.zero_mul, Nat.zero_add, List.getElem?_append_left (by rw [hs]; exact hr)] at h
      exact ⟨a, rfl, h⟩
    | succ i =>
      rw [List.getElem?_append_right (by rw [hs, Nat.add_mul]; omega), hs, show (i + 1) * s + r - s = i * s + r by rw [Nat.add_mul]; omega] at h
      obtain ⟨x, h1, h2⟩ := ih i r y hr h
      exact ⟨x, by simpa using h1, h2⟩
theorem rcl_rows {w : World} (a : Addr) (L : NL) (cap : Nat) (hl : L.length ≤ cap) (hm : cap ≤ maxLen)
    (hc : ∀ i x, L[i]? = some x → ∀ r y, (ncl x.1 x.2)[r]? = some y → w.cell? (a.add (i * 4 + r)) = some y) : Rcl w (.slice (some a) L.length cap) L.length (ncs L) := by
  refine ⟨some a, cap, rfl, hl, hm, fun hn => ?_⟩
  have hcell : ∀ j y, (ncs L)[j]? = some y → w.cell? (a.add j) = some y := by
    intro j y hj
    have e : j / 4 * 4 + j % 4 = j := by omega
    rw [← e] at hj
    obtain ⟨x, h1, h2⟩ := flat_at (fun q : Value × Nd => ncl q.1 q.2) 4 (fun _ => rfl) L (j / 4) (j % 4) y (Nat.mod_lt _ (by omega)) hj
    have := hc _ x h1 _ y h2
    rwa [e] at this
  obtain ⟨b, off, spot⟩ := a
  have hne : 0 < (ncs L).length := by rw [ncs_length]; omega
  have hc0 := hcell 0 _ (List.getElem?_eq_getElem hne)
  have hspot : spot = none := by simpa [Addr.add] using World.cell?_spot hc0
  subst hspot
  refine ⟨b, off, rfl, ?_, fun j y hj => ?_⟩
  · have := World.block_lt_of_cell? w _ hc0
    simpa [Addr.add] using this
  · have := hcell j y hj
    rwa [Addr.add_lit] at this
section
variable {H : Type} {enc : TypeId × Value → H} {w : World} {base : Nat} {spare : Nat → Bool} {held : Bool}
theorem open_node {fuel : Nat} {cs : List Value} {x : DataW H × List MemPlace} (h : DataW.trod enc Try.prog w base spare held fuel 25 cs = some x) : ∃ q : Value × Nd, cs = ncl q.1 q.2 ∧ Ris w q.1 q.2.1 := by
  obtain ⟨xs, n, _, hx, hlen, hxl, hfs⟩ := DataW.trod_struct Try.underlying25 h
  rw [node_cells] at hlen
  match cs, hlen with
  | [c0, c1, c2, c3], _ =>
    have g0 := hfs 0 _ rfl
    have g1 := hfs 1 _ rfl
    have g2 := hfs 2 _ rfl
    have g3 := hfs 3 _ rfl
    match xs, hxl with
    | [y0, y1, y2, y3], _ =>
      simp [int_cells, ints_cells] at g0 g1 g2 g3
      obtain ⟨l, hl⟩ := open_ints g0
      obtain ⟨k1, e1, _, _⟩ := DataW.trod_int Try.underlying3 g1
      obtain ⟨k2, e2, _, _⟩ := DataW.trod_int Try.underlying3 g2
      obtain ⟨k3, e3, _, _⟩ := DataW.trod_int Try.underlying3 g3
      simp at e1 e2 e3
      subst e1 e2 e3
      exact ⟨(c0, (l, k1, k2, k3)), rfl, hl⟩
theorem open_nodes {fuel : Nat} {v : Value} {x : DataW H × List MemPlace} (h : DataW.trod enc Try.prog w base spare held fuel 22 [v] = some x) : ∃ L, Rt w v L := by
  rcases open_slice Try.underlying22 h with ⟨hcs, _⟩ | ⟨a, len, cap, m, n, D, Pl, hcs, _, hl, hm, hmm, _, hcell⟩
  · simp at hcs; subst hcs
    exact ⟨[], rt_nil w⟩
  · simp at hcs; subst hcs
    have hlm : len ≤ m := by rw [hmm]; split <;> omega
    rw [node_cells] at hcell
    have hE : ∀ i, i < len → ∃ q : Value × Nd, Ris w q.1 q.2.1 ∧ ∀ r y, (ncl q.1 q.2)[r]? = some y → w.cell? ((a.add (i * 4)).add r) = some y := by
      intro i hi
      obtain ⟨cs', h1, h2⟩ := hcell i (by omega)
      obtain ⟨q, rfl, hq⟩ := open_node h2
      obtain ⟨_, _, h3⟩ := World.cells?_some h1
      refine ⟨q, hq, fun r y hy => ?_⟩
      have hr : r < 4 := (List.getElem?_eq_some_iff.1 hy).1
      rw [h3 r hr]; exact hy
    haveI : Inhabited (Value × Nd) := ⟨(.bool false, ([], 0, 0, 0))⟩
    obtain ⟨E, hE⟩ := choose_lt hE
    refine ⟨(List.range len).map E, ?_, fun q hq => ?_⟩
    · have hpl : ((List.range len).map E).length = len := by simp
      have := rcl_rows (w := w) a ((List.range len).map E) cap (by simpa using hl) hm (by
        intro i x hx r y hy
        obtain ⟨hi, rfl⟩ := range_at hx
        have h0 := (hE 0 (by omega)).2 0 _ rfl
        rw [Nat.zero_mul] at h0
        rw [← add_add (z := (E 0).1) (by simpa [Addr.add] using h0)]
        exact (hE i hi).2 r y hy)
      rw [hpl] at this ⊢
      exact this
    · obtain ⟨i, hi, rfl⟩ := List.mem_map.1 hq
      exact (hE i (List.mem_range.1 hi)).1
theorem nodes_open {r : Reach} {b0 : Nat} {v : Value} {x : DataW H} {p : List MemPlace} (hv : Value.okWide Try.prog w r b0 22 v) (h : DataW.Trod enc Try.prog w base spare held 22 v x p) : ∃ L, Rt w v L := by
  obtain ⟨a0, len, cap, rfl⟩ := okWide_slice Try.underlying22 hv
  obtain ⟨fuel, hf⟩ := h
  exact open_nodes hf
theorem node_open {r : Reach} {b0 : Nat} {v : Value} {x : DataW H} {p : List MemPlace} (hv : Value.okWide Try.prog w r b0 25 v) (h : DataW.Trod enc Try.prog w base spare held 25 v x p) : ∃ (u : Value) (n : Nd), v = agv (ncl u n) ∧ Ris w u n.1 := by
  obtain ⟨cs, rfl, hsz⟩ := okWide_struct Try.underlying25 hv
  obtain ⟨fuel, hf⟩ := h
  obtain ⟨l⟩ := cs
  obtain ⟨q, h1, h2⟩ := open_node hf
  have h1 : l = ncl q.1 q.2 := by simpa [Value.cells] using h1
  subst h1
  exact ⟨q.1, q.2, rfl, h2⟩
theorem mem_all {e : TypeId} : ∀ {l : List (DataW H)} {d : DataW H}, d ∈ l → ∀ n ∈ d.weights Try.prog e, n ∈ DataW.weightsAll Try.prog e l := by
  intro l
  induction l with
  | nil => intro d hd; simp at hd
  | cons a r ih =>
    intro d hd n hn
    rw [DataW.weightsAll]
    rcases List.mem_cons.1 hd with rfl | hd
    · exact List.mem_append_left _ hn
    · exact List.mem_append_right _ (ih hd n hn)
theorem Wlt.slice {t e : TypeId} {elems sp : List (DataW H)} (ht : Try.prog.underlying t = some (.slice e)) (h : route.Lt t (DataW.slice elems sp)) : elems.length * Try.prog.bytesOf e ≤ reachBytes ∧ ∀ d ∈ elems, route.Lt e d := by
  unfold route.Lt at h
  rw [DataW.weights] at h
  simp only [ht] at h
  refine ⟨?_, fun d hd n hn => h n (List.mem_cons_of_mem _ (List.mem_append_left _ (mem_all hd n hn)))⟩
  have h1 := h _ (List.mem_cons_self ..)
  exact Nat.le_trans (Nat.mul_le_mul_right _ (Nat.le_add_right _ _)) h1
theorem Wlt.part {t : TypeId} {fs : Array Field} {parts : List (DataW H)} (ht : Try.prog.underlying t = some (.struct fs)) (h : route.Lt t (DataW.agg parts)) {j : Nat} {u : TypeId} {d : DataW H} (h1 : (fs.toList.map (·.type))[j]? = some u) (h2 : parts[j]? = some d) : route.Lt u d := by
  unfold route.Lt at h
  rw [DataW.weights] at h
  simp only [ht] at h
  exact fun n hn => h n (DataW.weights_mem_each h1 h2 n hn)
theorem node_w {fuel : Nat} {q : Value × Nd} {x : DataW H × List MemPlace} (h : DataW.trod enc Try.prog w base spare held fuel 25 (ncl q.1 q.2) = some x) (hw : route.Lt 25 x.1) (hr : Ris w q.1 q.2.1) : q.2.1.length * 8 ≤ reachBytes := by
  obtain ⟨xs, n, _, hx, hlen, hxl, hfs⟩ := DataW.trod_struct Try.underlying25 h
  have g0 := hfs 0 _ rfl
  rw [hx] at hw
  match xs, hxl with
  | [y0, y1, y2, y3], _ =>
    simp [ncl, ints_cells] at g0
    exact ints_w g0 (Wlt.part Try.underlying25 hw (j := 0) rfl rfl) hr
theorem node_weighs {u : Value} {n : Nd} {x : DataW H} {p : List MemPlace} (h : DataW.Trod enc Try.prog w base spare held 25 (agv (ncl u n)) x p) (hr : Ris w u n.1) (hw : route.Lt 25 x) : n.1.length * 8 ≤ reachBytes := by
  obtain ⟨fuel, hf⟩ := h
  exact node_w (q := (u, n)) (by simpa [Value.cells, agv] using hf) hw hr
theorem nodes_w {fuel : Nat} {v : Value} {x : DataW H × List MemPlace} (h : DataW.trod enc Try.prog w base spare held fuel 22 [v] = some x) (hw : route.Lt 22 x.1) {L : NL} (hr : Rt w v L) : L.length * 48 ≤ reachBytes ∧ ∀ q ∈ L, q.2.1.length * 8 ≤ reachBytes := by
  obtain ⟨a', c', hv, _, _⟩ := hr.form
  rcases open_slice Try.underlying22 h with ⟨hcs, _⟩ | ⟨a, len, cap, m, n, D, Pl, hcs, _, hl, hm, hmm, hx, hcell⟩
  · simp at hcs; rw [hcs] at hv; injection hv with _ h1 _
    have hL : L = [] := List.eq_nil_of_length_eq_zero h1.symm
    subst hL
    exact ⟨Nat.zero_le _, fun q hq => by simp at hq⟩
  · simp at hcs
    have hr' := hr
    rw [hcs] at hv hr'; injection hv with h0 h1 _
    have hlm : len ≤ m := by rw [hmm]; split <;> omega
    rw [hx] at hw
    obtain ⟨k1, k2⟩ := Wlt.slice Try.underlying22 hw
    rw [List.length_map, List.length_range, node_bytes, h1] at k1
    refine ⟨k1, fun q hq => ?_⟩
    obtain ⟨j, hj, he⟩ := List.getElem_of_mem hq
    have hqj : L[j]? = some q := by rw [List.getElem?_eq_getElem hj, he]
    obtain ⟨cs', h2, h3⟩ := hcell j (by omega)
    obtain ⟨g, off, hg, hat⟩ := hr'.at j q hqj
    have hrg := (hat w (Below.refl _ _)).1
    injection hg with hg
    subst hg
    obtain ⟨_, h4, h5⟩ := World.cells?_some h2
    rw [node_cells] at h4 h5
    have hfc : cs' = ncl q.1 q.2 := by
      apply List.ext_getElem?
      intro r
      by_cases hr4 : r < 4
      · have h6 := h5 r hr4
        rw [Addr.add_lit, Addr.add_lit] at h6
        rw [← h6]
        have hx4 : (ncl q.1 q.2)[r]? = some ((ncl q.1 q.2)[r]'hr4) := List.getElem?_eq_getElem hr4
        rw [hx4]
        exact hrg r _ hx4
      · rw [List.getElem?_eq_none (by omega), List.getElem?_eq_none (by simp [ncl]; omega)]
    rw [hfc] at h3
    exact node_w h3 (k2 _ (List.mem_map.2 ⟨j, List.mem_range.2 (by omega), rfl⟩)) (hr.all q hq)
theorem nodes_weighs {v : Value} {L : NL} {x : DataW H} {p : List MemPlace} (h : DataW.Trod enc Try.prog w base spare held 22 v x p) (hr : Rt w v L) (hw : route.Lt 22 x) : L.length * 48 ≤ reachBytes ∧ ∀ q ∈ L, q.2.1.length * 8 ≤ reachBytes := by
  obtain ⟨a', c', hv, _, _⟩ := hr.form
  subst hv
  obtain ⟨fuel, hf⟩ := h
  exact nodes_w hf hw hr
end
end Go.Proofs.Ytemlafdmeaobfab.topo
