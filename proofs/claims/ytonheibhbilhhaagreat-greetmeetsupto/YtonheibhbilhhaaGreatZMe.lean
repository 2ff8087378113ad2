/- a configuration as an argument: how much its lists weigh. -/
import Derived.Test.YtonheibhbilhhaaGreatZAf
import Derived.SizedLaws
import Derived.Test.YtonheibhbilhhaaGreatRows
import Derived.Test.YtonheibhbilhhaaGreatZAk
import Derived.Test.YtonheibhbilhhaaGreatZGa
namespace Go.Proofs.YtonheibhbilhhaaGreat.desc
open Go.ChangeShapes Go.WideShapes Go.ChangeAt Go.RowKit Go.Proofs.YtonheibhbilhhaaGreat.lane Go.PlainAid Go.Deep
set_option linter.unusedVariables false
set_option maxRecDepth 10000

theorem txt_bytes : Tryz.prog.bytesOf 9 = 16 := by kernel_rfl
theorem end_bytes : Tryz.prog.bytesOf 89 = 40 := by kernel_rfl
theorem face_bytes : Tryz.prog.bytesOf 74 = 80 := by kernel_rfl
section
variable {H : Type} {enc : TypeId × Value → H} {w : World} {base : Nat} {spare : Nat → Bool} {held : Bool}
/-- what is read weighs no more than this -/
def Lt (t : TypeId) (x : DataW H) : Prop := ∀ n ∈ x.weights Tryz.prog t, n ≤ reachBytes
theorem mem_all {e : TypeId} : ∀ {l : List (DataW H)} {d : DataW H}, d ∈ l → ∀ n ∈ d.weights Tryz.prog e, n ∈ DataW.weightsAll Tryz.prog e l := by
  intro l
  induction l with
  | nil => intro d hd; simp at hd
  | cons a r ih =>
    intro d hd n hn
    rw [DataW.weightsAll]
    rcases List.mem_cons.1 hd with rfl | hd
    · exact List.mem_append_left _ hn
    · exact List.mem_append_right _ (ih hd n hn)
theorem Lt.slice {t e : TypeId} {elems sp : List (DataW H)} (ht : Tryz.prog.underlying t = some (.slice e)) (h : Lt t (DataW.slice elems sp)) : elems.length * Tryz.prog.bytesOf e ≤ reachBytes ∧ ∀ d ∈ elems, Lt e d := by
  unfold Lt at h
  rw [DataW.weights] at h
  simp only [ht] at h
  refine ⟨?_, fun d hd n hn => h n (List.mem_cons_of_mem _ (List.mem_append_left _ (mem_all hd n hn)))⟩
  have h1 := h _ (List.mem_cons_self ..)
  exact Nat.le_trans (Nat.mul_le_mul_right _ (Nat.le_add_right _ _)) h1
theorem Lt.part {t : TypeId} {fs : Array Field} {parts : List (DataW H)} (ht : Tryz.prog.underlying t = some (.struct fs)) (h : Lt t (DataW.agg parts)) {j : Nat} {u : TypeId} {d : DataW H} (h1 : (fs.toList.map (·.type))[j]? = some u) (h2 : parts[j]? = some d) : Lt u d := by
  unfold Lt at h
  rw [DataW.weights] at h
  simp only [ht] at h
  exact fun n hn => h n (DataW.weights_mem_each h1 h2 n hn)
theorem txs_w {fuel : Nat} {v : Value} {x : DataW H × List MemPlace} (h : DataW.trod enc Tryz.prog w base spare held fuel 27 [v] = some x) (hw : Lt 27 x.1) {ps : List (List Int)} (hr : Rts w v ps) : ps.length * 16 ≤ reachBytes := by
  obtain ⟨a', c', hv, _⟩ := hr
  rcases open_strs Tryz.underlying27 Tryz.underlying9 txt_cells h with ⟨hcs, _⟩ | ⟨a, len, cap, m, Sx, hcs, _, hl, hm, hmm, hx, hcell⟩
  · simp at hcs; rw [hcs] at hv; injection hv with _ h1 _; rw [← h1]; exact Nat.zero_le _
  · simp at hcs; rw [hcs] at hv; injection hv with _ h1 _
    rw [hx] at hw
    have := (hw.slice Tryz.underlying27).1
    rw [List.length_map, List.length_range, txt_bytes, h1] at this
    exact this
theorem ens_w {fuel : Nat} {v : Value} {x : DataW H × List MemPlace} (h : DataW.trod enc Tryz.prog w base spare held fuel 72 [v] = some x) (hw : Lt 72 x.1) {es : List En} (hr : Rns w v es) : es.length * 40 ≤ reachBytes := by
  obtain ⟨a', c', hv, _⟩ := hr
  rcases open_slice Tryz.underlying72 h with ⟨hcs, _⟩ | ⟨a, len, cap, m, n, D, Pl, hcs, _, hl, hm, hmm, hx, hcell⟩
  · simp at hcs; rw [hcs] at hv; injection hv with _ h1 _; rw [← h1]; exact Nat.zero_le _
  · simp at hcs; rw [hcs] at hv; injection hv with _ h1 _
    rw [hx] at hw
    have := (hw.slice Tryz.underlying72).1
    rw [List.length_map, List.length_range, end_bytes, h1] at this
    exact this
theorem face_w {fuel : Nat} {q : Fc × Value × Value} {x : DataW H × List MemPlace} (h : DataW.trod enc Tryz.prog w base spare held fuel 74 (fcell q) = some x) (hw : Lt 74 x.1) (hr : Rf w q) : q.1.ex.length * 16 ≤ reachBytes ∧ q.1.en.length * 40 ≤ reachBytes := by
  obtain ⟨xs, n, _, hx, hlen, hxl, hfs⟩ := DataW.trod_struct Tryz.underlying74 h
  have g4 := hfs 4 _ rfl
  have g5 := hfs 5 _ rfl
  rw [hx] at hw
  match xs, hxl with
  | [y0, y1, y2, y3, y4, y5], _ =>
    simp [fcell, txs_cells, ens_cells] at g4 g5
    exact ⟨txs_w g4 (hw.part Tryz.underlying74 (j := 4) rfl rfl) hr.ex, ens_w g5 (hw.part Tryz.underlying74 (j := 5) rfl rfl) hr.en⟩
theorem fcs_w {fuel : Nat} {v : Value} {x : DataW H × List MemPlace} (h : DataW.trod enc Tryz.prog w base spare held fuel 24 [v] = some x) (hw : Lt 24 x.1) {L : FL} (hr : Rfs w v L) : L.length * 80 ≤ reachBytes ∧ ∀ q ∈ L, q.1.ex.length * 16 ≤ reachBytes ∧ q.1.en.length * 40 ≤ reachBytes := by
  obtain ⟨a', c', hv, _, _, hc⟩ := hr.cell
  rcases open_slice Tryz.underlying24 h with ⟨hcs, _⟩ | ⟨a, len, cap, m, n, D, Pl, hcs, _, hl, hm, hmm, hx, hcell⟩
  · simp at hcs; rw [hcs] at hv; injection hv with _ h1 _
    have hL : L = [] := List.eq_nil_of_length_eq_zero h1.symm
    subst hL
    exact ⟨Nat.zero_le _, fun q hq => by simp at hq⟩
  · simp at hcs; rw [hcs] at hv; injection hv with h0 h1 _
    have hlm : len ≤ m := by rw [hmm]; split <;> omega
    rw [hx] at hw
    obtain ⟨k1, k2⟩ := hw.slice Tryz.underlying24
    rw [List.length_map, List.length_range, face_bytes, h1] at k1
    refine ⟨k1, fun q hq => ?_⟩
    obtain ⟨j, hj, he⟩ := List.getElem_of_mem hq
    have hqj : L[j]? = some q := by rw [List.getElem?_eq_getElem hj, he]
    obtain ⟨cs', h2, h3⟩ := hcell j (by omega)
    obtain ⟨g, off, hg, d0, d1, d2, d3, d4, d5⟩ := hc j q hqj
    rw [← h0] at hg
    injection hg with hg
    subst hg
    obtain ⟨_, h4, h5⟩ := World.cells?_some h2
    rw [face_cells] at h4 h5
    have hfc : cs' = fcell q := by
      apply List.ext_getElem?
      intro r
      by_cases hr6 : r < 6
      · have h6 := h5 r hr6
        rw [Addr.add_lit, Addr.add_lit] at h6
        rw [← h6]
        match r, hr6 with
        | 0, _ => exact d0
        | 1, _ => exact d1
        | 2, _ => exact d2
        | 3, _ => exact d3
        | 4, _ => exact d4
        | 5, _ => exact d5
      · rw [List.getElem?_eq_none (by omega), List.getElem?_eq_none (by simp [fcell]; omega)]
    rw [hfc] at h3
    exact face_w h3 (k2 _ (List.mem_map.2 ⟨j, List.mem_range.2 (by omega), rfl⟩)) (hr.all q hq)
theorem cf_weighs {c : Cf} {u : Value} {L : FL} {x : DataW H} {p : List MemPlace} (h : DataW.Trod enc Tryz.prog w base spare held 26 (cfV c u) x p) (hc : Rc w u c L) (hw : Lt 26 x) : L.length * 80 ≤ reachBytes ∧ ∀ q ∈ L, q.1.ex.length * 16 ≤ reachBytes ∧ q.1.en.length * 40 ≤ reachBytes := by
  obtain ⟨fuel, hf⟩ := h
  obtain ⟨xs, n, _, hx, _, hxl, hfs⟩ := DataW.trod_struct Tryz.underlying26 hf
  have g4 := hfs 4 _ rfl
  injection hx with hx _
  rw [hx] at hw
  match xs, hxl with
  | [y0, y1, y2, y3, y4], _ =>
    simp [Value.cells, fcs_cells] at g4
    exact fcs_w g4 (hw.part Tryz.underlying26 (j := 4) rfl rfl) hc.fs
end
end Go.Proofs.YtonheibhbilhhaaGreat.desc

/- greet: greetings, texts and numbers as arguments: what their cells hold. -/
namespace Go.Proofs.YtonheibhbilhhaaGreat.greet
open Go.ChangeShapes Go.WideShapes Go.ChangeAt Go.RowKit Go.PlainAid Go.Deep Go.Proofs.YtonheibhbilhhaaGreat.lane Go.Proofs.YtonheibhbilhhaaGreat.desc Go.Proofs.YtonheibhbilhhaaGreat.gadget
set_option linter.unusedVariables false
set_option maxRecDepth 100000

theorem laid_out : laidOutB Tryz.prog = true := by kernel_rfl
theorem gr_cells : Tryz.prog.cellsOf 33 = 24 := by kernel_rfl
theorem err_cells : Tryz.prog.cellsOf 31 = 1 := by kernel_rfl
theorem spot_of {w : World} {a : Addr} {v : Value} (h : w.cell? (a.add 0) = some v) : ∃ g off, a = ⟨g, off, none⟩ ∧ g < w.heap.size := by
  obtain ⟨b, off, spot⟩ := a
  have hspot : spot = none := by simpa [Addr.add] using World.cell?_spot h
  subst hspot
  exact ⟨b, off, rfl, by simpa [Addr.add] using World.block_lt_of_cell? w _ h⟩
section
variable {H : Type} {enc : TypeId × Value → H} {w : World} {base : Nat} {spare : Nat → Bool} {held : Bool}
theorem open_ints {fuel : Nat} {v : Value} {x : DataW H × List MemPlace} (h : DataW.trod enc Tryz.prog w base spare held fuel 30 [v] = some x) : ∃ l, Ris w v l := by
  rcases open_slice1 Tryz.underlying30 int_cells h with ⟨hcs, _⟩ | ⟨a, len, cap, m, n, V, D, Pl, hcs, _, hl, hm, hmm, _, hcell⟩
  · simp at hcs; subst hcs
    exact ⟨[], none, 0, rfl, Nat.le_refl _, Nat.zero_le _, fun q => by simp at q⟩
  · simp at hcs; subst hcs
    have hlm : len ≤ m := by rw [hmm]; split <;> omega
    have hE : ∀ i, i < len → ∃ k : Int, V i = .int .i64 k := fun i hi => by
      obtain ⟨k, e, _, _⟩ := DataW.trod_int Tryz.underlying3 (hcell i (by omega)).2
      simp at e
      exact ⟨k, e⟩
    obtain ⟨E, hE⟩ := choose_lt hE
    refine ⟨(List.range len).map E, some a, cap, by simp, by simpa using hl, hm, fun hn => ?_⟩
    have hn : 0 < len := by simpa using hn
    obtain ⟨g, off, rfl, hg⟩ := spot_of (hcell 0 (by omega)).1
    refine ⟨g, off, rfl, hg, fun j y hy => ?_⟩
    obtain ⟨hj, rfl⟩ := range_at hy
    have := (hcell j (by omega)).1
    rw [Addr.add_lit, hE j hj] at this
    exact this
theorem ints_open {r : Reach} {b0 : Nat} {v : Value} {x : DataW H} {p : List MemPlace} (hv : Value.okWide Tryz.prog w r b0 30 v) (h : DataW.Trod enc Tryz.prog w base spare held 30 v x p) : ∃ l, Ris w v l := by
  obtain ⟨a0, len, cap, rfl⟩ := okWide_slice Tryz.underlying30 hv
  obtain ⟨fuel, hf⟩ := h
  exact open_ints hf
theorem txs_open {r : Reach} {b0 : Nat} {v : Value} {x : DataW H} {p : List MemPlace} (hv : Value.okWide Tryz.prog w r b0 27 v) (h : DataW.Trod enc Tryz.prog w base spare held 27 v x p) : ∃ ps, Rts w v ps ∧ BB ps ∧ ∀ q ∈ ps, q.length ≤ maxLen := by
  obtain ⟨a0, len, cap, rfl⟩ := okWide_slice Tryz.underlying27 hv
  obtain ⟨fuel, hf⟩ := h
  exact open_txs hf
/-- a greeting that is read -/
structure Rg (w : World) (g : Gr) (u : Value) (L : FL) : Prop where
  rc : Rc w u g.c L
  sr : g.sr.size ≤ maxLen
theorem gr_open {r : Reach} {b0 : Nat} {v : Value} {x : DataW H} {p : List MemPlace} (hv : Value.okWide Tryz.prog w r b0 33 v) (h : DataW.Trod enc Tryz.prog w base spare held 33 v x p) :
    ∃ (g : Gr) (u : Value) (L : FL), v = grV g u ∧ Rg w g u L := by
  obtain ⟨cs, rfl, hsz⟩ := okWide_struct Tryz.underlying33 hv
  obtain ⟨fuel, hf⟩ := h
  obtain ⟨xs, n, _, hx, _, hxl, hfs⟩ := DataW.trod_struct Tryz.underlying33 hf
  obtain ⟨l⟩ := cs
  have hl5 : l.length = 24 := hsz.trans gr_cells
  match l, hl5 with
  | [c0, c1, c2, c3, c4, c5, c6, c7, c8, c9, c10, c11, c12, c13, c14, c15, c16, c17, c18, c19, c20, c21, c22, c23], _ =>
    match xs, hxl with
    | [y0, y1, y2, y3, y4, y5, y6, y7, y8], _ =>
      have g0 := hfs 0 _ rfl
      have g1 := hfs 1 _ rfl
      have g2 := hfs 2 _ rfl
      have g3 := hfs 3 _ rfl
      have g4 := hfs 4 _ rfl
      have g5 := hfs 5 _ rfl
      have g6 := hfs 6 _ rfl
      have g7 := hfs 7 _ rfl
      have g8 := hfs 8 _ rfl
      simp [Value.cells, int_cells, dev_cells, conf_cells, txt_cells, err_cells] at g0 g1 g2 g3 g4 g5 g6 g7 g8
      obtain ⟨k0, e0, _, _⟩ := DataW.trod_int Tryz.underlying3 g0
      obtain ⟨k1, e1, _, _⟩ := DataW.trod_int Tryz.underlying3 g1
      obtain ⟨k2, e2, _, _⟩ := DataW.trod_int Tryz.underlying3 g2
      obtain ⟨k3, e3, _, _⟩ := DataW.trod_int Tryz.underlying3 g3
      obtain ⟨k4, e4, _, _⟩ := DataW.trod_int Tryz.underlying3 g4
      obtain ⟨d, e5⟩ := open_dev g5
      obtain ⟨c, u, L, e6, hc⟩ := open_cfg g6
      obtain ⟨s, e7, _, hs⟩ := DataW.trod_string Tryz.underlying9 g7
      obtain ⟨k8, e8, _, _⟩ := DataW.trod_int Tryz.underlying31 g8
      simp only [List.cons.injEq, and_true] at e0 e1 e2 e3 e4 e5 e6 e7 e8
      obtain ⟨rfl, rfl, rfl, rfl, rfl, rfl, rfl, rfl, rfl, rfl, rfl, rfl⟩ := e5
      obtain ⟨rfl, rfl, rfl, rfl, rfl⟩ := e6
      subst e0 e1 e2 e3 e4 e7 e8
      exact ⟨⟨k0, k1, k2, k3, k4, d, c, s, k8⟩, _, L, rfl, hc, hs⟩
theorem gr_weighs {g : Gr} {u : Value} {L : FL} {x : DataW H} {p : List MemPlace} (h : DataW.Trod enc Tryz.prog w base spare held 33 (grV g u) x p) (hc : Rg w g u L) (hw : Lt 33 x) : Wt g.c := by
  obtain ⟨fuel, hf⟩ := h
  obtain ⟨xs, n, _, hx, _, hxl, hfs⟩ := DataW.trod_struct Tryz.underlying33 hf
  have g6 := hfs 6 _ rfl
  injection hx with hx _
  rw [hx] at hw
  match xs, hxl with
  | [y0, y1, y2, y3, y4, y5, y6, y7, y8], _ =>
    simp [Value.cells, conf_cells, grV, grl, ag] at g6
    have hw6 : Lt 26 y6.1 := hw.part Tryz.underlying33 (j := 6) rfl rfl
    obtain ⟨zs, m, _, hz, _, hzl, hzs⟩ := DataW.trod_struct Tryz.underlying26 g6
    have g4 := hzs 4 _ rfl
    rw [hz] at hw6
    match zs, hzl with
    | [z0, z1, z2, z3, z4], _ =>
      simp [fcs_cells] at g4
      obtain ⟨h1, h2⟩ := fcs_w g4 (hw6.part Tryz.underlying26 (j := 4) rfl rfl) hc.rc.fs
      rw [← List.length_map (f := Prod.fst), hc.rc.eq] at h1
      refine ⟨h1, fun f hf => ?_⟩
      rw [← hc.rc.eq] at hf
      obtain ⟨q, hq, rfl⟩ := List.mem_map.1 hf
      exact h2 q hq
end
end Go.Proofs.YtonheibhbilhhaaGreat.greet
