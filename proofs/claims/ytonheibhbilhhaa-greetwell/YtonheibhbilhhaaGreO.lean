/- greet: greetings, texts and numbers as arguments: what their cells hold. -/
import Derived.Test.YtonheibhbilhhaaRows
import Derived.Test.YtonheibhbilhhaaZAf
import Derived.Test.YtonheibhbilhhaaDescRw
import Derived.Test.YtonheibhbilhhaaZAk
import Derived.Test.YtonheibhbilhhaaGreF
namespace Go.Proofs.Ytonheibhbilhhaa.greet
open Go.ChangeShapes Go.WideShapes Go.ChangeAt Go.RowKit Go.PlainAid Go.Deep Go.Proofs.Ytonheibhbilhhaa.lane Go.Proofs.Ytonheibhbilhhaa.desc Go.Proofs.Ytonheibhbilhhaa.gadget
set_option linter.unusedVariables false
set_option maxRecDepth 100000

theorem laid_out : laidOutB Try.prog = true := by kernel_rfl
theorem gr_cells : Try.prog.cellsOf 29 = 24 := by kernel_rfl
theorem err_cells : Try.prog.cellsOf 27 = 1 := by kernel_rfl
theorem spot_of {w : World} {a : Addr} {v : Value} (h : w.cell? (a.add 0) = some v) : ∃ g off, a = ⟨g, off, none⟩ ∧ g < w.heap.size := by
  obtain ⟨b, off, spot⟩ := a
  have hspot : spot = none := by simpa [Addr.add] using World.cell?_spot h
  subst hspot
  exact ⟨b, off, rfl, by simpa [Addr.add] using World.block_lt_of_cell? w _ h⟩
section
variable {H : Type} {enc : TypeId × Value → H} {w : World} {base : Nat} {spare : Nat → Bool} {held : Bool}
theorem open_ints {fuel : Nat} {v : Value} {x : DataW H × List MemPlace} (h : DataW.trod enc Try.prog w base spare held fuel 43 [v] = some x) : ∃ l, Ris w v l := by
  rcases open_slice1 Try.underlying43 int_cells h with ⟨hcs, _⟩ | ⟨a, len, cap, m, n, V, D, Pl, hcs, _, hl, hm, hmm, _, hcell⟩
  · simp at hcs; subst hcs
    exact ⟨[], none, 0, rfl, Nat.le_refl _, Nat.zero_le _, fun q => by simp at q⟩
  · simp at hcs; subst hcs
    have hlm : len ≤ m := by rw [hmm]; split <;> omega
    have hE : ∀ i, i < len → ∃ k : Int, V i = .int .i64 k := fun i hi => by
      obtain ⟨k, e, _, _⟩ := DataW.trod_int Try.underlying3 (hcell i (by omega)).2
      simp at e
      exact ⟨k, e⟩
    obtain ⟨E, hE⟩ := choose_lt hE
    refine ⟨(List.range len).map E, some a, cap, by simp, by simpa using hl, hm, fun hn => ?_⟩
    have hn : 0 < len := by simpa using hn
    obtain ⟨g, off, rfl, hg⟩ := spot_of (hcell 0 (by omega)).1
    refine ⟨g, off, rfl, hg, fun j y hy => ?_⟩
    obtain ⟨hj, rfl⟩ := range_at hy
    have := (hcell j (by omega)).1
    rw [Addr.add_lit, hE j hj] at this
    exact this
theorem ints_open {r : Reach} {b0 : Nat} {v : Value} {x : DataW H} {p : List MemPlace} (hv : Value.okWide Try.prog w r b0 43 v) (h : DataW.Trod enc Try.prog w base spare held 43 v x p) : ∃ l, Ris w v l := by
  obtain ⟨a0, len, cap, rfl⟩ := okWide_slice Try.underlying43 hv
  obtain ⟨fuel, hf⟩ := h
  exact open_ints hf
theorem txs_open {r : Reach} {b0 : Nat} {v : Value} {x : DataW H} {p : List MemPlace} (hv : Value.okWide Try.prog w r b0 42 v) (h : DataW.Trod enc Try.prog w base spare held 42 v x p) : ∃ ps, Rts w v ps ∧ BB ps ∧ ∀ q ∈ ps, q.length ≤ maxLen := by
  obtain ⟨a0, len, cap, rfl⟩ := okWide_slice Try.underlying42 hv
  obtain ⟨fuel, hf⟩ := h
  exact open_txs hf
/-- a greeting that is read -/
structure Rg (w : World) (g : Gr) (u : Value) (L : FL) : Prop where
  rc : Rc w u g.c L
  sr : g.sr.size ≤ maxLen
theorem gr_open {r : Reach} {b0 : Nat} {v : Value} {x : DataW H} {p : List MemPlace} (hv : Value.okWide Try.prog w r b0 29 v) (h : DataW.Trod enc Try.prog w base spare held 29 v x p) :
    ∃ (g : Gr) (u : Value) (L : FL), v = grV g u ∧ Rg w g u L := by
  obtain ⟨cs, rfl, hsz⟩ := okWide_struct Try.underlying29 hv
  obtain ⟨fuel, hf⟩ := h
  obtain ⟨xs, n, _, hx, _, hxl, hfs⟩ := DataW.trod_struct Try.underlying29 hf
  obtain ⟨l⟩ := cs
  have hl5 : l.length = 24 := hsz.trans gr_cells
  match l, hl5 with
  | [c0, c1, c2, c3, c4, c5, c6, c7, c8, c9, c10, c11, c12, c13, c14, c15, c16, c17, c18, c19, c20, c21, c22, c23], _ =>
    match xs, hxl with
    | [y0, y1, y2, y3, y4, y5, y6, y7, y8], _ =>
      have g0 := hfs 0 _ rfl
      have g1 := hfs 1 _ rfl
      have g2 := hfs 2 _ rfl
      have g3 := hfs 3 _ rfl
      have g4 := hfs 4 _ rfl
      have g5 := hfs 5 _ rfl
      have g6 := hfs 6 _ rfl
      have g7 := hfs 7 _ rfl
      have g8 := hfs 8 _ rfl
      simp [Value.cells, int_cells, dev_cells, conf_cells, txt_cells, err_cells] at g0 g1 g2 g3 g4 g5 g6 g7 g8
      obtain ⟨k0, e0, _, _⟩ := DataW.trod_int Try.underlying3 g0
      obtain ⟨k1, e1, _, _⟩ := DataW.trod_int Try.underlying3 g1
      obtain ⟨k2, e2, _, _⟩ := DataW.trod_int Try.underlying3 g2
      obtain ⟨k3, e3, _, _⟩ := DataW.trod_int Try.underlying3 g3
      obtain ⟨k4, e4, _, _⟩ := DataW.trod_int Try.underlying3 g4
      obtain ⟨d, e5⟩ := open_dev g5
      obtain ⟨c, u, L, e6, hc⟩ := open_cfg g6
      obtain ⟨s, e7, _, hs⟩ := DataW.trod_string Try.underlying9 g7
      obtain ⟨k8, e8, _, _⟩ := DataW.trod_int Try.underlying27 g8
      simp only [List.cons.injEq, and_true] at e0 e1 e2 e3 e4 e5 e6 e7 e8
      obtain ⟨rfl, rfl, rfl, rfl, rfl, rfl, rfl, rfl, rfl, rfl, rfl, rfl⟩ := e5
      obtain ⟨rfl, rfl, rfl, rfl, rfl⟩ := e6
      subst e0 e1 e2 e3 e4 e7 e8
      exact ⟨⟨k0, k1, k2, k3, k4, d, c, s, k8⟩, _, L, rfl, hc, hs⟩
theorem gr_weighs {g : Gr} {u : Value} {L : FL} {x : DataW H} {p : List MemPlace} (h : DataW.Trod enc Try.prog w base spare held 29 (grV g u) x p) (hc : Rg w g u L) (hw : Lt 29 x) : Wt g.c := by
  obtain ⟨fuel, hf⟩ := h
  obtain ⟨xs, n, _, hx, _, hxl, hfs⟩ := DataW.trod_struct Try.underlying29 hf
  have g6 := hfs 6 _ rfl
  injection hx with hx _
  rw [hx] at hw
  match xs, hxl with
  | [y0, y1, y2, y3, y4, y5, y6, y7, y8], _ =>
    simp [Value.cells, conf_cells, grV, grl, ag] at g6
    have hw6 : Lt 26 y6.1 := hw.part Try.underlying29 (j := 6) rfl rfl
    obtain ⟨zs, m, _, hz, _, hzl, hzs⟩ := DataW.trod_struct Try.underlying26 g6
    have g4 := hzs 4 _ rfl
    rw [hz] at hw6
    match zs, hzl with
    | [z0, z1, z2, z3, z4], _ =>
      simp [fcs_cells] at g4
      obtain ⟨h1, h2⟩ := fcs_w g4 (hw6.part Try.underlying26 (j := 4) rfl rfl) hc.rc.fs
      rw [← List.length_map (f := Prod.fst), hc.rc.eq] at h1
      refine ⟨h1, fun f hf => ?_⟩
      rw [← hc.rc.eq] at hf
      obtain ⟨q, hq, rfl⟩ := List.mem_map.1 hf
      exact h2 q hq
end
end Go.Proofs.Ytonheibhbilhhaa.greet
