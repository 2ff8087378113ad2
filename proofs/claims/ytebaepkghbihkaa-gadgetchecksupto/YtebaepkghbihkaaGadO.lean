/- a sheet and a gadget as arguments: what their cells hold. -/
import Derived.Test.YtebaepkghbihkaaRows
import Derived.Test.YtebaepkghbihkaaDescR
import Derived.Test.YtebaepkghbihkaaGadB
namespace Go.Proofs.Ytebaepkghbihkaa.gadget
open Go.ChangeShapes Go.WideShapes Go.ChangeAt Go.RowKit Go.PlainAid Go.Deep Go.Proofs.Ytebaepkghbihkaa.lane Go.Proofs.Ytebaepkghbihkaa.desc
set_option linter.unusedVariables false
set_option maxRecDepth 100000

theorem sheet_cells : Try.prog.cellsOf 29 = 18 := by kernel_rfl
theorem gad_cells : Try.prog.cellsOf 34 = 3 := by kernel_rfl
section
variable {H : Type} {enc : TypeId × Value → H} {w : World} {base : Nat} {spare : Nat → Bool} {held : Bool}
theorem bulk_mem {d : DataW H} {l : List (DataW H)} (h : d ∈ l) : Rows.uptoBulk d ≤ Rows.uptoBulkAll l := by
  induction l with
  | nil => simp at h
  | cons x r ih =>
    rw [Rows.uptoBulkAll]
    rcases List.mem_cons.1 h with rfl | h
    · omega
    · have := ih h; omega
theorem open_txsB {fuel : Nat} {v : Value} {x : DataW H × List MemPlace} (h : DataW.trod enc Try.prog w base spare held fuel 27 [v] = some x) : ∃ ps, Rts w v ps ∧ BB ps ∧ (∀ p ∈ ps, p.length ≤ maxLen) ∧ ∀ p ∈ ps, p.length ≤ Rows.uptoBulk x.1 := by
  rcases open_strs Try.underlying27 Try.underlying9 txt_cells h with ⟨hcs, _⟩ | ⟨a, len, cap, m, Sx, hcs, _, hl, hm, hmm, hx, hcell⟩
  · simp at hcs; subst hcs
    exact ⟨[], Rdg.none w 1, fun p hp => by simp at hp, fun p hp => by simp at hp, fun p hp => by simp at hp⟩
  · simp at hcs; subst hcs
    have hlm : len ≤ m := by rw [hmm]; split <;> omega
    refine ⟨(List.range len).map fun i => nums (Sx i), ?_, ?_, ?_, ?_⟩
    · have hpl : ((List.range len).map fun i => nums (Sx i)).length = len := by simp
      have := Rdg.rows (w := w) (fun p : List Int => [Value.string (strOfNums p)]) 1 (by omega) (fun _ => rfl) a ((List.range len).map fun i => nums (Sx i)) cap (by simpa using hl) hm (by
        intro i x hx r y hy
        obtain ⟨hi, rfl⟩ := range_at hx
        match r, hy with
        | 0, hy =>
          simp at hy; subst hy
          rw [str_nums, Nat.mul_one, Nat.add_zero]
          exact (hcell i (by omega)).1
        | (r + 1), hy => simp at hy)
      rw [← tcells_flat] at this
      unfold Rts
      rw [hpl] at this ⊢
      exact this
    · intro p hp
      obtain ⟨i, _, rfl⟩ := List.mem_map.1 hp
      exact nums_byt _
    · intro p hp
      obtain ⟨i, hi, rfl⟩ := List.mem_map.1 hp
      rw [nums_length]
      exact (hcell i (by have := List.mem_range.1 hi; omega)).2
    · intro p hp
      obtain ⟨i, hi, rfl⟩ := List.mem_map.1 hp
      rw [hx]
      have hmem : (DataW.lit (.string (Sx i).data.toList) : DataW H) ∈ (List.range len).map fun i => .lit (.string (Sx i).data.toList) := List.mem_map.2 ⟨i, hi, rfl⟩
      have h1 := bulk_mem hmem
      rw [Rows.uptoBulk] at h1
      show _ ≤ Rows.uptoBulk (DataW.slice _ _)
      rw [Rows.uptoBulk, nums_length]
      have e : (Sx i).data.toList.length = (Sx i).size := by rw [Array.length_toList]; rfl
      omega
theorem open_dev {fuel : Nat} {cs : List Value} {x : DataW H × List MemPlace} (h : DataW.trod enc Try.prog w base spare held fuel 23 cs = some x) :
    ∃ d : Dv, cs = [.int .i64 d.us, .int .i64 d.cl, .int .i64 d.su, .int .i64 d.pr, .int .i64 d.m0, .int .i64 d.ve, .int .i64 d.pd, .int .i64 d.re, .int .i64 d.ma, .int .i64 d.nm, .int .i64 d.se, .int .i64 d.cf] := by
  obtain ⟨xs, n, _, hx, hlen, hxl, hfs⟩ := DataW.trod_struct Try.underlying23 h
  rw [dev_cells] at hlen
  match cs, hlen with
  | [c0, c1, c2, c3, c4, c5, c6, c7, c8, c9, c10, c11], _ =>
    match xs, hxl with
    | [y0, y1, y2, y3, y4, y5, y6, y7, y8, y9, y10, y11], _ =>
      have g0 := hfs 0 _ rfl
      have g1 := hfs 1 _ rfl
      have g2 := hfs 2 _ rfl
      have g3 := hfs 3 _ rfl
      have g4 := hfs 4 _ rfl
      have g5 := hfs 5 _ rfl
      have g6 := hfs 6 _ rfl
      have g7 := hfs 7 _ rfl
      have g8 := hfs 8 _ rfl
      have g9 := hfs 9 _ rfl
      have g10 := hfs 10 _ rfl
      have g11 := hfs 11 _ rfl
      simp [int_cells] at g0 g1 g2 g3 g4 g5 g6 g7 g8 g9 g10 g11
      obtain ⟨k0, e0, _, _⟩ := DataW.trod_int Try.underlying3 g0
      obtain ⟨k1, e1, _, _⟩ := DataW.trod_int Try.underlying3 g1
      obtain ⟨k2, e2, _, _⟩ := DataW.trod_int Try.underlying3 g2
      obtain ⟨k3, e3, _, _⟩ := DataW.trod_int Try.underlying3 g3
      obtain ⟨k4, e4, _, _⟩ := DataW.trod_int Try.underlying3 g4
      obtain ⟨k5, e5, _, _⟩ := DataW.trod_int Try.underlying3 g5
      obtain ⟨k6, e6, _, _⟩ := DataW.trod_int Try.underlying3 g6
      obtain ⟨k7, e7, _, _⟩ := DataW.trod_int Try.underlying3 g7
      obtain ⟨k8, e8, _, _⟩ := DataW.trod_int Try.underlying3 g8
      obtain ⟨k9, e9, _, _⟩ := DataW.trod_int Try.underlying3 g9
      obtain ⟨k10, e10, _, _⟩ := DataW.trod_int Try.underlying3 g10
      obtain ⟨k11, e11, _, _⟩ := DataW.trod_int Try.underlying3 g11
      simp at e0 e1 e2 e3 e4 e5 e6 e7 e8 e9 e10 e11
      subst e0 e1 e2 e3 e4 e5 e6 e7 e8 e9 e10 e11
      exact ⟨⟨k0, k1, k2, k3, k4, k5, k6, k7, k8, k9, k10, k11⟩, rfl⟩
theorem open_cfg {fuel : Nat} {cs : List Value} {x : DataW H × List MemPlace} (h : DataW.trod enc Try.prog w base spare held fuel 26 cs = some x) :
    ∃ (c : Cf) (u : Value) (L : FL), cs = [.int .i64 c.va, .int .i64 c.na, .int .i64 c.atr, .int .i64 c.po, u] ∧ Rc w u c L := by
  obtain ⟨xs, n, _, hx, hlen, hxl, hfs⟩ := DataW.trod_struct Try.underlying26 h
  rw [conf_cells] at hlen
  match cs, hlen with
  | [c0, c1, c2, c3, c4], _ =>
    have g0 := hfs 0 _ rfl
    have g1 := hfs 1 _ rfl
    have g2 := hfs 2 _ rfl
    have g3 := hfs 3 _ rfl
    have g4 := hfs 4 _ rfl
    match xs, hxl with
    | [y0, y1, y2, y3, y4], _ =>
      simp [int_cells, fcs_cells] at g0 g1 g2 g3 g4
      obtain ⟨k0, e0, _, _⟩ := DataW.trod_int Try.underlying3 g0
      obtain ⟨k1, e1, _, _⟩ := DataW.trod_int Try.underlying3 g1
      obtain ⟨k2, e2, _, _⟩ := DataW.trod_int Try.underlying3 g2
      obtain ⟨k3, e3, _, _⟩ := DataW.trod_int Try.underlying3 g3
      obtain ⟨L, hL⟩ := open_fcs g4
      simp at e0 e1 e2 e3
      subst e0 e1 e2 e3
      exact ⟨⟨k0, k1, k2, k3, L.map Prod.fst⟩, c4, L, rfl, hL, rfl⟩
theorem sh_open {r : Reach} {b0 : Nat} {v : Value} {x : DataW H} {p : List MemPlace} (hv : Value.okWide Try.prog w r b0 29 v) (h : DataW.Trod enc Try.prog w base spare held 29 v x p) :
    ∃ (d : Dv) (c : Cf) (L : FL) (u : Value) (T : List (List Int)) (tv : Value), v = shV d c u tv ∧ Shr w c L u T tv ∧ ∀ t ∈ T, t.length ≤ Rows.uptoBulk x := by
  obtain ⟨cs, rfl, hsz⟩ := okWide_struct Try.underlying29 hv
  obtain ⟨fuel, hf⟩ := h
  obtain ⟨xs, n, _, hx, _, hxl, hfs⟩ := DataW.trod_struct Try.underlying29 hf
  obtain ⟨l⟩ := cs
  have hl5 : l.length = 18 := hsz.trans sheet_cells
  match l, hl5 with
  | [c0, c1, c2, c3, c4, c5, c6, c7, c8, c9, c10, c11, c12, c13, c14, c15, c16, c17], _ =>
    match xs, hxl with
    | [y0, y1, y2], _ =>
      have g0 := hfs 0 _ rfl
      have g1 := hfs 1 _ rfl
      have g2 := hfs 2 _ rfl
      simp [Value.cells, dev_cells, conf_cells, txs_cells] at g0 g1 g2
      obtain ⟨d, e0⟩ := open_dev g0
      obtain ⟨c, u, L, e1, hc⟩ := open_cfg g1
      obtain ⟨T, t1, t2, t3, t4⟩ := open_txsB g2
      simp only [List.cons.injEq, and_true] at e0 e1
      obtain ⟨rfl, rfl, rfl, rfl, rfl, rfl, rfl, rfl, rfl, rfl, rfl, rfl⟩ := e0
      obtain ⟨rfl, rfl, rfl, rfl, rfl⟩ := e1
      refine ⟨d, c, L, _, T, _, rfl, ⟨hc, t1, t2, t3⟩, fun t ht => ?_⟩
      have := t4 t ht
      simp at hx
      rw [hx.1, Rows.uptoBulk]
      simp only [Rows.uptoBulkAll]
      omega
theorem gd_open {r : Reach} {b0 : Nat} {v : Value} {x : DataW H} {p : List MemPlace} (hv : Value.okWide Try.prog w r b0 34 v) (h : DataW.Trod enc Try.prog w base spare held 34 v x p) :
    ∃ s a h : Int, v = gdV s a h := by
  obtain ⟨cs, rfl, hsz⟩ := okWide_struct Try.underlying34 hv
  obtain ⟨fuel, hf⟩ := h
  obtain ⟨xs, n, _, hx, _, hxl, hfs⟩ := DataW.trod_struct Try.underlying34 hf
  obtain ⟨l⟩ := cs
  have hl5 : l.length = 3 := hsz.trans gad_cells
  match l, hl5 with
  | [c0, c1, c2], _ =>
    match xs, hxl with
    | [y0, y1, y2], _ =>
      have g0 := hfs 0 _ rfl
      have g1 := hfs 1 _ rfl
      have g2 := hfs 2 _ rfl
      simp [Value.cells, int_cells] at g0 g1 g2
      obtain ⟨k0, e0, _, _⟩ := DataW.trod_int Try.underlying3 g0
      obtain ⟨k1, e1, _, _⟩ := DataW.trod_int Try.underlying3 g1
      obtain ⟨k2, e2, _, _⟩ := DataW.trod_int Try.underlying3 g2
      simp at e0 e1 e2
      subst e0 e1 e2
      exact ⟨k0, k1, k2, rfl⟩
end
end Go.Proofs.Ytebaepkghbihkaa.gadget
