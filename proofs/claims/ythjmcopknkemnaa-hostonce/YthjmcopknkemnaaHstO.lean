/- a machine as an argument, and a slice of deeds: what their cells hold, and what they weigh. -/
import Derived.Test.YthjmcopknkemnaaHstE
import Derived.Test.YthjmcopknkemnaaHstK
import Derived.Test.YthjmcopknkemnaaRngO
import Derived.Test.YthjmcopknkemnaaSltO
namespace Go.Proofs.Ythjmcopknkemnaa.host
open Go.ChangeShapes Go.WideShapes Go.ChangeAt Go.RowKit Go.Deep
open Go Go.Proofs.Ythjmcopknkemnaa
open Go.Proofs.Ythjmcopknkemnaa.slots (fl Wf ag AllI toB toB_wf fl_toB open_slots slots_cells board_cells)
open Go.Proofs.Ythjmcopknkemnaa.ring (Rcs Ce Rg ccell cell_cells cells_cells mark_cells ring_cells int_cells u64_cells bool_cells spot_of range_at open_mark Lt cells_w)
set_option linter.unusedVariables false
set_option maxRecDepth 10000

theorem laid_out : laidOutB Try.prog = true := by kernel_rfl
theorem mach_cells : Try.prog.cellsOf 43 = 606 := by kernel_rfl
theorem deed_cells : Try.prog.cellsOf 73 = 8 := by kernel_rfl
theorem u64_wf {x : Int} (h : (Lit.int .u64 x).wf = true) : 0 ≤ x ∧ x < 18446744073709551616 := by
  have := bounds_u64 h
  omega
/-- a machine that is handed in, whatever it weighs -/
structure Hd (w : World) (vc ve : Value) (m : Mc) : Prop where
  c : Rcs w vc m.c.C
  e : Rcs w ve m.e.C
  B : Wf m.B
  wc : Ws m.c.C
  we : Ws m.e.C
theorem Hd.inn {w : World} {vc ve : Value} {m : Mc} (h : Hd w vc ve m) (hk : m.c.C.length * 24 ≤ reachBytes ∧ m.e.C.length * 24 ≤ reachBytes) : In w vc ve m := ⟨h.c, h.e, h.B, h.wc, h.we, by have := hk.1; unfold reachBytes at this; omega, by have := hk.2; unfold reachBytes at this; omega⟩
section
variable {H : Type} {enc : TypeId × Value → H} {w : World} {base : Nat} {spare : Nat → Bool} {held : Bool}
theorem open_cellW {fuel : Nat} {cs : List Value} {x : DataW H × List MemPlace} (h : DataW.trod enc Try.prog w base spare held fuel 91 cs = some x) : ∃ e : Ce, cs = ccell e ∧ 0 ≤ e.1 ∧ e.1 < 18446744073709551616 := by
  obtain ⟨xs, n, _, hx, hlen, hxl, hfs⟩ := DataW.trod_struct Try.underlying91 h
  rw [cell_cells] at hlen
  match cs, hlen with
  | [c0, c1, c2], _ =>
    have g0 := hfs 0 _ rfl
    have g1 := hfs 1 _ rfl
    have g2 := hfs 2 _ rfl
    match xs, hxl with
    | [y0, y1, y2], _ =>
      simp [int_cells, u64_cells, bool_cells] at g0 g1 g2
      obtain ⟨k0, e0, _, f0⟩ := DataW.trod_int Try.underlying24 g0
      obtain ⟨k1, e1, _, f1⟩ := DataW.trod_int Try.underlying3 g1
      obtain ⟨k2, e2, _⟩ := DataW.trod_bool Try.underlying4 g2
      simp at e0 e1 e2
      subst e0 e1 e2
      exact ⟨(k0, k1, k2), rfl, (u64_wf f0).1, (u64_wf f0).2⟩
theorem open_cellsW {fuel : Nat} {v : Value} {x : DataW H × List MemPlace} (h : DataW.trod enc Try.prog w base spare held fuel 31 [v] = some x) : ∃ L, Rcs w v L ∧ Ws L := by
  rcases open_slice Try.underlying31 h with ⟨hcs, _⟩ | ⟨a, len, cap, m, n, D, Pl, hcs, _, hl, hm, hmm, _, hcell⟩
  · simp at hcs; subst hcs
    exact ⟨[], Rcs.nil w, fun x hx => absurd hx (by simp)⟩
  · simp at hcs; subst hcs
    have hlm : len ≤ m := by rw [hmm]; split <;> omega
    rw [cell_cells] at hcell
    have hE : ∀ i, i < len → ∃ e : Ce, (0 ≤ e.1 ∧ e.1 < 18446744073709551616) ∧ ∀ r y, (ccell e)[r]? = some y → w.cell? ((a.add (i * 3)).add r) = some y := by
      intro i hi
      obtain ⟨cs', h1, h2⟩ := hcell i (by omega)
      obtain ⟨e, rfl, hb1, hb2⟩ := open_cellW h2
      obtain ⟨_, _, h3⟩ := World.cells?_some h1
      refine ⟨e, ⟨hb1, hb2⟩, fun r y hy => ?_⟩
      have hr : r < 3 := (List.getElem?_eq_some_iff.1 hy).1
      rw [h3 r hr]; exact hy
    obtain ⟨E, hE⟩ := choose_lt hE
    refine ⟨(List.range len).map E, ⟨some a, cap, by simp, by simpa using hl, hm, fun hn => ?_⟩, fun x hx => ?_⟩
    · have hn : 0 < len := by simpa using hn
      have h0 := (hE 0 hn).2 0 _ rfl
      obtain ⟨g, off, rfl, hg⟩ := spot_of (a := a) (by simpa [Addr.add] using h0)
      refine ⟨g, off, rfl, hg, fun j y hy => ?_⟩
      obtain ⟨hj, rfl⟩ := range_at hy
      have h1 := (hE j hj).2 0 _ rfl
      have h2 := (hE j hj).2 1 _ rfl
      have h3 := (hE j hj).2 2 _ rfl
      rw [Addr.add_lit, Addr.add_lit] at h1 h2 h3
      exact ⟨h1, h2, h3⟩
    · obtain ⟨i, hi, rfl⟩ := List.mem_map.1 hx
      exact (hE i (by simpa using hi)).1
theorem open_ring {fuel : Nat} {cs : List Value} {x : DataW H × List MemPlace} (h : DataW.trod enc Try.prog w base spare held fuel 35 cs = some x) : ∃ (u : Value) (r : Rg), cs = rgl u r ∧ Rcs w u r.C ∧ Ws r.C ∧ (Lt 35 x.1 → r.C.length * 24 ≤ reachBytes) := by
  obtain ⟨xs, n, _, hx, hlen, hxl, hfs⟩ := DataW.trod_struct Try.underlying35 h
  rw [ring_cells] at hlen
  match cs, hlen with
  | [c0, c1, c2, c3, c4, c5], _ =>
    match xs, hxl with
    | [y0, y1, y2, y3], _ =>
      have g0 := hfs 0 _ rfl
      have g1 := hfs 1 _ rfl
      have g2 := hfs 2 _ rfl
      have g3 := hfs 3 _ rfl
      simp [int_cells, cells_cells, mark_cells] at g0 g1 g2 g3
      obtain ⟨L, hL, hW⟩ := open_cellsW g0
      obtain ⟨pa, pb, e1⟩ := open_mark g1
      obtain ⟨ga, gb, e2⟩ := open_mark g2
      obtain ⟨sn, e3, _, _⟩ := DataW.trod_int Try.underlying3 g3
      simp only [List.cons.injEq, and_true] at e1 e2 e3
      obtain ⟨rfl, rfl⟩ := e1
      obtain ⟨rfl, rfl⟩ := e2
      subst e3
      refine ⟨c0, ⟨L, pa, pb, ga, gb, sn⟩, rfl, hL, hW, fun hw => ?_⟩
      have hx1 := congrArg Prod.fst hx
      rw [hx1] at hw
      exact cells_w g0 (hw.part Try.underlying35 (j := 0) rfl rfl) hL
theorem mc_all {v : Value} {r : Reach} {b0 : Nat} {x : DataW H} {p : List MemPlace} (hv : Value.okWide Try.prog w r b0 43 v) (h : DataW.Trod enc Try.prog w base spare held 43 v x p) :
    ∃ (vc ve : Value) (m : Mc), v = agv (mvl vc ve m) ∧ Hd w vc ve m ∧ (Lt 43 x → m.c.C.length * 24 ≤ reachBytes ∧ m.e.C.length * 24 ≤ reachBytes) := by
  obtain ⟨cs, rfl, hsz⟩ := okWide_struct Try.underlying43 hv
  rw [mach_cells] at hsz
  obtain ⟨fuel, hf⟩ := h
  obtain ⟨xs, n, _, hx, hlen, hxl, hfs⟩ := DataW.trod_struct Try.underlying43 hf
  obtain ⟨l⟩ := cs
  have hl : l.length = 606 := hsz
  match xs, hxl with
  | [y0, y1, y2], _ =>
    have g0 : DataW.trod enc Try.prog w base spare held n 35 ((l.drop 0).take (Try.prog.cellsOf 35)) = some y0 := hfs 0 _ rfl
    have g1 : DataW.trod enc Try.prog w base spare held n 35 ((l.drop 6).take (Try.prog.cellsOf 35)) = some y1 := hfs 1 _ rfl
    have g2 : DataW.trod enc Try.prog w base spare held n 41 ((l.drop 12).take (Try.prog.cellsOf 41)) = some y2 := hfs 2 _ rfl
    rw [ring_cells] at g0 g1
    rw [board_cells] at g2
    obtain ⟨vc, rc, ec, hc, hwc, hkc⟩ := open_ring g0
    obtain ⟨ve, re, ee, he, hwe, hke⟩ := open_ring g1
    obtain ⟨zs, n2, _, hx2, hlen2, hxl2, hfs2⟩ := DataW.trod_struct Try.underlying41 g2
    match zs, hxl2 with
    | [z0], _ =>
      have k0 : DataW.trod enc Try.prog w base spare held n2 39 ((((l.drop 12).take 594).drop 0).take (Try.prog.cellsOf 39)) = some z0 := hfs2 0 _ rfl
      rw [slots_cells] at k0
      have a0 := open_slots k0
      have e0 : List.take 594 (List.drop 0 (List.take 594 (List.drop 12 l))) = l.drop 12 := by
        rw [List.drop_zero, List.take_take, Nat.min_self, List.take_of_length_le (by simp; omega)]
      rw [e0] at a0
      obtain ⟨mm, hmm⟩ := a0.list
      have hml : mm.length = 594 := by
        have := congrArg List.length hmm
        simp at this
        omega
      refine ⟨vc, ve, ⟨rc, re, toB mm⟩, ?_, ⟨hc, he, toB_wf hml, hwc, hwe⟩, fun hw => ?_⟩
      · show Value.agg l.toArray = Value.agg (mvl vc ve ⟨rc, re, toB mm⟩).toArray
        congr 2
        have e1 : l = l.take 6 ++ ((l.drop 6).take 6 ++ l.drop 12) := by
          have a : l.drop 6 = (l.drop 6).take 6 ++ (l.drop 6).drop 6 := (List.take_append_drop 6 _).symm
          rw [List.drop_drop] at a
          rw [← a, List.take_append_drop]
        rw [List.drop_zero] at ec
        rw [e1, ec, ee, hmm]
        unfold mvl ivs
        simp only
        rw [fl_toB hml]
      · have hx1 := congrArg Prod.fst hx
        simp only at hx1
        rw [hx1] at hw
        exact ⟨hkc (hw.part Try.underlying43 (j := 0) rfl rfl), hke (hw.part Try.underlying43 (j := 1) rfl rfl)⟩
theorem deed_open1 {fuel : Nat} {cs : List Value} {x : DataW H × List MemPlace} (h : DataW.trod enc Try.prog w base spare held fuel 73 cs = some x) : ∃ d : Dd, cs = ivs (ddL d) := by
  obtain ⟨xs, n, _, hx, hlen, hxl, hfs⟩ := DataW.trod_struct Try.underlying73 h
  rw [deed_cells] at hlen
  match cs, hlen with
  | [c0, c1, c2, c3, c4, c5, c6, c7], _ =>
    match xs, hxl with
    | [y0, y1, y2, y3, y4], _ =>
      have g0 := hfs 0 _ rfl
      have g1 := hfs 1 _ rfl
      have g2 := hfs 2 _ rfl
      have g3 := hfs 3 _ rfl
      have g4 := hfs 4 _ rfl
      simp [int_cells, slots.cmd_cells] at g0 g1 g2 g3 g4
      obtain ⟨k0, e0, _, _⟩ := DataW.trod_int Try.underlying3 g0
      obtain ⟨k, nn, e, a, e1, _⟩ := slots.open_cmd g1
      obtain ⟨k2, e2, _, _⟩ := DataW.trod_int Try.underlying3 g2
      obtain ⟨k3, e3, _, _⟩ := DataW.trod_int Try.underlying3 g3
      obtain ⟨k4, e4, _, _⟩ := DataW.trod_int Try.underlying3 g4
      simp only [List.cons.injEq, and_true] at e0 e1 e2 e3 e4
      obtain ⟨rfl, rfl, rfl, rfl⟩ := e1
      subst e0 e2 e3 e4
      exact ⟨(k0, (k, nn, e, a), k2, k3, k4), rfl⟩
theorem dds_open {r : Reach} {b0 : Nat} {v : Value} {x : DataW H} {p : List MemPlace} (hv : Value.okWide Try.prog w r b0 56 v) (h : DataW.Trod enc Try.prog w base spare held 56 v x p) : ∃ T : List Dd, Rds 8 w v (T.map ddL) := by
  obtain ⟨a0, len0, cap0, rfl⟩ := okWide_slice Try.underlying56 hv
  obtain ⟨fuel, hf⟩ := h
  rcases open_slice Try.underlying56 hf with ⟨hcs, _⟩ | ⟨a, len, cap, m, n, D, Pl, hcs, _, hl, hm, hmm, _, hcell⟩
  · simp [Value.cells] at hcs
    obtain ⟨rfl, rfl, rfl⟩ := hcs
    exact ⟨[], Rds.nil 8 w⟩
  · simp [Value.cells] at hcs
    obtain ⟨rfl, rfl, rfl⟩ := hcs
    have hlm : len0 ≤ m := by rw [hmm]; split <;> omega
    rw [deed_cells] at hcell
    have hE : ∀ i, i < len0 → ∃ e : Dd, ∀ r y, (ivs (ddL e))[r]? = some y → w.cell? ((a.add (i * 8)).add r) = some y := by
      intro i hi
      obtain ⟨cs', h1, h2⟩ := hcell i (by omega)
      obtain ⟨d, rfl⟩ := deed_open1 h2
      obtain ⟨_, _, h3⟩ := World.cells?_some h1
      refine ⟨d, fun r y hy => ?_⟩
      have hr : r < 8 := (List.getElem?_eq_some_iff.1 hy).1
      rw [h3 r hr]; exact hy
    obtain ⟨E, hE⟩ := choose_lt hE
    refine ⟨(List.range len0).map E, some a, cap0, by simp, by simpa using hl, hm, fun y hy => ?_, fun hn => ?_⟩
    · obtain ⟨d, _, rfl⟩ := List.mem_map.1 hy
      rfl
    have hn : 0 < len0 := by simpa using hn
    have h0 := hE 0 hn 0 _ rfl
    obtain ⟨g, off, rfl, hg⟩ := spot_of (a := a) (by simpa [Addr.add] using h0)
    refine ⟨g, off, rfl, hg, fun j y hy => ?_⟩
    rw [List.map_map] at hy
    obtain ⟨hj, rfl⟩ := range_at hy
    intro r z hz
    have := hE j hj r z hz
    rw [Addr.add_lit, Addr.add_lit] at this
    exact this
end
end Go.Proofs.Ythjmcopknkemnaa.host
