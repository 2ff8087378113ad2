/- plugref: a configuration that is being read: how it stays, and the end with nothing found as one step. -/
import Derived.Test.YtilfenijbbhfjaaDescPa
import Derived.Test.YtilfenijbbhfjaaDescOa
import Derived.Test.YtilfenijbbhfjaaDescWc
import Derived.Test.YtilfenijbbhfjaaDescDc
import Derived.Test.YtilfenijbbhfjaaDescC
import Derived.Test.YtilfenijbbhfjaaDescRg
import Derived.Deep.Cut
namespace Go.Proofs.Ytilfenijbbhfjaa.desc
open Go.RowKit Go.PlainAid Go.Proofs.Ytilfenijbbhfjaa.lane
set_option linter.unusedVariables false
set_option linter.unusedSimpArgs false
set_option maxRecDepth 100000

abbrev fbO (f : Fc) (ve vd : Value) : Obj := .cells #[.int .i64 f.cl, .int .i64 f.su, .int .i64 f.pr, .int .i64 f.nm, ve, vd] 61
/-- the end with nothing found -/
structure No (w : World) (u : World) : Prop where
  box : u.heap[w.heap.size]? = some (cfO 0 0 0 0 (.slice none 0 0))
  bel : Below w.heap.size w u
theorem No.below {w u u' : World} (h : No w u) (hb : Below u.heap.size u u') : No w u' := ⟨res_below h.box hb, bsq h.bel hb⟩
theorem Bf.base {w w0 wr : World} {X : Nat} {va na atr po : Int} {vf : Value} {L : FL} (h : Bf w0 wr X va na atr po vf L) (hb : Below w.heap.size w w0) : Bf w wr X va na atr po vf L :=
  ⟨h.box, Nat.le_trans hb.size h.hX, own_mono h.row hb.size, fun q hq => own_mono (h.tx q hq) hb.size, fun q hq => own_mono (h.en q hq) hb.size, h.bb, hb.trans (h.bel.mono hb.size)⟩
theorem Bf.setR {w0 wr : World} {X R k : Nat} {va na atr po : Int} {vf u : Value} {L : FL} {cs : Array Value} (h : Bf w0 wr X va na atr po vf L) (hR : wr.heap[R]? = some (.cells cs 37)) (hne : X ≠ R) (hB : w0.heap.size ≤ R) :
    Bf w0 (wr.setCell ⟨R, k, none⟩ u) X va na atr po vf L :=
  ⟨(Below.heap_setCell _ _ _ _ hne).trans h.box, h.hX, ownsRow_setCell_other h.row (box_ne h.row hR (by decide)) u, fun q hq => ownsRow_setCell_other (h.tx q hq) (box_ne (h.tx q hq) hR (by decide)) u,
    fun q hq => ownsRow_setCell_other (h.en q hq) (box_ne (h.en q hq) hR (by decide)) u, h.bb, h.bel.setCell hB u⟩
/-- a copy stays one where a configuration is put in the place R -/
theorem ch5b (W : World) (R : Nat) (e0 e1 e2 e3 : Int) (e4 : Value) (a b c d : Int) (v : Value) (h : W.heap[R]? = some (cfO e0 e1 e2 e3 e4)) :
    ∃ wf, (((((W.setCell ⟨R, 0, none⟩ (.int .i64 a)).setCell ⟨R, 1, none⟩ (.int .i64 b)).setCell ⟨R, 2, none⟩ (.int .i64 c)).setCell ⟨R, 3, none⟩ (.int .i64 d)).setCell ⟨R, 4, none⟩ v) = wf ∧ wf.heap[R]? = some (cfO a b c d v) ∧
      (∀ (w0 : World) (X : Nat) (va na atr po : Int) (vf : Value) (L : FL), w0.heap.size ≤ R → X ≠ R → Bf w0 W X va na atr po vf L → Bf w0 wf X va na atr po vf L) := by
  have h0 := csetX (cs' := #[.int .i64 a, .int .i64 e1, .int .i64 e2, .int .i64 e3, e4]) 0 (.int .i64 a) h rfl
  have h1 := csetX (cs' := #[.int .i64 a, .int .i64 b, .int .i64 e2, .int .i64 e3, e4]) 1 (.int .i64 b) h0 rfl
  have h2 := csetX (cs' := #[.int .i64 a, .int .i64 b, .int .i64 c, .int .i64 e3, e4]) 2 (.int .i64 c) h1 rfl
  have h3 := csetX (cs' := #[.int .i64 a, .int .i64 b, .int .i64 c, .int .i64 d, e4]) 3 (.int .i64 d) h2 rfl
  have h4 := csetX (cs' := #[.int .i64 a, .int .i64 b, .int .i64 c, .int .i64 d, v]) 4 v h3 rfl
  exact ⟨_, rfl, h4, fun w0 X va na atr po vf L hR hne hI => ((((hI.setR h hne hR).setR h0 hne hR).setR h1 hne hR).setR h2 hne hR).setR h3 hne hR⟩
/-- an operation that reads what lies in every world of the class -/
theorem lex_read {P : Program} {md : Region.Mode} {ops : Array Oper} {st : Array Bool → Option World} {Q : Array Bool → Act → Prop} {k : Nat} {o : Oper} {rest : List Oper} {L : Array Bool} {a : Act} (v : Value) (hst : ∀ L, st (L.setIfInBounds k true) = st L) (hg : o.guard = none)
    (hrun : ∀ L W n, st L = some W → (execOp a.eval o).run P (W.drewN n) = .ok (.value v) (W.drewN n)) (h : wpLex P md ops (St st) Q (k + 1) rest (L.setIfInBounds k true) (a.put o.dst v)) : wpLex P md ops (St st) Q k (o :: rest) L a := by
  refine ⟨v, ⟨by simp [Region.wanted, hg], fun L w _ hw => ?_⟩, h⟩
  obtain ⟨W, n, h1, rfl⟩ := hw
  rw [hrun L W n h1]
  exact ⟨⟨W, n, by rw [hst]; exact h1, rfl⟩, rfl⟩
theorem No.fin {w u : World} (h : No w u) : ∃ wf, (((((u.setCell ⟨w.heap.size, 0, none⟩ (.int .i64 0)).setCell ⟨w.heap.size, 1, none⟩ (.int .i64 0)).setCell ⟨w.heap.size, 2, none⟩ (.int .i64 0)).setCell ⟨w.heap.size, 3, none⟩ (.int .i64 0)).setCell ⟨w.heap.size, 4, none⟩ (.slice none 0 0)) = wf ∧ Below w.heap.size w wf ∧
    (w.heap.size < u.heap.size ∧ u.cell? ⟨w.heap.size, 0, none⟩ = some (.int .i64 0) ∧ u.cell? ⟨w.heap.size, 1, none⟩ = some (.int .i64 0) ∧ u.cell? ⟨w.heap.size, 2, none⟩ = some (.int .i64 0) ∧ u.cell? ⟨w.heap.size, 3, none⟩ = some (.int .i64 0) ∧ u.cell? ⟨w.heap.size, 4, none⟩ = some (.slice none 0 0)) ∧
    (u.frozen? ⟨w.heap.size, 0, none⟩ = false ∧ u.frozen? ⟨w.heap.size, 1, none⟩ = false ∧ u.frozen? ⟨w.heap.size, 2, none⟩ = false ∧ u.frozen? ⟨w.heap.size, 3, none⟩ = false ∧ u.frozen? ⟨w.heap.size, 4, none⟩ = false) ∧
    (w.heap.size < wf.heap.size ∧ wf.cell? ⟨w.heap.size, 0, none⟩ = some (.int .i64 0) ∧ wf.cell? ⟨w.heap.size, 1, none⟩ = some (.int .i64 0) ∧ wf.cell? ⟨w.heap.size, 2, none⟩ = some (.int .i64 0) ∧ wf.cell? ⟨w.heap.size, 3, none⟩ = some (.int .i64 0) ∧ wf.cell? ⟨w.heap.size, 4, none⟩ = some (.slice none 0 0)) := by
  obtain ⟨k1, k2⟩ := box5f h.box
  obtain ⟨wf, hwf, hRf, hBf, _⟩ := ch5 u w.heap.size _ _ _ _ _ 0 0 0 0 (.slice none 0 0) h.box
  exact ⟨wf, hwf, hBf w (Nat.le_refl _) h.bel, k1, k2, (box5f hRf).1⟩
/-- an operation of a list, by what it yields -/
theorem wpl_value {P : Program} {ops : Array Oper} {Q : Exit → Act → World → Prop} {o : Oper} {rest : List Oper} {a : Act} {w w' : World} (v : Value) (hg : o.guard = none) (hrun : (execOp a.eval o).run P w = .ok (.value v) w')
    (h : wpList P ops Q rest (a.put o.dst v) w') : wpList P ops Q (o :: rest) a w :=
  wpList_plain hg fun K hK => by unfold Oper.wp; rw [hrun]; exact hK _ _ h
theorem wpl_skip {P : Program} {ops : Array Oper} {Q : Exit → Act → World → Prop} {o : Oper} {rest : List Oper} {a : Act} {w w' : World} (hg : o.guard = none) (hrun : (execOp a.eval o).run P w = .ok .skip w')
    (h : wpList P ops Q rest (a.put o.dst undef) w') : wpList P ops Q (o :: rest) a w :=
  wpList_plain hg fun K hK => by unfold Oper.wp; rw [hrun]; exact hK _ _ h
/-- 'return api.Config{}, n' in the world u -/
theorem ret_no {id d : Nat} {t1 t2 t3 : TypeId} {p1 p2 p3 : String} {f1 f2 f3 : Array Edge} {n : Int} {Q : Exit → Act → World → Prop} {a : Act} {w u : World} {R : Ending → World → Prop} (hN : No w u)
    (hsz : a.tmps.size = 241) (g2 : ∀ h, a.tmps[2]'h = .pointer (some ⟨w.heap.size, 0, none⟩)) (hdf : a.defers = []) (hd : d < 241) (hd2 : d ≠ 2) (hd3 : d ≠ 3)
    (hR : ∀ wf, Below w.heap.size w wf → R (.returned (.tuple #[cfV noC (.slice none 0 0), .int .i64 n])) wf)
    (hQ : ∀ a' wf, bodyPost Try.prog Try.f19 R .ret a' wf → Q .normal a' wf) :
    (Code.region id #[{ dst := some d, op := .build 37 #[], type := t1, pos := p1, after := f1, guard := none }, { dst := none, op := .store 37 (.tmp 2) (.tmp d), type := t2, pos := p2, after := f2, guard := none },
      { dst := some 3, op := .assign (.const (.int .i64 n)), type := t3, pos := p3, after := f3, guard := none }] false).wp Try.prog Q a u := by
  obtain ⟨wf, hwf, hBf, ⟨hzR, z0, z1, z2, z3, z4⟩, ⟨f0, f1', f2', f3', f4⟩, ⟨hzf, r0, r1, r2, r3, r4⟩⟩ := hN.fin
  refine wp_region_lit (l := [_, _, _]) ?_
  refine wpl_value (w' := u) (.agg #[.int .i64 0, .int .i64 0, .int .i64 0, .int .i64 0, .slice none 0 0]) rfl (by simp [execOp, go_sem]) ?_
  refine wpl_skip (w' := wf) rfl (by rw [← hwf]; simp [execOp, go_sem, hsz, g2, hd, hd2, Ne.symm hd2, Act.eval, Act.put, hzR, z0, z1, z2, z3, z4, f0, f1', f2', f3', f4]) ?_
  refine wpl_value (w' := wf) (.int .i64 n) rfl (by simp [execOp, go_sem]) ?_
  refine (hQ _ _ (bodyPost_ret (v := .tuple #[cfV noC (.slice none 0 0), .int .i64 n]) ?_ ?_ (hR wf hBf)))
  · simp [results, Try.results19, go_sem, hsz, g2, hd, hd2, hd3, Act.put, hzf, r0, r1, r2, r3, r4, noC]
  · simp [Act.put, hdf]
end Go.Proofs.Ytilfenijbbhfjaa.desc
