/- plugref's gadget: what Control answers. -/
import Derived.Test.YtebaepkghbihkaaGadU
import Derived.Test.YtebaepkghbihkaaGadI
import Derived.Test.YtebaepkghbihkaaSetT
namespace Go.Proofs.Ytebaepkghbihkaa.gadget
open Go.RowKit Go.PlainAid Go.Proofs.Ytebaepkghbihkaa.lane Go.Proofs.Ytebaepkghbihkaa.desc
open Go.Proofs.Ytebaepkghbihkaa.setup (inS inS_iff askc good rK rN rC good_words)
set_option linter.unusedVariables false
set_option linter.unusedSimpArgs false

set_option maxHeartbeats 1000000 in
theorem stall_any (G : Nat) (s a h : Int) (w : World) (hG : w.heap[G]? = some (gdO s a h)) :
    Calls Try.prog 33 #[.pointer (some ⟨G, 0, none⟩)] w fun e w' => e = .returned (ansV (bad s a h 8)) ∧ Below w.heap.size w w' := by
  obtain ⟨⟨zg, g0, g1, g2⟩, _, _, _⟩ := gd_box hG
  clear hG
  go_enter Try.func33, Try.ntmps33
  go_wp2
  exact bodyPost_ret (v := ansV (bad s a h 8)) (by simp [results, Try.results33, go_sem, bad]) rfl ⟨rfl, balloc _ _⟩
theorem wpl_value {P : Program} {ops : Array Oper} {Q : Exit → Act → World → Prop} {o : Oper} {rest : List Oper} {a : Act} {w w' : World} (v : Value) (hg : o.guard = none) (hrun : (execOp a.eval o).run P w = .ok (.value v) w')
    (h : wpList P ops Q rest (a.put o.dst v) w') : wpList P ops Q (o :: rest) a w :=
  wpList_plain hg fun K hK => by unfold Oper.wp; rw [hrun]; exact hK _ _ h
theorem wpl_skip {P : Program} {ops : Array Oper} {Q : Exit → Act → World → Prop} {o : Oper} {rest : List Oper} {a : Act} {w w' : World} (hg : o.guard = none) (hrun : (execOp a.eval o).run P w = .ok .skip w')
    (h : wpList P ops Q rest (a.put o.dst undef) w') : wpList P ops Q (o :: rest) a w :=
  wpList_plain hg fun K hK => by unfold Oper.wp; rw [hrun]; exact hK _ _ h
theorem wpl_call {P : Program} {ops : Array Oper} {Q : Exit → Act → World → Prop} {o : Oper} {rest : List Oper} {a : Act} {w : World} (f : FuncId) (args : Array Value) (hg : o.guard = none) (hrun : (execOp a.eval o).run P w = .ok (.enter f args) w)
    (hc : Calls P f args w fun e w' => ∃ v, e = .returned v ∧ wpList P ops Q rest (a.put o.dst v) w') : wpList P ops Q (o :: rest) a w :=
  wpList_plain hg fun K hK => by
    unfold Oper.wp
    rw [hrun]
    simp only [Oper.upon]
    refine hc.mono ?_
    rintro e w' ⟨v, rfl, h⟩
    exact hK _ _ h
/-- the end of a return: a gadget, a text and a code are told -/
theorem ret_tail {ops : Array Oper} {d : Nat} {tx cx : Operand} {t2 t3 t4 : TypeId} {p2 p3 p4 : String} {e2 e3 e4 : Array Edge} {Q : Exit → Act → World → Prop} {a : Act} {w u : World} {R : Nat} {r0 r1 r2 s' a' h' n : Int} {t : ByteArray} {E : Ending → World → Prop}
    (hsz : a.tmps.size = 195) (g6 : ∀ h, a.tmps[6]'h = .pointer (some ⟨R, 0, none⟩)) (hdf : a.defers = []) (hd1 : d < 195) (hd : ∀ h, a.tmps[d]'h = gdV s' a' h') (ht : a.eval tx = .string t) (hn : (a.put (some 7) (.string t)).eval cx = .int .i64 n)
    (hR : u.heap[R]? = some (gdO r0 r1 r2)) (hw : w.heap.size ≤ R) (hb : Below w.heap.size w u)
    (hE : ∀ wf, Below w.heap.size w wf → E (.returned (ansV ⟨s', a', h', t, n⟩)) wf)
    (hQ : ∀ a' wf, bodyPost Try.prog Try.f12 E .ret a' wf → Q .normal a' wf) :
    wpList Try.prog ops Q [{ dst := none, op := .store 34 (.tmp 6) (.tmp d), type := t2, pos := p2, after := e2, guard := none }, { dst := some 7, op := .assign tx, type := t3, pos := p3, after := e3, guard := none }, { dst := some 8, op := .assign cx, type := t4, pos := p4, after := e4, guard := none }] a u := by
  obtain ⟨⟨zr, z0, z1, z2⟩, f0, f1, f2⟩ := gd_box hR
  obtain ⟨uf, huf, hXf, hBf⟩ := gd_put u R r0 r1 r2 s' a' h' hR
  obtain ⟨⟨zf, x0, x1, x2⟩, _⟩ := gd_box hXf
  refine wpl_skip (w' := uf) rfl (by rw [← huf]; simp [execOp, go_sem, hsz, g6, hd1, hd, zr, z0, z1, z2, f0, f1, f2]) ?_
  refine wpl_value (w' := uf) (.string t) rfl ?_ ?_
  · show (execOp a.eval _).run _ _ = _
    simp only [execOp, ht]
    simp [go_sem]
  refine wpl_value (w' := uf) (.int .i64 n) rfl ?_ ?_
  · show (execOp (a.put (some 7) (.string t)).eval _).run _ _ = _
    simp only [execOp, hn]
    simp [go_sem]
  refine (hQ _ _ (bodyPost_ret (v := ansV ⟨s', a', h', t, n⟩) ?_ ?_ (hE uf (hBf _ _ hw hb))))
  · simp [results, Try.results12, go_sem, hsz, g6, Act.put, zf, x0, x1, x2]
  · simp [Act.put, hdf]
end Go.Proofs.Ytebaepkghbihkaa.gadget
