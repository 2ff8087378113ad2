/- a region that draws its order, of which every world is known; what WordAt answers, to the draw. -/
import Derived.Test.YtonheibhbilhhaaGreatZAg
import Derived.Test.YtonheibhbilhhaaGreatZCb
import Derived.Test.YtonheibhbilhhaaGreatZCd
import Derived.Test.YtonheibhbilhhaaGreatDescOa
import Derived.Test.YtonheibhbilhhaaGreatZBg
import Derived.Test.YtonheibhbilhhaaGreatDescC
import Derived.Deep.Cut
namespace Go.Proofs.YtonheibhbilhhaaGreat.desc
open Go.RowKit Go.PlainAid Go.Proofs.YtonheibhbilhhaaGreat.lane
set_option linter.unusedVariables false
set_option linter.unusedSimpArgs false
section
variable {P : Program} {md : Region.Mode} {ops : Array Oper}
theorem lexk_plain {K : World → Prop} {Q : Array Bool → Act → Prop} {k : Nat} {o : Oper} {rest : List Oper} {L : Array Bool} {a : Act} (v : Value) (hg : o.guard = none)
  (hrun : ∀ W, (execOp a.eval o).run P W = .ok (.value v) W) (h : wpLex P md ops (fun _ => K) Q (k + 1) rest (L.setIfInBounds k true) (a.put o.dst v)) : wpLex P md ops (fun _ => K) Q k (o :: rest) L a :=
 lexg v hg (fun L W _ hC => by rw [hrun W]; exact ⟨hC, rfl⟩) h
def stE (w0 w1 w2 w3 w4 : World) (L : Array Bool) : Option World :=
 if L.getD 23 false then (if L.getD 19 false && (L.getD 18 false && (L.getD 17 false && (L.getD 13 false && L.getD 1 false))) then some w4 else none)
 else if L.getD 19 false then (if L.getD 18 false && (L.getD 17 false && (L.getD 13 false && L.getD 1 false)) then some w3 else none)
 else if L.getD 18 false then (if L.getD 17 false && L.getD 13 false then some w2 else none)
 else if L.getD 17 false then (if L.getD 13 false then some w1 else none)
 else if L.getD 13 false then some w1 else some w0
variable {w0 w1 w2 w3 w4 : World} {L : Array Bool} {W : World}
theorem stE_plain (k : Nat) (h1 : k ≠ 1) (h13 : k ≠ 13) (h17 : k ≠ 17) (h18 : k ≠ 18) (h19 : k ≠ 19) (h23 : k ≠ 23) : stE w0 w1 w2 w3 w4 (L.setIfInBounds k true) = stE w0 w1 w2 w3 w4 L := by
 unfold stE
 rw [getD_set_ne false h1, getD_set_ne false h13, getD_set_ne false h17, getD_set_ne false h18, getD_set_ne false h19, getD_set_ne false h23]
theorem stE_1 (h : stE w0 w1 w2 w3 w4 L = some W) (hz : 1 < L.size) (h1 : L.getD 1 false = false) : (W = w0 ∨ W = w1 ∨ W = w2) ∧ stE w0 w1 w2 w3 w4 (L.setIfInBounds 1 true) = some W := by
 unfold stE at h ⊢
 rw [set_same hz, getD_set_ne false (show (1 : Nat) ≠ 13 by decide), getD_set_ne false (show (1 : Nat) ≠ 17 by decide), getD_set_ne false (show (1 : Nat) ≠ 18 by decide), getD_set_ne false (show (1 : Nat) ≠ 19 by decide), getD_set_ne false (show (1 : Nat) ≠ 23 by decide)]
 rw [h1] at h
 generalize L.getD 13 false = a at *
 generalize L.getD 17 false = b at *
 generalize L.getD 18 false = c at *
 generalize L.getD 19 false = d at *
 generalize L.getD 23 false = e at *
 cases a <;> cases b <;> cases c <;> cases d <;> cases e <;> simp at h ⊢ <;> simp [h]
theorem stE_13 (h : stE w0 w1 w2 w3 w4 L = some W) (hz : 13 < L.size) (h1 : L.getD 13 false = false) : W = w0 ∧ stE w0 w1 w2 w3 w4 (L.setIfInBounds 13 true) = some w1 := by
 unfold stE at h ⊢
 rw [set_same hz, getD_set_ne false (show (13 : Nat) ≠ 1 by decide), getD_set_ne false (show (13 : Nat) ≠ 17 by decide), getD_set_ne false (show (13 : Nat) ≠ 18 by decide), getD_set_ne false (show (13 : Nat) ≠ 19 by decide), getD_set_ne false (show (13 : Nat) ≠ 23 by decide)]
 rw [h1] at h
 generalize L.getD 1 false = a at *
 generalize L.getD 17 false = b at *
 generalize L.getD 18 false = c at *
 generalize L.getD 19 false = d at *
 generalize L.getD 23 false = e at *
 cases a <;> cases b <;> cases c <;> cases d <;> cases e <;> simp at h ⊢ <;> simp [h]
theorem stE_17 (h : stE w0 w1 w2 w3 w4 L = some W) (hz : 17 < L.size) (h1 : L.getD 17 false = false) (h2 : L.getD 13 false = true) : stE w0 w1 w2 w3 w4 (L.setIfInBounds 17 true) = some W := by
 unfold stE at h ⊢
 rw [set_same hz, getD_set_ne false (show (17 : Nat) ≠ 1 by decide), getD_set_ne false (show (17 : Nat) ≠ 13 by decide), getD_set_ne false (show (17 : Nat) ≠ 18 by decide), getD_set_ne false (show (17 : Nat) ≠ 19 by decide), getD_set_ne false (show (17 : Nat) ≠ 23 by decide), h2]
 rw [h1, h2] at h
 generalize L.getD 1 false = a at *
 generalize L.getD 18 false = c at *
 generalize L.getD 19 false = d at *
 generalize L.getD 23 false = e at *
 cases a <;> cases c <;> cases d <;> cases e <;> simp at h ⊢ <;> simp [h]
theorem stE_18 (h : stE w0 w1 w2 w3 w4 L = some W) (hz : 18 < L.size) (h1 : L.getD 18 false = false) (h2 : L.getD 17 false = true) : W = w1 ∧ stE w0 w1 w2 w3 w4 (L.setIfInBounds 18 true) = some w2 := by
 unfold stE at h ⊢
 rw [set_same hz, getD_set_ne false (show (18 : Nat) ≠ 1 by decide), getD_set_ne false (show (18 : Nat) ≠ 13 by decide), getD_set_ne false (show (18 : Nat) ≠ 17 by decide), getD_set_ne false (show (18 : Nat) ≠ 19 by decide), getD_set_ne false (show (18 : Nat) ≠ 23 by decide), h2]
 rw [h1, h2] at h
 generalize L.getD 1 false = a at *
 generalize L.getD 13 false = c at *
 generalize L.getD 19 false = d at *
 generalize L.getD 23 false = e at *
 cases a <;> cases c <;> cases d <;> cases e <;> simp at h ⊢ <;> simp [h]
theorem stE_19 (h : stE w0 w1 w2 w3 w4 L = some W) (hz : 19 < L.size) (h1 : L.getD 19 false = false) (h2 : L.getD 18 false = true) (h3 : L.getD 1 false = true) : W = w2 ∧ stE w0 w1 w2 w3 w4 (L.setIfInBounds 19 true) = some w3 := by
 unfold stE at h ⊢
 rw [set_same hz, getD_set_ne false (show (19 : Nat) ≠ 1 by decide), getD_set_ne false (show (19 : Nat) ≠ 13 by decide), getD_set_ne false (show (19 : Nat) ≠ 17 by decide), getD_set_ne false (show (19 : Nat) ≠ 18 by decide), getD_set_ne false (show (19 : Nat) ≠ 23 by decide), h2, h3]
 rw [h1, h2, h3] at h
 generalize L.getD 13 false = c at *
 generalize L.getD 17 false = d at *
 generalize L.getD 23 false = e at *
 cases c <;> cases d <;> cases e <;> simp at h ⊢ <;> simp [h]
theorem stE_23 (h : stE w0 w1 w2 w3 w4 L = some W) (hz : 23 < L.size) (h1 : L.getD 23 false = false) (h2 : L.getD 19 false = true) : W = w3 ∧ stE w0 w1 w2 w3 w4 (L.setIfInBounds 23 true) = some w4 := by
 unfold stE at h ⊢
 rw [set_same hz, getD_set_ne false (show (23 : Nat) ≠ 1 by decide), getD_set_ne false (show (23 : Nat) ≠ 13 by decide), getD_set_ne false (show (23 : Nat) ≠ 17 by decide), getD_set_ne false (show (23 : Nat) ≠ 18 by decide), getD_set_ne false (show (23 : Nat) ≠ 19 by decide), h2]
 rw [h1, h2] at h
 generalize L.getD 1 false = a at *
 generalize L.getD 13 false = c at *
 generalize L.getD 17 false = d at *
 generalize L.getD 18 false = e at *
 cases a <;> cases c <;> cases d <;> cases e <;> simp at h ⊢ <;> simp [h]
def SE (w0 w1 w2 w3 w4 : World) : Array Bool → World → Prop := fun L w => stE w0 w1 w2 w3 w4 L = some w
theorem lexe_plain {Q : Array Bool → Act → Prop} {k : Nat} {o : Oper} {rest : List Oper} {a : Act} (v : Value) (hk : k ≠ 1 ∧ k ≠ 13 ∧ k ≠ 17 ∧ k ≠ 18 ∧ k ≠ 19 ∧ k ≠ 23) (hg : o.guard = none)
  (hrun : ∀ W, (execOp a.eval o).run P W = .ok (.value v) W) (h : wpLex P md ops (SE w0 w1 w2 w3 w4) Q (k + 1) rest (L.setIfInBounds k true) (a.put o.dst v)) : wpLex P md ops (SE w0 w1 w2 w3 w4) Q k (o :: rest) L a :=
 lexg v hg (fun L W _ hC => by rw [hrun W]; exact ⟨(stE_plain k hk.1 hk.2.1 hk.2.2.1 hk.2.2.2.1 hk.2.2.2.2.1 hk.2.2.2.2.2).trans hC, rfl⟩) h
theorem append_run {o : Oper} {a : Act} {x y : Operand} {t : TypeId} {v u r : Value} {w w' : World} (ho : o.op = .call { callee := .builtin .append, args := #[x, y], argTypes := #[t, t] }) (hx : a.eval x = v) (hy : a.eval y = u)
  (hr : (Builtin.append_ #[t, t] o.type #[v, u]).run P w = .ok r w') : (execOp a.eval o).run P w = .ok (.value r) w' := by
 unfold execOp
 simp only [ho, resolve, invoke, builtin, Sem.run_bind, Sem.run_pure, Result.andThen_ok, List.map_toArray, List.map_cons, List.map_nil, hx, hy, hr]
section
variable {Q : Array Bool → Act → Prop} {o : Oper} {rest : List Oper} {a : Act} {L : Array Bool}
theorem lexe_1 (v : Value) (hg : o.guard = none) (r0 : (execOp a.eval o).run P w0 = .ok (.value v) w0) (r1 : (execOp a.eval o).run P w1 = .ok (.value v) w1) (r2 : (execOp a.eval o).run P w2 = .ok (.value v) w2)
  (h : wpLex P md ops (SE w0 w1 w2 w3 w4) Q 2 rest (L.setIfInBounds 1 true) (a.put o.dst v)) : wpLex P md ops (SE w0 w1 w2 w3 w4) Q 1 (o :: rest) L a :=
 lexg v hg (fun L W hr hC => by
  obtain ⟨h1, hz⟩ := rdy_at hr
  obtain ⟨hW, hs⟩ := stE_1 hC hz h1
  have e : (execOp a.eval o).run P W = .ok (.value v) W := by rcases hW with rfl | rfl | rfl <;> assumption
  rw [e]
  exact ⟨hs, rfl⟩) h
theorem lexe_13 (v : Value) (f : FuncId) (args : Array Value) (hg : o.guard = none) (hrun : ∀ W, (execOp a.eval o).run P W = .ok (.enter f args) W) (hc : Calls P f args w0 fun e w' => e = .returned v ∧ w' = w1)
  (h : wpLex P md ops (SE w0 w1 w2 w3 w4) Q 14 rest (L.setIfInBounds 13 true) (a.put o.dst v)) : wpLex P md ops (SE w0 w1 w2 w3 w4) Q 13 (o :: rest) L a :=
 lexg v hg (fun L W hr hC => by
  obtain ⟨h1, hz⟩ := rdy_at hr
  obtain ⟨rfl, hs⟩ := stE_13 hC hz h1
  rw [hrun W]
  refine ⟨rfl, hc.mono fun e w' ⟨he, hw⟩ => ⟨he, ?_⟩⟩
  rw [hw]
  exact hs) h
theorem lexe_17 (v : Value) (hg : o.guard = none) (hw : Region.waitsFor md ops 17 13 = true) (hrun : ∀ W, (execOp a.eval o).run P W = .ok (.value v) W)
  (h : wpLex P md ops (SE w0 w1 w2 w3 w4) Q 18 rest (L.setIfInBounds 17 true) (a.put o.dst v)) : wpLex P md ops (SE w0 w1 w2 w3 w4) Q 17 (o :: rest) L a :=
 lexg v hg (fun L W hr hC => by
  obtain ⟨h1, hz⟩ := rdy_at hr
  rw [hrun W]
  exact ⟨stE_17 hC hz h1 (rdy_after hr hw), rfl⟩) h
theorem lexe_18 (v : Value) (hg : o.guard = none) (hw : Region.waitsFor md ops 18 17 = true) (hrun : (execOp a.eval o).run P w1 = .ok (.value v) w2)
  (h : wpLex P md ops (SE w0 w1 w2 w3 w4) Q 19 rest (L.setIfInBounds 18 true) (a.put o.dst v)) : wpLex P md ops (SE w0 w1 w2 w3 w4) Q 18 (o :: rest) L a :=
 lexg v hg (fun L W hr hC => by
  obtain ⟨h1, hz⟩ := rdy_at hr
  obtain ⟨rfl, hs⟩ := stE_18 hC hz h1 (rdy_after hr hw)
  rw [hrun]
  exact ⟨hs, rfl⟩) h
theorem lexe_19 (v : Value) (hg : o.guard = none) (hw : Region.waitsFor md ops 19 18 = true) (hw' : Region.waitsFor md ops 19 1 = true) (hrun : (execOp a.eval o).run P w2 = .ok (.value v) w3)
  (h : wpLex P md ops (SE w0 w1 w2 w3 w4) Q 20 rest (L.setIfInBounds 19 true) (a.put o.dst v)) : wpLex P md ops (SE w0 w1 w2 w3 w4) Q 19 (o :: rest) L a :=
 lexg v hg (fun L W hr hC => by
  obtain ⟨h1, hz⟩ := rdy_at hr
  obtain ⟨rfl, hs⟩ := stE_19 hC hz h1 (rdy_after hr hw) (rdy_after hr hw')
  rw [hrun]
  exact ⟨hs, rfl⟩) h
theorem lexe_23 (hg : o.guard = none) (hw : Region.waitsFor md ops 23 19 = true) (hrun : (execOp a.eval o).run P w3 = .ok .skip w4)
  (h : wpLex P md ops (SE w0 w1 w2 w3 w4) Q 24 rest (L.setIfInBounds 23 true) (a.put o.dst undef)) : wpLex P md ops (SE w0 w1 w2 w3 w4) Q 23 (o :: rest) L a :=
 lexg undef hg (fun L W hr hC => by
  obtain ⟨h1, hz⟩ := rdy_at hr
  obtain ⟨rfl, hs⟩ := stE_23 hC hz h1 (rdy_after hr hw)
  rw [hrun]
  exact ⟨hs, rfl⟩) h
end
end
set_option maxHeartbeats 1000000 in
theorem wordAt_drew (s : ByteArray) (w : World) (h5 : 5 < s.size) (hs : s.size ≤ maxLen) :
  Calls Tryz.prog 78 #[.string s, .int .i64 4] w fun e w' => e = .returned (.int .i64 (bt s 4 + 256 * bt s 5)) ∧ w' = w.drew := by
 unfold maxLen at hs
 have x0 : ∀ W : World, (Instr.index 9 (.string s) (.int .i64 4)).run Tryz.prog W = .ok (.int .u8 (bt s 4)) W := run_ix s 4 (by omega)
 have x1 : ∀ W : World, (Instr.index 9 (.string s) (.int .i64 5)).run Tryz.prog W = .ok (.int .u8 (bt s 5)) W := run_ix s 5 (by omega)
 have b0 := bt_nonneg s 4
 have b1 := bt_le s 4
 have c0 := bt_nonneg s 5
 have c1 := bt_le s 5
 have m0 : IntKind.i64.wrap (bt s 4) = bt s 4 := by rw [IntKind.wrap_i64]; omega
 have m1 : IntKind.i64.wrap (bt s 5) = bt s 5 := by rw [IntKind.wrap_i64]; omega
 have n2 : IntKind.i64.wrap (256 * bt s 5) = 256 * bt s 5 := by rw [IntKind.wrap_i64]; omega
 have n3 : IntKind.i64.wrap (256 * bt s 5 + bt s 4) = 256 * bt s 5 + bt s 4 := by rw [IntKind.wrap_i64]; omega
 have o2 : wrap64 (256 * bt s 5) = 256 * bt s 5 := by unfold wrap64; omega
 have o3 : wrap64 (256 * bt s 5 + bt s 4) = 256 * bt s 5 + bt s 4 := by unfold wrap64; omega
 have n5 : IntKind.i64.wrap 5 = 5 := by decide
 have HN : Hid (256 * bt s 5 + bt s 4 = bt s 4 + 256 * bt s 5) := Int.add_comm _ _
 generalize bt s 4 + 256 * bt s 5 = N at *
 generalize bt s 5 = y at *
 generalize bt s 4 = x at *
 go_enter Tryz.func78, Tryz.ntmps78
 go_wp2_with fail
 refine wp_region_L (fun _ w' => w' = w.drew) (by kernel_rfl) (by kernel_rfl) rfl ?_
 refine lexk_plain (.string s) rfl (fun W => by simp [execOp, go_sem]) ?_
 refine lexk_plain (.int .i64 4) rfl (fun W => by simp [execOp, go_sem]) ?_
 refine lexk_plain (.int .i64 5) rfl (fun W => by simp [execOp, go_sem, n5]) ?_
 refine lexk_plain (.int .u8 y) rfl (fun W => by simp [execOp, go_sem, x1]) ?_
 refine lexk_plain (.int .i64 y) rfl (fun W => by simp [execOp, go_sem, m1]) ?_
 refine lexk_plain (.int .i64 (256 * y)) rfl (fun W => by simp [execOp, go_sem, n2, o2]) ?_
 refine lexk_plain (.string s) rfl (fun W => by simp [execOp, go_sem]) ?_
 refine lexk_plain (.int .i64 4) rfl (fun W => by simp [execOp, go_sem]) ?_
 refine lexk_plain (.int .u8 x) rfl (fun W => by simp [execOp, go_sem, x0]) ?_
 refine lexk_plain (.int .i64 x) rfl (fun W => by simp [execOp, go_sem, m0]) ?_
 refine lexk_plain (.int .i64 (256 * y + x)) rfl (fun W => by simp [execOp, go_sem, n3, o3]) ?_
 refine lexk_plain (.int .i64 (256 * y + x)) rfl (fun W => by simp [execOp, go_sem]) ?_
 intro w' hw'
 subst hw'
 clear x0 x1
 go_simp
 go_wp2
 go_ret
 rw [HN.out]
 exact ⟨rfl, rfl⟩
end Go.Proofs.YtonheibhbilhhaaGreat.desc
namespace Go.Proofs.YtonheibhbilhhaaGreat.desc
open Go.RowKit Go.PlainAid Go.Proofs.YtonheibhbilhhaaGreat.lane
set_option linter.unusedVariables false
set_option linter.unusedSimpArgs false
set_option maxRecDepth 100000
abbrev fbO (f : Fc) (ve vd : Value) : Obj := .cells #[.int .i64 f.cl, .int .i64 f.su, .int .i64 f.pr, .int .i64 f.nm, ve, vd] 74
structure No (w : World) (u : World) : Prop where
 box : u.heap[w.heap.size]? = some (cfO 0 0 0 0 (.slice none 0 0))
 bel : Below w.heap.size w u
theorem No.below {w u u' : World} (h : No w u) (hb : Below u.heap.size u u') : No w u' := ⟨res_below h.box hb, bsq h.bel hb⟩
theorem Bf.base {w w0 wr : World} {X : Nat} {va na atr po : Int} {vf : Value} {L : FL} (h : Bf w0 wr X va na atr po vf L) (hb : Below w.heap.size w w0) : Bf w wr X va na atr po vf L :=
 ⟨h.box, Nat.le_trans hb.size h.hX, own_mono h.row hb.size, fun q hq => own_mono (h.tx q hq) hb.size, fun q hq => own_mono (h.en q hq) hb.size, h.bb, hb.trans (h.bel.mono hb.size)⟩
theorem Bf.setR {w0 wr : World} {X R k : Nat} {va na atr po : Int} {vf u : Value} {L : FL} {cs : Array Value} (h : Bf w0 wr X va na atr po vf L) (hR : wr.heap[R]? = some (.cells cs 26)) (hne : X ≠ R) (hB : w0.heap.size ≤ R) :
  Bf w0 (wr.setCell ⟨R, k, none⟩ u) X va na atr po vf L :=
 ⟨(Below.heap_setCell _ _ _ _ hne).trans h.box, h.hX, ownsRow_setCell_other h.row (box_ne h.row hR (by decide)) u, fun q hq => ownsRow_setCell_other (h.tx q hq) (box_ne (h.tx q hq) hR (by decide)) u,
   fun q hq => ownsRow_setCell_other (h.en q hq) (box_ne (h.en q hq) hR (by decide)) u, h.bb, h.bel.setCell hB u⟩
theorem ch5b (W : World) (R : Nat) (e0 e1 e2 e3 : Int) (e4 : Value) (a b c d : Int) (v : Value) (h : W.heap[R]? = some (cfO e0 e1 e2 e3 e4)) :
  ∃ wf, (((((W.setCell ⟨R, 0, none⟩ (.int .i64 a)).setCell ⟨R, 1, none⟩ (.int .i64 b)).setCell ⟨R, 2, none⟩ (.int .i64 c)).setCell ⟨R, 3, none⟩ (.int .i64 d)).setCell ⟨R, 4, none⟩ v) = wf ∧ wf.heap[R]? = some (cfO a b c d v) ∧
   (∀ (w0 : World) (X : Nat) (va na atr po : Int) (vf : Value) (L : FL), w0.heap.size ≤ R → X ≠ R → Bf w0 W X va na atr po vf L → Bf w0 wf X va na atr po vf L) := by
 have h0 := csetX (cs' := #[.int .i64 a, .int .i64 e1, .int .i64 e2, .int .i64 e3, e4]) 0 (.int .i64 a) h rfl
 have h1 := csetX (cs' := #[.int .i64 a, .int .i64 b, .int .i64 e2, .int .i64 e3, e4]) 1 (.int .i64 b) h0 rfl
 have h2 := csetX (cs' := #[.int .i64 a, .int .i64 b, .int .i64 c, .int .i64 e3, e4]) 2 (.int .i64 c) h1 rfl
 have h3 := csetX (cs' := #[.int .i64 a, .int .i64 b, .int .i64 c, .int .i64 d, e4]) 3 (.int .i64 d) h2 rfl
 have h4 := csetX (cs' := #[.int .i64 a, .int .i64 b, .int .i64 c, .int .i64 d, v]) 4 v h3 rfl
 exact ⟨_, rfl, h4, fun w0 X va na atr po vf L hR hne hI => ((((hI.setR h hne hR).setR h0 hne hR).setR h1 hne hR).setR h2 hne hR).setR h3 hne hR⟩
theorem lex_read {P : Program} {md : Region.Mode} {ops : Array Oper} {st : Array Bool → Option World} {Q : Array Bool → Act → Prop} {k : Nat} {o : Oper} {rest : List Oper} {L : Array Bool} {a : Act} (v : Value) (hst : ∀ L, st (L.setIfInBounds k true) = st L) (hg : o.guard = none)
  (hrun : ∀ L W n, st L = some W → (execOp a.eval o).run P (W.drewN n) = .ok (.value v) (W.drewN n)) (h : wpLex P md ops (St st) Q (k + 1) rest (L.setIfInBounds k true) (a.put o.dst v)) : wpLex P md ops (St st) Q k (o :: rest) L a := by
 refine ⟨v, ⟨by simp [Region.wanted, hg], fun L w _ hw => ?_⟩, h⟩
 obtain ⟨W, n, h1, rfl⟩ := hw
 rw [hrun L W n h1]
 exact ⟨⟨W, n, by rw [hst]; exact h1, rfl⟩, rfl⟩
theorem No.fin {w u : World} (h : No w u) : ∃ wf, (((((u.setCell ⟨w.heap.size, 0, none⟩ (.int .i64 0)).setCell ⟨w.heap.size, 1, none⟩ (.int .i64 0)).setCell ⟨w.heap.size, 2, none⟩ (.int .i64 0)).setCell ⟨w.heap.size, 3, none⟩ (.int .i64 0)).setCell ⟨w.heap.size, 4, none⟩ (.slice none 0 0)) = wf ∧ Below w.heap.size w wf ∧
  (w.heap.size < u.heap.size ∧ u.cell? ⟨w.heap.size, 0, none⟩ = some (.int .i64 0) ∧ u.cell? ⟨w.heap.size, 1, none⟩ = some (.int .i64 0) ∧ u.cell? ⟨w.heap.size, 2, none⟩ = some (.int .i64 0) ∧ u.cell? ⟨w.heap.size, 3, none⟩ = some (.int .i64 0) ∧ u.cell? ⟨w.heap.size, 4, none⟩ = some (.slice none 0 0)) ∧
  (u.frozen? ⟨w.heap.size, 0, none⟩ = false ∧ u.frozen? ⟨w.heap.size, 1, none⟩ = false ∧ u.frozen? ⟨w.heap.size, 2, none⟩ = false ∧ u.frozen? ⟨w.heap.size, 3, none⟩ = false ∧ u.frozen? ⟨w.heap.size, 4, none⟩ = false) ∧
  (w.heap.size < wf.heap.size ∧ wf.cell? ⟨w.heap.size, 0, none⟩ = some (.int .i64 0) ∧ wf.cell? ⟨w.heap.size, 1, none⟩ = some (.int .i64 0) ∧ wf.cell? ⟨w.heap.size, 2, none⟩ = some (.int .i64 0) ∧ wf.cell? ⟨w.heap.size, 3, none⟩ = some (.int .i64 0) ∧ wf.cell? ⟨w.heap.size, 4, none⟩ = some (.slice none 0 0)) := by
 obtain ⟨k1, k2⟩ := box5f h.box
 obtain ⟨wf, hwf, hRf, hBf, _⟩ := ch5 u w.heap.size _ _ _ _ _ 0 0 0 0 (.slice none 0 0) h.box
 exact ⟨wf, hwf, hBf w (Nat.le_refl _) h.bel, k1, k2, (box5f hRf).1⟩
theorem wpl_value {P : Program} {ops : Array Oper} {Q : Exit → Act → World → Prop} {o : Oper} {rest : List Oper} {a : Act} {w w' : World} (v : Value) (hg : o.guard = none) (hrun : (execOp a.eval o).run P w = .ok (.value v) w')
  (h : wpList P ops Q rest (a.put o.dst v) w') : wpList P ops Q (o :: rest) a w :=
 wpList_plain hg fun K hK => by unfold Oper.wp; rw [hrun]; exact hK _ _ h
theorem wpl_skip {P : Program} {ops : Array Oper} {Q : Exit → Act → World → Prop} {o : Oper} {rest : List Oper} {a : Act} {w w' : World} (hg : o.guard = none) (hrun : (execOp a.eval o).run P w = .ok .skip w')
  (h : wpList P ops Q rest (a.put o.dst undef) w') : wpList P ops Q (o :: rest) a w :=
 wpList_plain hg fun K hK => by unfold Oper.wp; rw [hrun]; exact hK _ _ h
theorem ret_no {id d : Nat} {t1 t2 t3 : TypeId} {p1 p2 p3 : String} {f1 f2 f3 : Array Edge} {n : Int} {Q : Exit → Act → World → Prop} {a : Act} {w u : World} {R : Ending → World → Prop} (hN : No w u)
  (hsz : a.tmps.size = 241) (g2 : ∀ h, a.tmps[2]'h = .pointer (some ⟨w.heap.size, 0, none⟩)) (hdf : a.defers = []) (hd : d < 241) (hd2 : d ≠ 2) (hd3 : d ≠ 3)
  (hR : ∀ wf, Below w.heap.size w wf → R (.returned (.tuple #[cfV noC (.slice none 0 0), .int .i64 n])) wf)
  (hQ : ∀ a' wf, bodyPost Tryz.prog Tryz.f81 R .ret a' wf → Q .normal a' wf) :
  (Code.region id #[{ dst := some d, op := .build 26 #[], type := t1, pos := p1, after := f1, guard := none }, { dst := none, op := .store 26 (.tmp 2) (.tmp d), type := t2, pos := p2, after := f2, guard := none },
    { dst := some 3, op := .assign (.const (.int .i64 n)), type := t3, pos := p3, after := f3, guard := none }] false).wp Tryz.prog Q a u := by
 obtain ⟨wf, hwf, hBf, ⟨hzR, z0, z1, z2, z3, z4⟩, ⟨f0, f1', f2', f3', f4⟩, ⟨hzf, r0, r1, r2, r3, r4⟩⟩ := hN.fin
 refine wp_region_lit (l := [_, _, _]) ?_
 refine wpl_value (w' := u) (.agg #[.int .i64 0, .int .i64 0, .int .i64 0, .int .i64 0, .slice none 0 0]) rfl (by simp [execOp, go_sem]) ?_
 refine wpl_skip (w' := wf) rfl (by rw [← hwf]; simp [execOp, go_sem, hsz, g2, hd, hd2, Ne.symm hd2, Act.eval, Act.put, hzR, z0, z1, z2, z3, z4, f0, f1', f2', f3', f4]) ?_
 refine wpl_value (w' := wf) (.int .i64 n) rfl (by simp [execOp, go_sem]) ?_
 refine (hQ _ _ (bodyPost_ret (v := .tuple #[cfV noC (.slice none 0 0), .int .i64 n]) ?_ ?_ (hR wf hBf)))
 ·simp [results, Tryz.results81, go_sem, hsz, g2, hd, hd2, hd3, Act.put, hzf, r0, r1, r2, r3, r4, noC]
 ·simp [Act.put, hdf]
end Go.Proofs.YtonheibhbilhhaaGreat.desc
namespace Go.Proofs.YtonheibhbilhhaaGreat.desc
open Go.RowKit Go.PlainAid Go.Proofs.YtonheibhbilhhaaGreat.lane
set_option linter.unusedVariables false
set_option linter.unusedSimpArgs false
set_option maxRecDepth 100000
set_option maxHeartbeats 16000000 in
theorem rreadConfig_any (s : ByteArray) (w : World) (hs : s.size ≤ maxLen) : Calls Tryz.prog 81 #[.string s] w (RrP s w) := by
 obtain ⟨w0, hw0⟩ : ∃ w0, w.alloc (cfO 0 0 0 0 (.slice none 0 0)) = w0 := ⟨_, rfl⟩
 have HN0 : Hid (No w w0) := ⟨by rw [← hw0]; exact (MapKept.heap_alloc w _).1, by rw [← hw0]; exact balloc _ _⟩
 have HS : Hid (Calls Tryz.prog 110 #[.string s] w0 fun e w' => ∃ v, e = .returned (.tuple #[v, .int .i64 (splC (nums s))]) ∧ Txs w' w0.heap.size v (splP (nums s)) ∧ Below w0.heap.size w0 w') := rsplit_any s w0 hs
 obtain ⟨CF, hCF⟩ : ∃ CF : World → Ending → World → Prop, CF = RrP s := ⟨_, rfl⟩
 have HP : Hid (∀ w e w', CF w e w' ↔ RrP s w e w') := fun w e w' => by rw [hCF]
 rw [← hCF]
 clear hCF
 by_cases hz : splC (nums s) = 0
 case neg =>
  have HNZ : Hid (splC (nums s) ≠ 0) := hz
  obtain ⟨z, hzz⟩ : ∃ z, splC (nums s) = z := ⟨_, rfl⟩
  have HZZ : Hid (splC (nums s) = z) := hzz
  have hzn : (z != 0) = true := by rw [← hzz]; simpa using hz
  rw [hzz] at HS
  clear hz hzz
  go_enter Tryz.func81, Tryz.ntmps81
  go_wp2_with fail
  refine HS.out.mono ?_
  rintro e w1 ⟨v, rfl, hx1, hb1⟩
  have hN1 := HN0.out.below hb1
  obtain ⟨⟨hzR, z0, z1, z2, z3, z4⟩, f0, f1, f2, f3, f4⟩ := box5f hN1.box
  obtain ⟨wf, hwf, hRf, hBf, _⟩ := ch5 w1 w.heap.size _ _ _ _ _ 0 0 0 0 (.slice none 0 0) hN1.box
  have hE : RrP s w (.returned (.tuple #[cfV noC (.slice none 0 0), .int .i64 z])) wf := .inl ⟨HNZ.out, by rw [HZZ.out], hBf w (Nat.le_refl _) hN1.bel⟩
  have HE : Hid (CF w (.returned (.tuple #[cfV noC (.slice none 0 0), .int .i64 z])) wf) := (HP.out _ _ _).2 hE
  obtain ⟨⟨hzf, r0, r1, r2, r3, r4⟩, _⟩ := box5f hRf
  clear hE hBf hRf hN1 hx1 hb1 HS hw0 HN0
  go_wp2
  try rw [hwf]
  exact bodyPost_ret (v := .tuple #[cfV noC (.slice none 0 0), .int .i64 z]) (by simp [results, Tryz.results81, go_sem, hzf, r0, r1, r2, r3, r4, noC]) rfl HE.out
 have HZ : Hid (splC (nums s) = 0) := hz
 rw [hz] at HS
 have HLn : Hid _ := splP_len hz
 have HBB : Hid (BB (splP (nums s))) := splP_byt s
 have HRN : Hid (refC (s.size : Int) (splP (nums s)) = none → ∀ u, Below w.heap.size w u → CF w (.returned (.tuple #[cfV noC (.slice none 0 0), .int .i64 4])) u) := fun h u hu => (HP.out _ _ _).2 (.inr (.inl ⟨hz, ref_not hz h, rfl, hu⟩))
 have HRO : Hid (∀ c t, refC (s.size : Int) (splP (nums s)) = some (c, t) → ¬ (chkC c = 0 ∧ t = []) → ∀ u, Below w.heap.size w u → CF w (.returned (.tuple #[cfV noC (.slice none 0 0), .int .i64 4])) u) := fun c t h hq u hu => (HP.out _ _ _).2 (.inr (.inl ⟨hz, ref_other hz h hq, rfl, hu⟩))
 have HRY : Hid (∀ c, refC (s.size : Int) (splP (nums s)) = some (c, []) → chkC c = 0 → ∀ vf L u, Rc u vf c L → FrP w u vf L → Below w.heap.size w u → CF w (.returned (.tuple #[cfV c vf, .int .i64 0])) u) := fun c h hc vf L u hr hf hu => (HP.out _ _ _).2 (.inr (.inr ⟨c, vf, L, hz, (ref_is hz).2 ⟨h, hc⟩, rfl, hr, hf, hu⟩))
 have HPI : Hid (∀ p ∈ splP (nums s), 2 ≤ p.length) := fun p hp => by
  have h' := hz
  unfold splC at h'
  rw [if_neg (by have := HLn.out.2.2.2; omega)] at h'
  rw [HLn.out.2.2.1] at hp
  exact ((split_pieces h').2 p hp).1
 obtain ⟨ps, hps⟩ : ∃ ps, splP (nums s) = ps := ⟨_, rfl⟩
 rw [hps] at HS HBB HLn HRN HRO HRY HPI
 have hsz : s.size ≤ 512 := by have := HLn.out.2.2.2; rw [nums_length] at this; exact this
 clear hz hps HP hs
 go_enter Tryz.func81, Tryz.ntmps81
 go_wp2_with fail
 refine HS.out.mono ?_
 rintro e W ⟨v, rfl, hx1, hb1⟩
 have HNW : Hid (No w W) := HN0.out.below hb1
 have HRW : Hid (Rts W v ps) := hx1.rts
 obtain ⟨av, cv, rfl, hnc, hcm⟩ := own_form hx1
 unfold maxLen at hcm
 have HPL : Hid (ps.length ≤ 512 ∧ ∀ p ∈ ps, p.length ≤ 512) := ⟨HLn.out.1, HLn.out.2.1⟩
 have HPC : Hid (∀ p ∈ ps, 2 ≤ p.length ∧ p.length ≤ 512 ∧ Byt p) := fun p hp => ⟨HPI.out p hp, HLn.out.2.1 p hp, HBB.out p hp⟩
 clear hx1 hb1 HS hw0 HN0 HLn
 cases ps with
 | nil =>
  simp only [List.length_nil] at *
  have HE : Hid (∀ wf, Below w.heap.size w wf → CF w (.returned (.tuple #[cfV noC (.slice none 0 0), .int .i64 4])) wf) := fun wf hBf => HRN.out (rfl) wf hBf
  go_upto_region 5 with (fail)
  refine wp_abs (fun a0 => a0.tmps.size = 241 ∧ (∀ h, a0.tmps[2]'h = .pointer (some ⟨w.heap.size, 0, none⟩)) ∧ a0.defers = []) ⟨rfl, fun _ => rfl, rfl⟩ ?_
  rintro a0 ⟨hsz0, g2, hdf⟩ ha0
  clear ha0
  refine ret_no (d := 57) HNW.out hsz0 g2 hdf (by decide) (by decide) (by decide) HE.out ?_
  intro a' wf h
  first | (rename_i hK; exact hK _ _ (wp_ret h)) | (rename_i hK hX; exact hK _ _ (wp_ret h))
 | cons p r =>
  obtain ⟨g, off, hag, c0⟩ := HRW.out.at 0 p rfl
  subst hag
  rw [Nat.add_zero] at c0
  have hbp : Byt p := HBB.out p (by simp)
  have hlp : p.length ≤ 512 := HPL.out.2 p (by simp)
  have hsz2 := str_size p
  rw [List.length_cons] at hnc HRW ⊢
  obtain ⟨n, hn⟩ : ∃ n, r.length = n := ⟨_, rfl⟩
  rw [hn] at hnc HRW ⊢
  have hn5 : n ≤ 511 := by have := HPL.out.1; rw [List.length_cons] at this; omega
  have hn0 : ((n : Int) + 1 == 0) = false := by rw [beq_eq_false_iff_ne]; omega
  have HNR : Hid (r.length = n) := hn
  have HRC : Hid (refC (s.size : Int) (p :: r) = if confB (s.size : Int) p = true then match refFaces (p.getD 4 0).toNat 0 r with | none => none | some (fs, t) => some (⟨p.getD 5 0, p.getD 6 0, p.getD 7 0, p.getD 8 0, fs⟩, t) else none) := rfl
  have HCB : Hid (¬ confB (s.size : Int) p = true → refC (s.size : Int) (p :: r) = none) := fun h => by rw [HRC.out, if_neg h]
  have hbt := get_bt (strOfNums p)
  clear hn
  by_cases h9 : p.length = 9
  case neg =>
   have e9 : (((strOfNums p).size : Int) != 9) = true := by rw [hsz2]; simpa using (show ¬ (p.length : Int) = 9 by omega)
   have HQ : Hid (refC (s.size : Int) (p :: r) = none) := HCB.out (fun h => h9 ((confB_iff _ _).1 h).1.1)
   generalize strOfNums p = tx at *
   clear h9 hsz2
   have HE : Hid (∀ wf, Below w.heap.size w wf → CF w (.returned (.tuple #[cfV noC (.slice none 0 0), .int .i64 4])) wf) := fun wf hBf => HRN.out (HQ.out) wf hBf
   go_upto_region 5 with (fail)
   refine wp_abs (fun a0 => a0.tmps.size = 241 ∧ (∀ h, a0.tmps[2]'h = .pointer (some ⟨w.heap.size, 0, none⟩)) ∧ a0.defers = []) ⟨rfl, fun _ => rfl, rfl⟩ ?_
   rintro a0 ⟨hsz0, g2, hdf⟩ ha0
   clear ha0
   refine ret_no (d := 57) HNW.out hsz0 g2 hdf (by decide) (by decide) (by decide) HE.out ?_
   intro a' wf h
   first | (rename_i hK; exact hK _ _ (wp_ret h)) | (rename_i hK hX; exact hK _ _ (wp_ret h))
  have g1 := getD_bt p hbp 1 (by omega)
  have g2 := getD_bt p hbp 2 (by omega)
  have g3 := getD_bt p hbp 3 (by omega)
  have g4 := getD_bt p hbp 4 (by omega)
  have g5 := getD_bt p hbp 5 (by omega)
  have g6 := getD_bt p hbp 6 (by omega)
  have g7 := getD_bt p hbp 7 (by omega)
  have g8 := getD_bt p hbp 8 (by omega)
  rw [h9] at hsz2
  have HW : Hid (∀ u : World, Calls Tryz.prog 78 #[.string (strOfNums p), .int .i64 2] u fun e w' => e = .returned (.int .i64 (bt (strOfNums p) 2 + 256 * bt (strOfNums p) 3)) ∧ ∃ q, w' = u.drewN q) := fun u => by
   have := wordAt_any (strOfNums p) 2 u (by omega) (by rw [hsz2]; decide)
   rw [wd_at _ 2 (by omega)] at this
   exact this
  have HCI : Hid (confB (s.size : Int) p = true ↔ bt (strOfNums p) 1 = 2 ∧ bt (strOfNums p) 2 + 256 * bt (strOfNums p) 3 = (s.size : Int) ∧ bt (strOfNums p) 4 ≤ 4) := by
   rw [g1, g2, g3, g4]
   exact ⟨fun h => by obtain ⟨⟨_, k1⟩, k2, k3⟩ := (confB_iff _ _).1 h; exact ⟨k1, k2, k3⟩, fun ⟨k1, k2, k3⟩ => (confB_iff _ _).2 ⟨⟨h9, k1⟩, k2, k3⟩⟩
  rw [← g4, ← g5, ← g6, ← g7, ← g8] at HRC
  have b4 := bt_nonneg (strOfNums p) 4
  have b4' := bt_le (strOfNums p) 4
  have hB : ∀ k, 0 ≤ bt (strOfNums p) k ∧ bt (strOfNums p) k ≤ 255 := fun k => ⟨bt_nonneg _ k, bt_le _ k⟩
  have HBT : Hid _ := hB
  have HTX : Hid (Byt p) := hbp
  clear g1 g2 g3 g4 g5 g6 g7 g8 hB h9 hbp hlp
  generalize strOfNums p = tx at *
  by_cases h1 : bt tx 1 = 2
  case neg =>
   have e1 : (bt tx 1 != 2) = true := by simpa using h1
   have HQ : Hid (refC (s.size : Int) (p :: r) = none) := HCB.out (fun h => h1 (HCI.out.1 h).1)
   clear h1
   have HE : Hid (∀ wf, Below w.heap.size w wf → CF w (.returned (.tuple #[cfV noC (.slice none 0 0), .int .i64 4])) wf) := fun wf hBf => HRN.out (HQ.out) wf hBf
   go_upto_region 5 with (fail)
   refine wp_abs (fun a0 => a0.tmps.size = 241 ∧ (∀ h, a0.tmps[2]'h = .pointer (some ⟨w.heap.size, 0, none⟩)) ∧ a0.defers = []) ⟨rfl, fun _ => rfl, rfl⟩ ?_
   rintro a0 ⟨hsz0, g2, hdf⟩ ha0
   clear ha0
   refine ret_no (d := 57) HNW.out hsz0 g2 hdf (by decide) (by decide) (by decide) HE.out ?_
   intro a' wf h
   first | (rename_i hK; exact hK _ _ (wp_ret h)) | (rename_i hK hX; exact hK _ _ (wp_ret h))
  have e1 : (bt tx 1 != 2) = false := by simpa using h1
  go_wp2_with fail
  refine (HW.out _).mono ?_
  rintro e W1 ⟨rfl, q1, hq1⟩
  have HN1 : Hid (No w W1) := by rw [hq1]; exact ⟨HNW.out.box, below_drewN HNW.out.bel _⟩
  have HR1 : Hid (Rts W1 (.slice (some ⟨g, off, none⟩) (n + 1) cv) (p :: r)) := by rw [hq1]; exact HRW.out
  have d0 : W1.cell? ⟨g, off, none⟩ = some (.string tx) := by rw [hq1]; exact c0
  clear hq1 c0 HW
  by_cases h2 : bt tx 2 + 256 * bt tx 3 = (s.size : Int)
  case neg =>
   have e2 : (bt tx 2 + 256 * bt tx 3 != (s.size : Int)) = true := by simpa using h2
   have HQ : Hid (refC (s.size : Int) (p :: r) = none) := HCB.out (fun h => h2 (HCI.out.1 h).2.1)
   clear h2
   have HE : Hid (∀ wf, Below w.heap.size w wf → CF w (.returned (.tuple #[cfV noC (.slice none 0 0), .int .i64 4])) wf) := fun wf hBf => HRN.out (HQ.out) wf hBf
   go_upto_region 5 with (fail)
   refine wp_abs (fun a0 => a0.tmps.size = 241 ∧ (∀ h, a0.tmps[2]'h = .pointer (some ⟨w.heap.size, 0, none⟩)) ∧ a0.defers = []) ⟨rfl, fun _ => rfl, rfl⟩ ?_
   rintro a0 ⟨hsz0, g2, hdf⟩ ha0
   clear ha0
   refine ret_no (d := 57) HN1.out hsz0 g2 hdf (by decide) (by decide) (by decide) HE.out ?_
   intro a' wf h
   first | (rename_i hK; exact hK _ _ (wp_ret h)) | (rename_i hK hX; exact hK _ _ (wp_ret h))
  have e2 : (bt tx 2 + 256 * bt tx 3 != (s.size : Int)) = false := by simpa using h2
  by_cases h4 : bt tx 4 ≤ 4
  case neg =>
   have HQ : Hid (refC (s.size : Int) (p :: r) = none) := HCB.out (fun h => h4 (HCI.out.1 h).2.2)
   have HE : Hid (∀ wf, Below w.heap.size w wf → CF w (.returned (.tuple #[cfV noC (.slice none 0 0), .int .i64 4])) wf) := fun wf hBf => HRN.out (HQ.out) wf hBf
   go_upto_region 5 with (fail)
   refine wp_abs (fun a0 => a0.tmps.size = 241 ∧ (∀ h, a0.tmps[2]'h = .pointer (some ⟨w.heap.size, 0, none⟩)) ∧ a0.defers = []) ⟨rfl, fun _ => rfl, rfl⟩ ?_
   rintro a0 ⟨hsz0, g2, hdf⟩ ha0
   clear ha0
   refine ret_no (d := 57) HN1.out hsz0 g2 hdf (by decide) (by decide) (by decide) HE.out ?_
   intro a' wf h
   first | (rename_i hK; exact hK _ _ (wp_ret h)) | (rename_i hK hX; exact hK _ _ (wp_ret h))
  rw [if_pos (HCI.out.2 ⟨h1, h2, h4⟩)] at HRC
  have b5 := HBT.out 5
  have b6 := HBT.out 6
  have b7 := HBT.out 7
  have b8 := HBT.out 8
  obtain ⟨a1, hsl, ha1⟩ := rest_texts g off n cv hnc
  have HA1 : Hid (0 < n → a1 = some ⟨g, off + 1, none⟩) := ha1
  have HSL : Hid (∀ W : World, (Instr.slice 27 (.slice (some ⟨g, off, none⟩) (n + 1) cv) (some (.int .i64 1)) none none).run Tryz.prog W = .ok (.slice a1 n (cv - 1)) W) := hsl
  obtain ⟨cnt, hcnt⟩ : ∃ c : Nat, bt tx 4 = (c : Int) := ⟨(bt tx 4).toNat, by omega⟩
  have HCN : Hid (bt tx 4 = (cnt : Int) ∧ cnt ≤ 4) := ⟨hcnt, by omega⟩
  rw [hcnt] at HRC
  rw [Int.toNat_natCast] at HRC
  obtain ⟨RF, hRF⟩ : ∃ RF, refFaces cnt 0 r = RF := ⟨_, rfl⟩
  rw [hRF] at HRC
  have HRF0 : Hid (refFaces cnt 0 r = RF) := hRF
  have HFN : Hid (RF = none → refC (s.size : Int) (p :: r) = none) := fun h => by rw [HRC.out, h]
  have HFS : Hid (∀ fs t, RF = some (fs, t) → refC (s.size : Int) (p :: r) = some (⟨bt tx 5, bt tx 6, bt tx 7, bt tx 8, fs⟩, t)) := fun fs t h => by rw [HRC.out, h]
  have HPR : Hid (∀ p ∈ r, 2 ≤ p.length ∧ p.length ≤ 512 ∧ Byt p) := fun q hq => HPC.out q (by simp [hq])
  have HD0 : Hid (Rts W1 (.slice (some ⟨g, off, none⟩) (n + 1) cv) (p :: r)) := HR1.out
  have x5 : ∀ W : World, (Instr.index 9 (.string tx) (.int .i64 5)).run Tryz.prog W = .ok (.int .u8 (bt tx 5)) W := run_ix tx 5 (by omega)
  have x6 : ∀ W : World, (Instr.index 9 (.string tx) (.int .i64 6)).run Tryz.prog W = .ok (.int .u8 (bt tx 6)) W := run_ix tx 6 (by omega)
  have x7 : ∀ W : World, (Instr.index 9 (.string tx) (.int .i64 7)).run Tryz.prog W = .ok (.int .u8 (bt tx 7)) W := run_ix tx 7 (by omega)
  have x8 : ∀ W : World, (Instr.index 9 (.string tx) (.int .i64 8)).run Tryz.prog W = .ok (.int .u8 (bt tx 8)) W := run_ix tx 8 (by omega)
  have m5 : IntKind.i64.wrap (bt tx 5) = bt tx 5 := by rw [IntKind.wrap_i64]; omega
  have m6 : IntKind.i64.wrap (bt tx 6) = bt tx 6 := by rw [IntKind.wrap_i64]; omega
  have m7 : IntKind.i64.wrap (bt tx 7) = bt tx 7 := by rw [IntKind.wrap_i64]; omega
  have m8 : IntKind.i64.wrap (bt tx 8) = bt tx 8 := by rw [IntKind.wrap_i64]; omega
  clear hsl hcnt h1 h2 HCI HCB HRC hRF ha1 HR1 HRW HNW HPC HPL HBB HTX HBT HPI
  go_wp2_with fail
  clear h4 b4 b4'
  refine wp_abs (fun a0 => a0.tmps.size = 241 ∧ (∀ h, a0.tmps[4]'h = .slice (some ⟨g, off, none⟩) (n + 1) cv)) ⟨rfl, fun _ => rfl⟩ ?_
  rintro a0 ⟨hsz0, g0⟩ ha0
  refine wp_region_L (St fun L => (if L.getD 22 false = true then (if L.getD 21 false = true then some (W1.alloc (cfO (bt tx 5) (bt tx 6) (bt tx 7) (bt tx 8) (.slice none 0 0))) else none) else if L.getD 21 false = true then some (W1.alloc (cfO 0 0 0 0 (.slice none 0 0))) else some W1)) (by kernel_rfl) (by kernel_rfl) ⟨W1, 1, rfl, rfl⟩ ?_
  have hst : ∀ k, k ≠ 21 → k ≠ 22 → ∀ L : Array Bool, (if (L.setIfInBounds k true).getD 22 false = true then (if (L.setIfInBounds k true).getD 21 false = true then some (W1.alloc (cfO (bt tx 5) (bt tx 6) (bt tx 7) (bt tx 8) (.slice none 0 0))) else none) else if (L.setIfInBounds k true).getD 21 false = true then some (W1.alloc (cfO 0 0 0 0 (.slice none 0 0))) else some W1) = (if L.getD 22 false = true then (if L.getD 21 false = true then some (W1.alloc (cfO (bt tx 5) (bt tx 6) (bt tx 7) (bt tx 8) (.slice none 0 0))) else none) else if L.getD 21 false = true then some (W1.alloc (cfO 0 0 0 0 (.slice none 0 0))) else some W1) := fun k h1 h2 L => by rw [getD_set_ne false h1, getD_set_ne false h2]
  have hcl : ∀ (L : Array Bool) (W : World) (n' : Nat), (if L.getD 22 false = true then (if L.getD 21 false = true then some (W1.alloc (cfO (bt tx 5) (bt tx 6) (bt tx 7) (bt tx 8) (.slice none 0 0))) else none) else if L.getD 21 false = true then some (W1.alloc (cfO 0 0 0 0 (.slice none 0 0))) else some W1) = some W → (W.drewN n').cell? ⟨g, off, none⟩ = some (.string tx) := fun L W n' hs => by
   show W.cell? _ = _
   cases h22 : L.getD 22 false <;> cases h21 : L.getD 21 false <;> rw [h22, h21] at hs
   ·have hs : some W1 = some W := hs; injection hs with hs; subst hs; exact d0
   ·have hs : some (W1.alloc (cfO 0 0 0 0 (.slice none 0 0))) = some W := hs; injection hs with hs; subst hs; exact kc (balloc _ _) d0
   ·have hs : (none : Option World) = some W := hs; cases hs
   ·have hs : some (W1.alloc (cfO (bt tx 5) (bt tx 6) (bt tx 7) (bt tx 8) (.slice none 0 0))) = some W := hs; injection hs with hs; subst hs; exact kc (balloc _ _) d0
  refine lex_plain (.slice (some ⟨g, off, none⟩) (n + 1) cv) (fun L => by simp only [hst 0 (by decide) (by decide)]) rfl (fun W => by simp [execOp, go_sem, hsz0, g0]) ?_
  refine lex_plain (.pointer (some ⟨g, off, none⟩)) (fun L => by simp only [hst 1 (by decide) (by decide)]) rfl (fun W => by simp [execOp, go_sem, hsz0, g0]) ?_
  refine lex_read (.string tx) (fun L => by simp only [hst 2 (by decide) (by decide)]) rfl (fun L W n' hs => by have hc := hcl L W n' hs; simp [execOp, go_sem, hsz0, hc]) ?_
  refine lex_plain (.int .u8 (bt tx 5)) (fun L => by simp only [hst 3 (by decide) (by decide)]) rfl (fun W => by simp [execOp, go_sem, hsz0, g0, x5]) ?_
  refine lex_plain (.int .i64 (bt tx 5)) (fun L => by simp only [hst 4 (by decide) (by decide)]) rfl (fun W => by simp [execOp, go_sem, hsz0, g0, m5]) ?_
  refine lex_plain (.slice (some ⟨g, off, none⟩) (n + 1) cv) (fun L => by simp only [hst 5 (by decide) (by decide)]) rfl (fun W => by simp [execOp, go_sem, hsz0, g0]) ?_
  refine lex_plain (.pointer (some ⟨g, off, none⟩)) (fun L => by simp only [hst 6 (by decide) (by decide)]) rfl (fun W => by simp [execOp, go_sem, hsz0, g0]) ?_
  refine lex_read (.string tx) (fun L => by simp only [hst 7 (by decide) (by decide)]) rfl (fun L W n' hs => by have hc := hcl L W n' hs; simp [execOp, go_sem, hsz0, hc]) ?_
  refine lex_plain (.int .u8 (bt tx 6)) (fun L => by simp only [hst 8 (by decide) (by decide)]) rfl (fun W => by simp [execOp, go_sem, hsz0, g0, x6]) ?_
  refine lex_plain (.int .i64 (bt tx 6)) (fun L => by simp only [hst 9 (by decide) (by decide)]) rfl (fun W => by simp [execOp, go_sem, hsz0, g0, m6]) ?_
  refine lex_plain (.slice (some ⟨g, off, none⟩) (n + 1) cv) (fun L => by simp only [hst 10 (by decide) (by decide)]) rfl (fun W => by simp [execOp, go_sem, hsz0, g0]) ?_
  refine lex_plain (.pointer (some ⟨g, off, none⟩)) (fun L => by simp only [hst 11 (by decide) (by decide)]) rfl (fun W => by simp [execOp, go_sem, hsz0, g0]) ?_
  refine lex_read (.string tx) (fun L => by simp only [hst 12 (by decide) (by decide)]) rfl (fun L W n' hs => by have hc := hcl L W n' hs; simp [execOp, go_sem, hsz0, hc]) ?_
  refine lex_plain (.int .u8 (bt tx 7)) (fun L => by simp only [hst 13 (by decide) (by decide)]) rfl (fun W => by simp [execOp, go_sem, hsz0, g0, x7]) ?_
  refine lex_plain (.int .i64 (bt tx 7)) (fun L => by simp only [hst 14 (by decide) (by decide)]) rfl (fun W => by simp [execOp, go_sem, hsz0, g0, m7]) ?_
  refine lex_plain (.slice (some ⟨g, off, none⟩) (n + 1) cv) (fun L => by simp only [hst 15 (by decide) (by decide)]) rfl (fun W => by simp [execOp, go_sem, hsz0, g0]) ?_
  refine lex_plain (.pointer (some ⟨g, off, none⟩)) (fun L => by simp only [hst 16 (by decide) (by decide)]) rfl (fun W => by simp [execOp, go_sem, hsz0, g0]) ?_
  refine lex_read (.string tx) (fun L => by simp only [hst 17 (by decide) (by decide)]) rfl (fun L W n' hs => by have hc := hcl L W n' hs; simp [execOp, go_sem, hsz0, hc]) ?_
  refine lex_plain (.int .u8 (bt tx 8)) (fun L => by simp only [hst 18 (by decide) (by decide)]) rfl (fun W => by simp [execOp, go_sem, hsz0, g0, x8]) ?_
  refine lex_plain (.int .i64 (bt tx 8)) (fun L => by simp only [hst 19 (by decide) (by decide)]) rfl (fun W => by simp [execOp, go_sem, hsz0, g0, m8]) ?_
  refine lex_plain (.agg #[.int .i64 (bt tx 5), .int .i64 (bt tx 6), .int .i64 (bt tx 7), .int .i64 (bt tx 8), .slice none 0 0]) (fun L => by simp only [hst 20 (by decide) (by decide)]) rfl (fun W => by simp [execOp, go_sem, hsz0, g0]) ?_
  refine lex_turn (.pointer (some ⟨W1.heap.size, 0, none⟩)) rfl (fun L W n' hr hs => ?_) ?_
  ·obtain ⟨h37, hz37⟩ := rdy_at hr
   have h37' : (L.setIfInBounds 21 true).getD 21 false = true := set_same hz37
   have h38' : (L.setIfInBounds 21 true).getD 22 false = L.getD 22 false := getD_set_ne false (by decide)
   have h37 : L.getD 21 false = false := h37
   cases h38 : L.getD 22 false
   ·simp only [h38, h37] at hs
    have hs : some W1 = some W := hs
    injection hs with hs
    subst hs
    refine ⟨W1.alloc (cfO 0 0 0 0 (.slice none 0 0)), ?_, .inl ?_⟩
    ·show (if (L.setIfInBounds 21 true).getD 22 false = true then _ else if (L.setIfInBounds 21 true).getD 21 false = true then _ else _) = _
     rw [h38', h38, h37']
     rfl
    ·simp [execOp, go_sem, hsz0, g0]
     rfl
   ·simp only [h38, h37] at hs
    have hs : (none : Option World) = some W := hs
    cases hs
  refine lex_turn undef rfl (fun L W n' hr hs => ?_) ?_
  ·obtain ⟨h38, hz38⟩ := rdy_at hr
   have h37 : L.getD 21 false = true := rdy_after hr (by kernel_rfl)
   have h38 : L.getD 22 false = false := h38
   have h38' : (L.setIfInBounds 22 true).getD 22 false = true := set_same hz38
   have h37' : (L.setIfInBounds 22 true).getD 21 false = L.getD 21 false := getD_set_ne false (by decide)
   simp only [h38, h37] at hs
   have hs : some (W1.alloc (cfO 0 0 0 0 (.slice none 0 0))) = some W := hs
   injection hs with hs
   subst hs
   refine ⟨W1.alloc (cfO (bt tx 5) (bt tx 6) (bt tx 7) (bt tx 8) (.slice none 0 0)), ?_, .inr ⟨?_, rfl⟩⟩
   ·show (if (L.setIfInBounds 22 true).getD 22 false = true then (if (L.setIfInBounds 22 true).getD 21 false = true then _ else _) else _) = _
    rw [h38', h37', h37]
    rfl
   ·simp [execOp, go_sem, hsz0, g0]
    simp only [set_drewN]
    simp [go_sem]
  intro w' hw'
  subst ha0
  clear hsz0 g0
  obtain ⟨W, n', hs, rfl⟩ := hw'
  have hs2 : some (W1.alloc (cfO (bt tx 5) (bt tx 6) (bt tx 7) (bt tx 8) (.slice none 0 0))) = some W := hs
  injection hs2 with hs2
  subst hs2
  obtain ⟨w3, hw3⟩ : ∃ w3, (W1.alloc (cfO (bt tx 5) (bt tx 6) (bt tx 7) (bt tx 8) (.slice none 0 0))).drewN n' = w3 := ⟨_, rfl⟩
  have hb3 : Below W1.heap.size W1 w3 := by rw [← hw3]; exact below_drewN (balloc _ _) _
  have HF3 : Hid (Bf W1 w3 W1.heap.size (bt tx 5) (bt tx 6) (bt tx 7) (bt tx 8) (.slice none 0 0) []) :=
   ⟨by rw [← hw3]; exact (MapKept.heap_alloc W1 _).1, Nat.le_refl _, ⟨rfl, .inl ⟨rfl, rfl⟩⟩, fun q hq => by simp at hq, fun q hq => by simp at hq, fun q hq => by simp at hq, hb3⟩
  have HRt : Hid (Rts W1 (.slice a1 n (cv - 1)) r) := HD0.out.tail HA1.out
  have d3 := kc hb3 d0
  have hsl := HSL.out
  have hcnt := HCN.out.1
  have hc4 := HCN.out.2
  rw [hw3]
  clear hs hst hcl hb3 hw3 d0 HD0 HA1 x5 x6 x7 x8 m5 m6 m7 m8
  go_simp
  go_wp2
  clear hsl hbt d3 b5 b6 b7 b8 hn0 e1 e2
  generalize bt tx 5 = va at *
  generalize bt tx 6 = na at *
  generalize bt tx 7 = atr at *
  generalize bt tx 8 = po at *
  go_loopw [4, 87] (fun lv iv wr => ∃ (i : Nat) (ls : List (List Int)) (vb : Value) (L' : FL), i ≤ cnt ∧ iv = .int .i64 (i : Int) ∧ Rts W1 lv ls ∧ ls.length ≤ 511 ∧ Hid (∀ p ∈ ls, 2 ≤ p.length ∧ p.length ≤ 512 ∧ Byt p) ∧ Bf W1 wr W1.heap.size va na atr po vb L' ∧ L'.length = i ∧ Hid (preF (L'.map Prod.fst) (refFaces (cnt - i) (i : Int) ls) = RF)) (fun _ iv _ => cnt - (intOf iv).toNat)
  case atStart =>
   refine ⟨0, r, _, [], Nat.zero_le _, rfl, HRt.out, by have := HNR.out; omega, HPR, HF3.out, rfl, ?_⟩
   show _ = _
   rw [← HRF0.out]
   show preF [] (refFaces (cnt - 0) 0 r) = _
   rw [Nat.sub_zero]
   cases refFaces cnt 0 r with
   | none => rfl
   | some q => rfl
  case round =>
   obtain ⟨i, ls, vb, L', hi, rfl, hRl, hls, HPS, hBf, hLi, HRF⟩ := hrel
   obtain ⟨wo, rfl⟩ : ∃ wo, wo = wr := ⟨_, rfl⟩
   have HBf : Hid (Bf W1 wo W1.heap.size va na atr po vb L') := hBf
   have HLI : Hid (L'.length = i) := hLi
   have HNo : Hid (No w wo) := HN1.out.below hBf.bel
   have HRl : Hid (Rts W1 u4 ls) := hRl
   obtain ⟨al, cl, hvl, hlc, hclm, _⟩ := hRl.cell
   subst hvl
   unfold maxLen at hclm
   clear hBf hLi hRl
   by_cases hlt : ¬ i < cnt
   ·have HRS : Hid (RF = some (L'.map Prod.fst, ls)) := by
     show _ = _
     rw [← HRF.out, show cnt - i = 0 by omega, refFaces]
     simp [preF]
    have HC : Hid (refC (s.size : Int) (p :: r) = some (⟨va, na, atr, po, L'.map Prod.fst⟩, ls)) := HFS.out _ _ HRS.out
    obtain ⟨ab, cb, hvb, _, _⟩ := own_form HBf.out.row
    subst hvb
    have HCT : Hid (Calls Tryz.prog 33 #[cfV ⟨va, na, atr, po, L'.map Prod.fst⟩ (.slice ab L'.length cb)] wo fun e w' => e = .returned (.tuple #[.string (wcT ⟨va, na, atr, po, L'.map Prod.fst⟩), .int .i64 (chkC ⟨va, na, atr, po, L'.map Prod.fst⟩)]) ∧ Below wo.heap.size wo w') := configText_any _ _ L' wo HBf.out.rc
    obtain ⟨z, hz⟩ : ∃ z, chkC ⟨va, na, atr, po, L'.map Prod.fst⟩ = z := ⟨_, rfl⟩
    have HZC : Hid (chkC ⟨va, na, atr, po, L'.map Prod.fst⟩ = z) := hz
    rw [hz] at HCT
    generalize wcT ⟨va, na, atr, po, L'.map Prod.fst⟩ = T at *
    obtain ⟨⟨hzX, x0, x1, x2, x3, x4⟩, _⟩ := box5f HBf.out.box
    obtain ⟨nl, hnl⟩ : ∃ m, ls.length = m := ⟨_, rfl⟩
    have HNL : Hid (ls.length = nl) := hnl
    rw [hnl] at hlc hls ⊢
    rw [HLI.out] at HCT x4
    clear hz hnl
    go_wp2_with fail
    refine HCT.out.mono ?_
    rintro e w5 ⟨rfl, hb5⟩
    have hN5 := HNo.out.below hb5
    have HB5 := HBf.out.below hb5
    rw [HLI.out] at HB5
    have HB6 : Hid (Bf W1 w5 W1.heap.size va na atr po (.slice ab i cb) L') := HB5
    have HN5 : Hid (No w w5) := hN5
    clear x0 x1 x2 x3 x4 hzX hb5 hN5 HB5
    by_cases hz : z = 0 ∧ nl = 0
    ·obtain ⟨rfl, rfl⟩ := hz
     have hls0 : ls = [] := List.eq_nil_of_length_eq_zero HNL.out
     subst hls0
     obtain ⟨⟨hzX, x0, x1, x2, x3, x4⟩, _⟩ := box5f HB6.out.box
     obtain ⟨⟨hzR, z0, z1, z2, z3, z4⟩, f0, f1, f2, f3, f4⟩ := box5f HN5.out.box
     obtain ⟨wf, hwf, hRf, hBF⟩ := ch5b w5 w.heap.size _ _ _ _ _ va na atr po (.slice ab i cb) HN5.out.box
     have hXR : W1.heap.size ≠ w.heap.size := by have := (Array.getElem?_eq_some_iff.1 HN1.out.box).1; omega
     have hfin := hBF w W1.heap.size va na atr po _ L' (Nat.le_refl _) hXR (HB6.out.base HN1.out.bel)
     have HE : Hid (CF w (.returned (.tuple #[cfV ⟨va, na, atr, po, L'.map Prod.fst⟩ (.slice ab i cb), .int .i64 0])) wf) := HRY.out _ HC.out HZC.out _ L' wf hfin.rc ⟨hfin.row, hfin.tx, hfin.en⟩ hfin.bel
     obtain ⟨⟨hzf, r0, r1, r2, r3, r4⟩, _⟩ := box5f hRf
     clear hfin hBF hRf hXR
     go_wp2
     try rw [hwf]
     exact bodyPost_ret (v := .tuple #[cfV ⟨va, na, atr, po, L'.map Prod.fst⟩ (.slice ab i cb), .int .i64 0]) (by simp [results, Tryz.results81, go_sem, hzf, r0, r1, r2, r3, r4]) rfl HE.out
    ·have HE : Hid (∀ wf, Below w.heap.size w wf → CF w (.returned (.tuple #[cfV noC (.slice none 0 0), .int .i64 4])) wf) := fun wf hBf2 => HRO.out _ _ HC.out (fun q => hz ⟨by rw [← HZC.out]; exact q.1, by have := HNL.out; rw [q.2] at this; simpa using this.symm⟩) wf hBf2
     by_cases hz0 : z = 0
     ·subst hz0
      have hnl0 : 0 < nl := by omega
      clear hz
      go_upto_region 30 with (fail)
      refine wp_abs (fun a0 => a0.tmps.size = 241 ∧ (∀ h, a0.tmps[2]'h = .pointer (some ⟨w.heap.size, 0, none⟩)) ∧ a0.defers = []) ⟨rfl, fun _ => rfl, rfl⟩ ?_
      rintro a0 ⟨hsz0, g2, hdf⟩ ha0
      clear ha0
      refine ret_no (d := 239) HN5.out hsz0 g2 hdf (by decide) (by decide) (by decide) HE.out ?_
      intro a' wf h
      first | (rename_i hK; exact hK _ _ (wp_ret h)) | (rename_i hK hX; exact hK _ _ (wp_ret h))
     ·have hzn : (z != 0) = true := by simpa using hz0
      clear hz hz0
      go_upto_region 30 with (fail)
      refine wp_abs (fun a0 => a0.tmps.size = 241 ∧ (∀ h, a0.tmps[2]'h = .pointer (some ⟨w.heap.size, 0, none⟩)) ∧ a0.defers = []) ⟨rfl, fun _ => rfl, rfl⟩ ?_
      rintro a0 ⟨hsz0, g2, hdf⟩ ha0
      clear ha0
      refine ret_no (d := 239) HN5.out hsz0 g2 hdf (by decide) (by decide) (by decide) HE.out ?_
      intro a' wf h
      first | (rename_i hK; exact hK _ _ (wp_ret h)) | (rename_i hK hX; exact hK _ _ (wp_ret h))
   ·have hlt : i < cnt := Decidable.not_not.1 hlt
    obtain ⟨k, hk⟩ : ∃ k, cnt - i = k + 1 := ⟨cnt - i - 1, by omega⟩
    rw [hk] at HRF
    cases ls with
    | nil =>
     have HQ : Hid (RF = none) := by show _ = _; rw [← HRF.out]; exact preF_none rfl
     simp only [List.length_nil] at *
     have HE : Hid (∀ wf, Below w.heap.size w wf → CF w (.returned (.tuple #[cfV noC (.slice none 0 0), .int .i64 4])) wf) := fun wf hBf => HRN.out (HFN.out (HQ.out)) wf hBf
     go_upto_region 13 with (fail)
     refine wp_abs (fun a0 => a0.tmps.size = 241 ∧ (∀ h, a0.tmps[2]'h = .pointer (some ⟨w.heap.size, 0, none⟩)) ∧ a0.defers = []) ⟨rfl, fun _ => rfl, rfl⟩ ?_
     rintro a0 ⟨hsz0, g2, hdf⟩ ha0
     clear ha0
     refine ret_no (d := 123) HNo.out hsz0 g2 hdf (by decide) (by decide) (by decide) HE.out ?_
     intro a' wf h
     first | (rename_i hK; exact hK _ _ (wp_ret h)) | (rename_i hK hX; exact hK _ _ (wp_ret h))
    | cons h r2 =>
     obtain ⟨g2, off2, hag, c00⟩ := HRl.out.at 0 h rfl
     subst hag
     rw [Nat.add_zero] at c00
     have c0 := kc HBf.out.bel c00
     clear c00
     obtain ⟨hh2, hh5, hhb⟩ := HPS.out h (by simp)
     have hsz2 := str_size h
     rw [List.length_cons] at hlc hls HRl ⊢
     obtain ⟨n2, hn2⟩ : ∃ n, r2.length = n := ⟨_, rfl⟩
     rw [hn2] at hlc hls HRl ⊢
     have HN2 : Hid (r2.length = n2) := hn2
     have hn0 : ((n2 : Int) + 1 == 0) = false := by rw [beq_eq_false_iff_ne]; omega
     have hbt := get_bt (strOfNums h)
     clear hn2
     by_cases h9 : h.length = 9
     case neg =>
      have e9 : (((strOfNums h).size : Int) != 9) = true := by rw [hsz2]; simpa using (show ¬ (h.length : Int) = 9 by omega)
      have HQ : Hid (RF = none) := by show _ = _; rw [← HRF.out]; exact preF_none (refFace_no (by cases hb : faceB (i : Int) h; rfl; exact absurd ((faceB_iff _ _).1 hb).1.1 h9))
      generalize strOfNums h = ty at *
      clear h9 hsz2
      have HE : Hid (∀ wf, Below w.heap.size w wf → CF w (.returned (.tuple #[cfV noC (.slice none 0 0), .int .i64 4])) wf) := fun wf hBf => HRN.out (HFN.out (HQ.out)) wf hBf
      go_upto_region 13 with (fail)
      refine wp_abs (fun a0 => a0.tmps.size = 241 ∧ (∀ h, a0.tmps[2]'h = .pointer (some ⟨w.heap.size, 0, none⟩)) ∧ a0.defers = []) ⟨rfl, fun _ => rfl, rfl⟩ ?_
      rintro a0 ⟨hsz0, g2, hdf⟩ ha0
      clear ha0
      refine ret_no (d := 123) HNo.out hsz0 g2 hdf (by decide) (by decide) (by decide) HE.out ?_
      intro a' wf h
      first | (rename_i hK; exact hK _ _ (wp_ret h)) | (rename_i hK hX; exact hK _ _ (wp_ret h))
     have k1 := getD_bt h hhb 1 (by omega)
     have k2 := getD_bt h hhb 2 (by omega)
     have k3 := getD_bt h hhb 3 (by omega)
     have k4 := getD_bt h hhb 4 (by omega)
     have k5 := getD_bt h hhb 5 (by omega)
     have k6 := getD_bt h hhb 6 (by omega)
     have k7 := getD_bt h hhb 7 (by omega)
     have k8 := getD_bt h hhb 8 (by omega)
     have HFI : Hid (faceB (i : Int) h = true ↔ bt (strOfNums h) 1 = 4 ∧ bt (strOfNums h) 2 = (i : Int) ∧ bt (strOfNums h) 3 = 0) := by
      rw [k1, k2, k3]
      exact ⟨fun q => by obtain ⟨⟨_, q1⟩, q2, q3⟩ := (faceB_iff _ _).1 q; exact ⟨q1, q2, q3⟩, fun ⟨q1, q2, q3⟩ => (faceB_iff _ _).2 ⟨⟨h9, q1⟩, q2, q3⟩⟩
     have HFB : Hid (¬ faceB (i : Int) h = true → RF = none) := fun q => by
      rw [← HRF.out]
      exact preF_none (refFace_no (by cases hb : faceB (i : Int) h; rfl; exact absurd hb q))
     have HFY : Hid (∀ es t, faceB (i : Int) h = true → refEnds (bt (strOfNums h) 4).toNat (refEx r2).2 = some (es, t) → refFace (i : Int) (h :: r2) = some (⟨bt (strOfNums h) 5, bt (strOfNums h) 6, bt (strOfNums h) 7, bt (strOfNums h) 8, (refEx r2).1, es⟩, t)) := fun es t q1 q2 => by
      rw [k4] at q2
      rw [k5, k6, k7, k8]
      exact refFace_is q1 q2
     have HFZ : Hid (faceB (i : Int) h = true → refEnds (bt (strOfNums h) 4).toNat (refEx r2).2 = none → RF = none) := fun q1 q2 => by
      rw [k4] at q2
      rw [← HRF.out]
      exact preF_none (refFace_ends q1 q2)
     have hB4 := bt_nonneg (strOfNums h) 4
     have hB4' := bt_le (strOfNums h) 4
     have hB5 := bt_nonneg (strOfNums h) 5
     have hB5' := bt_le (strOfNums h) 5
     have hB6 := bt_nonneg (strOfNums h) 6
     have hB6' := bt_le (strOfNums h) 6
     have hB7 := bt_nonneg (strOfNums h) 7
     have hB7' := bt_le (strOfNums h) 7
     have hB8 := bt_nonneg (strOfNums h) 8
     have hB8' := bt_le (strOfNums h) 8
     have hB2 := bt_nonneg (strOfNums h) 2
     have hB2' := bt_le (strOfNums h) 2
     rw [h9] at hsz2
     clear k1 k2 k3 k4 k5 k6 k7 k8 h9 hhb hh2 hh5
     generalize strOfNums h = ty at *
     by_cases h1 : bt ty 1 = 4
     case neg =>
      have e1 : (bt ty 1 != 4) = true := by simpa using h1
      have HQ : Hid (RF = none) := HFB.out (fun q => h1 (HFI.out.1 q).1)
      clear h1
      have HE : Hid (∀ wf, Below w.heap.size w wf → CF w (.returned (.tuple #[cfV noC (.slice none 0 0), .int .i64 4])) wf) := fun wf hBf => HRN.out (HFN.out (HQ.out)) wf hBf
      go_upto_region 13 with (fail)
      refine wp_abs (fun a0 => a0.tmps.size = 241 ∧ (∀ h, a0.tmps[2]'h = .pointer (some ⟨w.heap.size, 0, none⟩)) ∧ a0.defers = []) ⟨rfl, fun _ => rfl, rfl⟩ ?_
      rintro a0 ⟨hsz0, g2, hdf⟩ ha0
      clear ha0
      refine ret_no (d := 123) HNo.out hsz0 g2 hdf (by decide) (by decide) (by decide) HE.out ?_
      intro a' wf h
      first | (rename_i hK; exact hK _ _ (wp_ret h)) | (rename_i hK hX; exact hK _ _ (wp_ret h))
     have e1 : (bt ty 1 != 4) = false := by simpa using h1
     by_cases h2 : bt ty 2 = (i : Int)
     case neg =>
      have e2 : (bt ty 2 != (i : Int)) = true := by simpa using h2
      have HQ : Hid (RF = none) := HFB.out (fun q => h2 (HFI.out.1 q).2.1)
      clear h1 h2
      have HE : Hid (∀ wf, Below w.heap.size w wf → CF w (.returned (.tuple #[cfV noC (.slice none 0 0), .int .i64 4])) wf) := fun wf hBf => HRN.out (HFN.out (HQ.out)) wf hBf
      go_upto_region 13 with (fail)
      refine wp_abs (fun a0 => a0.tmps.size = 241 ∧ (∀ h, a0.tmps[2]'h = .pointer (some ⟨w.heap.size, 0, none⟩)) ∧ a0.defers = []) ⟨rfl, fun _ => rfl, rfl⟩ ?_
      rintro a0 ⟨hsz0, g2, hdf⟩ ha0
      clear ha0
      refine ret_no (d := 123) HNo.out hsz0 g2 hdf (by decide) (by decide) (by decide) HE.out ?_
      intro a' wf h
      first | (rename_i hK; exact hK _ _ (wp_ret h)) | (rename_i hK hX; exact hK _ _ (wp_ret h))
     have e2 : (bt ty 2 != (i : Int)) = false := by simpa using h2
     by_cases h3 : bt ty 3 = 0
     case neg =>
      have e3 : (bt ty 3 != 0) = true := by simpa using h3
      have HQ : Hid (RF = none) := HFB.out (fun q => h3 (HFI.out.1 q).2.2)
      clear h1 h2 h3
      have HE : Hid (∀ wf, Below w.heap.size w wf → CF w (.returned (.tuple #[cfV noC (.slice none 0 0), .int .i64 4])) wf) := fun wf hBf => HRN.out (HFN.out (HQ.out)) wf hBf
      go_upto_region 13 with (fail)
      refine wp_abs (fun a0 => a0.tmps.size = 241 ∧ (∀ h, a0.tmps[2]'h = .pointer (some ⟨w.heap.size, 0, none⟩)) ∧ a0.defers = []) ⟨rfl, fun _ => rfl, rfl⟩ ?_
      rintro a0 ⟨hsz0, g2, hdf⟩ ha0
      clear ha0
      refine ret_no (d := 123) HNo.out hsz0 g2 hdf (by decide) (by decide) (by decide) HE.out ?_
      intro a' wf h
      first | (rename_i hK; exact hK _ _ (wp_ret h)) | (rename_i hK hX; exact hK _ _ (wp_ret h))
     have e3 : (bt ty 3 != 0) = false := by simpa using h3
     have HFT : Hid (faceB (i : Int) h = true) := HFI.out.2 ⟨h1, h2, h3⟩
     obtain ⟨cE, hcE⟩ : ∃ c : Nat, bt ty 4 = (c : Int) := ⟨(bt ty 4).toNat, by omega⟩
     have HCE : Hid (bt ty 4 = (cE : Int) ∧ cE ≤ 255) := ⟨hcE, by omega⟩
     rw [hcE, Int.toNat_natCast] at HFY HFZ
     clear hcE
     obtain ⟨a2, hsl, ha2⟩ := rest_texts g2 off2 n2 cl hlc
     have HA2 : Hid (0 < n2 → a2 = some ⟨g2, off2 + 1, none⟩) := ha2
     have HSL : Hid (∀ W : World, (Instr.slice 27 (.slice (some ⟨g2, off2, none⟩) (n2 + 1) cl) (some (.int .i64 1)) none none).run Tryz.prog W = .ok (.slice a2 n2 (cl - 1)) W) := hsl
     have x5 : ∀ W : World, (Instr.index 9 (.string ty) (.int .i64 5)).run Tryz.prog W = .ok (.int .u8 (bt ty 5)) W := run_ix ty 5 (by omega)
     have x6 : ∀ W : World, (Instr.index 9 (.string ty) (.int .i64 6)).run Tryz.prog W = .ok (.int .u8 (bt ty 6)) W := run_ix ty 6 (by omega)
     have x7 : ∀ W : World, (Instr.index 9 (.string ty) (.int .i64 7)).run Tryz.prog W = .ok (.int .u8 (bt ty 7)) W := run_ix ty 7 (by omega)
     have x8 : ∀ W : World, (Instr.index 9 (.string ty) (.int .i64 8)).run Tryz.prog W = .ok (.int .u8 (bt ty 8)) W := run_ix ty 8 (by omega)
     have m5 : IntKind.i64.wrap (bt ty 5) = bt ty 5 := by rw [IntKind.wrap_i64]; omega
     have m6 : IntKind.i64.wrap (bt ty 6) = bt ty 6 := by rw [IntKind.wrap_i64]; omega
     have m7 : IntKind.i64.wrap (bt ty 7) = bt ty 7 := by rw [IntKind.wrap_i64]; omega
     have m8 : IntKind.i64.wrap (bt ty 8) = bt ty 8 := by rw [IntKind.wrap_i64]; omega
     clear h1 h2 h3 HFI HFB hsl ha2
     go_wp2_with fail
     refine wp_abs (fun a0 => a0.tmps.size = 241 ∧ (∀ h, a0.tmps[4]'h = .slice (some ⟨g2, off2, none⟩) (n2 + 1) cl)) ⟨rfl, fun _ => rfl⟩ ?_
     rintro a0 ⟨hsz0, g0⟩ ha0
     refine wp_region_L (St fun L => (if L.getD 22 false = true then (if L.getD 21 false = true then some (wo.alloc (fbO ⟨bt ty 5, bt ty 6, bt ty 7, bt ty 8, [], []⟩ (.slice none 0 0) (.slice none 0 0))) else none) else if L.getD 21 false = true then some (wo.alloc (fbO ⟨0, 0, 0, 0, [], []⟩ (.slice none 0 0) (.slice none 0 0))) else some wo)) (by kernel_rfl) (by kernel_rfl) ⟨wo, 1, rfl, rfl⟩ ?_
     have hst : ∀ k, k ≠ 21 → k ≠ 22 → ∀ L : Array Bool, (if (L.setIfInBounds k true).getD 22 false = true then (if (L.setIfInBounds k true).getD 21 false = true then some (wo.alloc (fbO ⟨bt ty 5, bt ty 6, bt ty 7, bt ty 8, [], []⟩ (.slice none 0 0) (.slice none 0 0))) else none) else if (L.setIfInBounds k true).getD 21 false = true then some (wo.alloc (fbO ⟨0, 0, 0, 0, [], []⟩ (.slice none 0 0) (.slice none 0 0))) else some wo) = (if L.getD 22 false = true then (if L.getD 21 false = true then some (wo.alloc (fbO ⟨bt ty 5, bt ty 6, bt ty 7, bt ty 8, [], []⟩ (.slice none 0 0) (.slice none 0 0))) else none) else if L.getD 21 false = true then some (wo.alloc (fbO ⟨0, 0, 0, 0, [], []⟩ (.slice none 0 0) (.slice none 0 0))) else some wo) := fun k h1 h2 L => by rw [getD_set_ne false h1, getD_set_ne false h2]
     have hcl : ∀ (L : Array Bool) (W : World) (n' : Nat), (if L.getD 22 false = true then (if L.getD 21 false = true then some (wo.alloc (fbO ⟨bt ty 5, bt ty 6, bt ty 7, bt ty 8, [], []⟩ (.slice none 0 0) (.slice none 0 0))) else none) else if L.getD 21 false = true then some (wo.alloc (fbO ⟨0, 0, 0, 0, [], []⟩ (.slice none 0 0) (.slice none 0 0))) else some wo) = some W → (W.drewN n').cell? ⟨g2, off2, none⟩ = some (.string ty) := fun L W n' hs => by
      show W.cell? _ = _
      cases h22 : L.getD 22 false <;> cases h21 : L.getD 21 false <;> rw [h22, h21] at hs
      ·have hs : some wo = some W := hs; injection hs with hs; subst hs; exact c0
      ·have hs : some (wo.alloc (fbO ⟨0, 0, 0, 0, [], []⟩ (.slice none 0 0) (.slice none 0 0))) = some W := hs; injection hs with hs; subst hs; exact kc (balloc _ _) c0
      ·have hs : (none : Option World) = some W := hs; cases hs
      ·have hs : some (wo.alloc (fbO ⟨bt ty 5, bt ty 6, bt ty 7, bt ty 8, [], []⟩ (.slice none 0 0) (.slice none 0 0))) = some W := hs; injection hs with hs; subst hs; exact kc (balloc _ _) c0
     refine lex_plain (.slice (some ⟨g2, off2, none⟩) (n2 + 1) cl) (fun L => by simp only [hst 0 (by decide) (by decide)]) rfl (fun W => by simp [execOp, go_sem, hsz0, g0]) ?_
     refine lex_plain (.pointer (some ⟨g2, off2, none⟩)) (fun L => by simp only [hst 1 (by decide) (by decide)]) rfl (fun W => by simp [execOp, go_sem, hsz0, g0]) ?_
     refine lex_read (.string ty) (fun L => by simp only [hst 2 (by decide) (by decide)]) rfl (fun L W n' hs => by have hc := hcl L W n' hs; simp [execOp, go_sem, hsz0, hc]) ?_
     refine lex_plain (.int .u8 (bt ty 5)) (fun L => by simp only [hst 3 (by decide) (by decide)]) rfl (fun W => by simp [execOp, go_sem, hsz0, g0, x5]) ?_
     refine lex_plain (.int .i64 (bt ty 5)) (fun L => by simp only [hst 4 (by decide) (by decide)]) rfl (fun W => by simp [execOp, go_sem, hsz0, g0, m5]) ?_
     refine lex_plain (.slice (some ⟨g2, off2, none⟩) (n2 + 1) cl) (fun L => by simp only [hst 5 (by decide) (by decide)]) rfl (fun W => by simp [execOp, go_sem, hsz0, g0]) ?_
     refine lex_plain (.pointer (some ⟨g2, off2, none⟩)) (fun L => by simp only [hst 6 (by decide) (by decide)]) rfl (fun W => by simp [execOp, go_sem, hsz0, g0]) ?_
     refine lex_read (.string ty) (fun L => by simp only [hst 7 (by decide) (by decide)]) rfl (fun L W n' hs => by have hc := hcl L W n' hs; simp [execOp, go_sem, hsz0, hc]) ?_
     refine lex_plain (.int .u8 (bt ty 6)) (fun L => by simp only [hst 8 (by decide) (by decide)]) rfl (fun W => by simp [execOp, go_sem, hsz0, g0, x6]) ?_
     refine lex_plain (.int .i64 (bt ty 6)) (fun L => by simp only [hst 9 (by decide) (by decide)]) rfl (fun W => by simp [execOp, go_sem, hsz0, g0, m6]) ?_
     refine lex_plain (.slice (some ⟨g2, off2, none⟩) (n2 + 1) cl) (fun L => by simp only [hst 10 (by decide) (by decide)]) rfl (fun W => by simp [execOp, go_sem, hsz0, g0]) ?_
     refine lex_plain (.pointer (some ⟨g2, off2, none⟩)) (fun L => by simp only [hst 11 (by decide) (by decide)]) rfl (fun W => by simp [execOp, go_sem, hsz0, g0]) ?_
     refine lex_read (.string ty) (fun L => by simp only [hst 12 (by decide) (by decide)]) rfl (fun L W n' hs => by have hc := hcl L W n' hs; simp [execOp, go_sem, hsz0, hc]) ?_
     refine lex_plain (.int .u8 (bt ty 7)) (fun L => by simp only [hst 13 (by decide) (by decide)]) rfl (fun W => by simp [execOp, go_sem, hsz0, g0, x7]) ?_
     refine lex_plain (.int .i64 (bt ty 7)) (fun L => by simp only [hst 14 (by decide) (by decide)]) rfl (fun W => by simp [execOp, go_sem, hsz0, g0, m7]) ?_
     refine lex_plain (.slice (some ⟨g2, off2, none⟩) (n2 + 1) cl) (fun L => by simp only [hst 15 (by decide) (by decide)]) rfl (fun W => by simp [execOp, go_sem, hsz0, g0]) ?_
     refine lex_plain (.pointer (some ⟨g2, off2, none⟩)) (fun L => by simp only [hst 16 (by decide) (by decide)]) rfl (fun W => by simp [execOp, go_sem, hsz0, g0]) ?_
     refine lex_read (.string ty) (fun L => by simp only [hst 17 (by decide) (by decide)]) rfl (fun L W n' hs => by have hc := hcl L W n' hs; simp [execOp, go_sem, hsz0, hc]) ?_
     refine lex_plain (.int .u8 (bt ty 8)) (fun L => by simp only [hst 18 (by decide) (by decide)]) rfl (fun W => by simp [execOp, go_sem, hsz0, g0, x8]) ?_
     refine lex_plain (.int .i64 (bt ty 8)) (fun L => by simp only [hst 19 (by decide) (by decide)]) rfl (fun W => by simp [execOp, go_sem, hsz0, g0, m8]) ?_
     refine lex_plain (.agg #[.int .i64 (bt ty 5), .int .i64 (bt ty 6), .int .i64 (bt ty 7), .int .i64 (bt ty 8), .slice none 0 0, .slice none 0 0]) (fun L => by simp only [hst 20 (by decide) (by decide)]) rfl (fun W => by simp [execOp, go_sem, hsz0, g0]) ?_
     refine lex_turn (.pointer (some ⟨wo.heap.size, 0, none⟩)) rfl (fun L W n' hr hs => ?_) ?_
     ·obtain ⟨h37, hz37⟩ := rdy_at hr
      have h37' : (L.setIfInBounds 21 true).getD 21 false = true := set_same hz37
      have h38' : (L.setIfInBounds 21 true).getD 22 false = L.getD 22 false := getD_set_ne false (by decide)
      have h37 : L.getD 21 false = false := h37
      cases h38 : L.getD 22 false
      ·simp only [h38, h37] at hs
       have hs : some wo = some W := hs
       injection hs with hs
       subst hs
       refine ⟨wo.alloc (fbO ⟨0, 0, 0, 0, [], []⟩ (.slice none 0 0) (.slice none 0 0)), ?_, .inl ?_⟩
       ·show (if (L.setIfInBounds 21 true).getD 22 false = true then _ else if (L.setIfInBounds 21 true).getD 21 false = true then _ else _) = _
        rw [h38', h38, h37']
        rfl
       ·simp [execOp, go_sem, hsz0, g0]
        rfl
      ·simp only [h38, h37] at hs
       have hs : (none : Option World) = some W := hs
       cases hs
     refine lex_turn undef rfl (fun L W n' hr hs => ?_) ?_
     ·obtain ⟨h38, hz38⟩ := rdy_at hr
      have h37 : L.getD 21 false = true := rdy_after hr (by kernel_rfl)
      have h38 : L.getD 22 false = false := h38
      have h38' : (L.setIfInBounds 22 true).getD 22 false = true := set_same hz38
      have h37' : (L.setIfInBounds 22 true).getD 21 false = L.getD 21 false := getD_set_ne false (by decide)
      simp only [h38, h37] at hs
      have hs : some (wo.alloc (fbO ⟨0, 0, 0, 0, [], []⟩ (.slice none 0 0) (.slice none 0 0))) = some W := hs
      injection hs with hs
      subst hs
      refine ⟨wo.alloc (fbO ⟨bt ty 5, bt ty 6, bt ty 7, bt ty 8, [], []⟩ (.slice none 0 0) (.slice none 0 0)), ?_, .inr ⟨?_, rfl⟩⟩
      ·show (if (L.setIfInBounds 22 true).getD 22 false = true then (if (L.setIfInBounds 22 true).getD 21 false = true then _ else _) else _) = _
       rw [h38', h37', h37]
       rfl
      ·simp [execOp, go_sem, hsz0, g0]
       simp only [set_drewN]
       simp [go_sem]
     intro w' hw'
     subst ha0
     clear hsz0 g0
     obtain ⟨W, n', hs, rfl⟩ := hw'
     have hs2 : some (wo.alloc (fbO ⟨bt ty 5, bt ty 6, bt ty 7, bt ty 8, [], []⟩ (.slice none 0 0) (.slice none 0 0))) = some W := hs
     injection hs2 with hs2
     subst hs2
     obtain ⟨w5, hw5⟩ : ∃ w5, (wo.alloc (fbO ⟨bt ty 5, bt ty 6, bt ty 7, bt ty 8, [], []⟩ (.slice none 0 0) (.slice none 0 0))).drewN n' = w5 := ⟨_, rfl⟩
     have hb5 : Below wo.heap.size wo w5 := by rw [← hw5]; exact below_drewN (balloc _ _) _
     have HF5 : Hid (w5.heap[wo.heap.size]? = some (fbO ⟨bt ty 5, bt ty 6, bt ty 7, bt ty 8, [], []⟩ (.slice none 0 0) (.slice none 0 0))) := by rw [← hw5]; exact (MapKept.heap_alloc wo _).1
     have HR5 : Hid (Rts W1 (.slice a2 n2 (cl - 1)) r2) := HRl.out.tail HA2.out
     have HB5 : Hid (Below wo.heap.size wo w5) := hb5
     have d5 := kc hb5 c0
     have hsl := HSL.out
     have hcE := HCE.out.1
     have hcE5 := HCE.out.2
     have HPS2 : Hid (∀ p ∈ r2, 2 ≤ p.length ∧ p.length ≤ 512 ∧ Byt p) := fun q hq => HPS.out q (by simp [hq])
     rw [hw5]
     clear hs hst hcl hb5 hw5 c0 HA2 x5 x6 x7 x8 m5 m6 m7 m8 hB2 hB2'
     go_simp
     go_wp2
     clear d5 hsl hbt e1 e2 e3 hn0 hsz2 hB4 hB4' hB5 hB5' hB6 hB6' hB7 hB7' hB8 hB8'
     generalize bt ty 5 = qa at *
     generalize bt ty 6 = qb at *
     generalize bt ty 7 = qc at *
     generalize bt ty 8 = qd at *
     go_loopw [4] (fun lv wr => ∃ (ls2 ex : List (List Int)) (ve : Value), Rts W1 lv ls2 ∧ ls2.length + ex.length ≤ 511 ∧ Hid (∀ p ∈ ls2, 2 ≤ p.length ∧ p.length ≤ 512 ∧ Byt p) ∧ Hid (BB ex ∧ ∀ x ∈ ex, x.length ≤ 512) ∧ Hid (wr.heap[wo.heap.size]? = some (fbO ⟨qa, qb, qc, qd, [], []⟩ ve (.slice none 0 0))) ∧ Hid (Txs wr wo.heap.size ve ex) ∧ Hid (Below wo.heap.size wo wr) ∧ Hid ((ex ++ (refEx ls2).1, (refEx ls2).2) = refEx r2)) (fun lv _ => lenOf lv)
     case atStart => exact ⟨r2, [], _, HR5.out, by have := HN2.out; simp; omega, HPS2, ⟨fun p hp => by simp at hp, fun p hp => by simp at hp⟩, HF5, Txs.nil _ _, HB5, by show _ = _; simp⟩
     case round =>
      obtain ⟨ls2, ex, ve, hRt, hln, HP2, HBX, HFw, HTx, HBr, HRX⟩ := hrel
      have HRt2 : Hid (Rts W1 u4 ls2) := hRt
      obtain ⟨al2, cl2, hvl2, hlc2, hcl2, _⟩ := hRt.cell
      subst hvl2
      unfold maxLen at hcl2
      obtain ⟨ave, cve, hve, _, _⟩ := own_form HTx.out
      subst hve
      obtain ⟨nx, hnx⟩ : ∃ m, ex.length = m := ⟨_, rfl⟩
      have HNX : Hid (ex.length = nx) := hnx
      rw [hnx] at HFw HTx hln
      clear hRt hnx
      cases ls2 with
      | nil =>
       have HEX : Hid (refEx r2 = (ex, [])) := by show _ = _; rw [← HRX.out]; simp [refEx]
       simp only [List.length_nil] at hlc2 hln HRt2 ⊢
       obtain ⟨RE, hRE⟩ : ∃ RE, refEnds cE [] = RE := ⟨_, rfl⟩
       have HRE0 : Hid (refEnds cE [] = RE) := hRE
       have HEN : Hid (RE = none → RF = none) := fun q => HFZ.out HFT.out (by rw [HEX.out]; show refEnds cE [] = _; rw [hRE, q])
       have HEY : Hid (∀ es t, RE = some (es, t) → preF (L'.map Prod.fst ++ [⟨qa, qb, qc, qd, ex, es⟩]) (refFaces k ((i : Int) + 1) t) = RF) := fun es t q => by
        have h1 := HFY.out es t HFT.out (by rw [HEX.out]; show refEnds cE [] = _; rw [hRE, q])
        rw [HEX.out] at h1
        rw [← HRF.out]
        exact (preF_some h1).symm
       clear hRE
       go_wp2
       go_loopw [4, 173] (fun lv jv wr => ∃ (j : Nat) (ls3 : List (List Int)) (en : List En) (vd : Value), j ≤ cE ∧ jv = .int .i64 (j : Int) ∧ Rts W1 lv ls3 ∧ ls3.length ≤ 511 ∧ Hid (∀ p ∈ ls3, 2 ≤ p.length ∧ p.length ≤ 512 ∧ Byt p) ∧ Hid (en.length = j) ∧ Hid (wr.heap[wo.heap.size]? = some (fbO ⟨qa, qb, qc, qd, [], []⟩ (.slice ave nx cve) vd)) ∧ Hid (Txs wr wo.heap.size (.slice ave nx cve) ex) ∧ Hid (Eds wr wo.heap.size vd en) ∧ Hid (Below wo.heap.size wo wr) ∧ Hid (preE en (refEnds (cE - j) ls3) = RE)) (fun _ jv _ => cE - (intOf jv).toNat)
       case atStart =>
        refine ⟨0, [], [], _, Nat.zero_le _, rfl, HRt2.out, by simp, HP2, rfl, HFw, HTx, Eds.nil _ _, HBr, ?_⟩
        show preE [] (refEnds (cE - 0) []) = _
        rw [Nat.sub_zero, HRE0.out]
        cases RE with
        | none => rfl
        | some q => rfl
       case round =>
        obtain ⟨j, ls3, en, vd, hj, rfl, hRt3, hls3, HP4, HEL, HFw2, HTx2, HEd, HBr2, HPE⟩ := hrel
        have HRt4 : Hid (Rts W1 u4 ls3) := hRt3
        obtain ⟨al3, cl3, hvl3, hlc3, hcl3, _⟩ := hRt3.cell
        subst hvl3
        unfold maxLen at hcl3
        have HNo2 : Hid (No w wr) := HNo.out.below HBr2.out
        clear hRt3
        by_cases hjc : j < cE
        ·obtain ⟨k5, hk5⟩ : ∃ k, cE - j = k + 1 := ⟨cE - j - 1, by omega⟩
         rw [hk5] at HPE
         cases ls3 with
         | nil =>
          have HQ : Hid (RE = none) := by show _ = _; rw [← HPE.out]; rfl
          simp only [List.length_nil] at hlc3 HRt4 ⊢
          have HE : Hid (∀ wf, Below w.heap.size w wf → CF w (.returned (.tuple #[cfV noC (.slice none 0 0), .int .i64 4])) wf) := fun wf hBf => HRN.out (HFN.out (HEN.out (HQ.out))) wf hBf
          go_upto_region 22 with (fail)
          refine wp_abs (fun a0 => a0.tmps.size = 241 ∧ (∀ h, a0.tmps[2]'h = .pointer (some ⟨w.heap.size, 0, none⟩)) ∧ a0.defers = []) ⟨rfl, fun _ => rfl, rfl⟩ ?_
          rintro a0 ⟨hsz0, g2, hdf⟩ ha0
          clear ha0
          refine ret_no (d := 192) HNo2.out hsz0 g2 hdf (by decide) (by decide) (by decide) HE.out ?_
          intro a' wf h
          first | (rename_i hK; exact hK _ _ (wp_ret h)) | (rename_i hK hX; exact hK _ _ (wp_ret h))
         | cons p3 r4 =>
          obtain ⟨g4, off4, hag, c00⟩ := HRt4.out.at 0 p3 rfl
          subst hag
          rw [Nat.add_zero] at c00
          have d0 := kc (bsq HBf.out.bel HBr2.out) c00
          obtain ⟨hw2, hw5, hwb⟩ := HP4.out p3 (by simp)
          have hsz4 := str_size p3
          have hbt4 := get_bt (strOfNums p3)
          rw [List.length_cons] at hlc3 hls3 HRt4 ⊢
          obtain ⟨n4, hn4⟩ : ∃ n, r4.length = n := ⟨_, rfl⟩
          rw [hn4] at hlc3 hls3 HRt4 ⊢
          have HN4 : Hid (r4.length = n4) := hn4
          have hn40 : ((n4 : Int) + 1 == 0) = false := by rw [beq_eq_false_iff_ne]; omega
          clear hn4 c00
          by_cases h7 : p3.length = 7
          case neg =>
           have e7 : (((strOfNums p3).size : Int) != 7) = true := by rw [hsz4]; simpa using (show ¬ (p3.length : Int) = 7 by omega)
           have HQ : Hid (RE = none) := by show _ = _; rw [← HPE.out]; exact preE_none (by cases hb : isP p3 7 5; rfl; exact absurd ((isP_iff _ _ _).1 hb).1 h7)
           generalize strOfNums p3 = tz at *
           clear h7 hsz4
           have HE : Hid (∀ wf, Below w.heap.size w wf → CF w (.returned (.tuple #[cfV noC (.slice none 0 0), .int .i64 4])) wf) := fun wf hBf => HRN.out (HFN.out (HEN.out (HQ.out))) wf hBf
           go_upto_region 22 with (fail)
           refine wp_abs (fun a0 => a0.tmps.size = 241 ∧ (∀ h, a0.tmps[2]'h = .pointer (some ⟨w.heap.size, 0, none⟩)) ∧ a0.defers = []) ⟨rfl, fun _ => rfl, rfl⟩ ?_
           rintro a0 ⟨hsz0, g2, hdf⟩ ha0
           clear ha0
           refine ret_no (d := 192) HNo2.out hsz0 g2 hdf (by decide) (by decide) (by decide) HE.out ?_
           intro a' wf h
           first | (rename_i hK; exact hK _ _ (wp_ret h)) | (rename_i hK hX; exact hK _ _ (wp_ret h))
          have m1 := getD_bt p3 hwb 1 (by omega)
          by_cases h15 : bt (strOfNums p3) 1 = 5
          case neg =>
           have e15 : (bt (strOfNums p3) 1 != 5) = true := by simpa using h15
           have HQ : Hid (RE = none) := by show _ = _; rw [← HPE.out]; exact preE_none (by cases hb : isP p3 7 5; rfl; exact absurd (m1.trans ((isP_iff _ _ _).1 hb).2) h15)
           rw [h7] at hsz4
           generalize strOfNums p3 = tz at *
           clear h15 m1
           have HE : Hid (∀ wf, Below w.heap.size w wf → CF w (.returned (.tuple #[cfV noC (.slice none 0 0), .int .i64 4])) wf) := fun wf hBf => HRN.out (HFN.out (HEN.out (HQ.out))) wf hBf
           go_upto_region 22 with (fail)
           refine wp_abs (fun a0 => a0.tmps.size = 241 ∧ (∀ h, a0.tmps[2]'h = .pointer (some ⟨w.heap.size, 0, none⟩)) ∧ a0.defers = []) ⟨rfl, fun _ => rfl, rfl⟩ ?_
           rintro a0 ⟨hsz0, g2, hdf⟩ ha0
           clear ha0
           refine ret_no (d := 192) HNo2.out hsz0 g2 hdf (by decide) (by decide) (by decide) HE.out ?_
           intro a' wf h
           first | (rename_i hK; exact hK _ _ (wp_ret h)) | (rename_i hK hX; exact hK _ _ (wp_ret h))
          have HP5 : Hid (isP p3 7 5 = true) := (isP_iff _ _ _).2 ⟨h7, m1.symm.trans h15⟩
          have m2 := getD_bt p3 hwb 2 (by omega)
          have m3 := getD_bt p3 hwb 3 (by omega)
          have m4 := getD_bt p3 hwb 4 (by omega)
          have m5 := getD_bt p3 hwb 5 (by omega)
          have m6 := getD_bt p3 hwb 6 (by omega)
          have HEO : Hid (endO p3 = ⟨bt (strOfNums p3) 2 % 128, decide (128 ≤ bt (strOfNums p3) 2), bt (strOfNums p3) 3, bt (strOfNums p3) 4 + 256 * bt (strOfNums p3) 5, bt (strOfNums p3) 6⟩) := by
           show _ = _
           rw [m2, m3, m4, m5, m6]
           rfl
          rw [h7] at hsz4
          have HW4 : Hid (∀ u : World, Calls Tryz.prog 78 #[.string (strOfNums p3), .int .i64 4] u fun e w' => e = .returned (.int .i64 (bt (strOfNums p3) 4 + 256 * bt (strOfNums p3) 5)) ∧ ∃ q, w' = u.drewN q) := fun u => by
           have := wordAt_any (strOfNums p3) 4 u (by omega) (by rw [hsz4]; decide)
           rw [wd_at _ 4 (by omega)] at this
           exact this
          obtain ⟨a4, hsl4, ha4⟩ := rest_texts g4 off4 n4 cl3 hlc3
          have HRT5 : Hid (Rts W1 (.slice a4 n4 (cl3 - 1)) r4) := HRt4.out.tail ha4
          have HPE2 : Hid (preE (en ++ [endO p3]) (refEnds (cE - (j + 1)) r4) = RE) := by
           show _ = _
           rw [← HPE.out, show cE - (j + 1) = k5 by omega]
           exact (preE_some HP5.out).symm
          have HP6 : Hid (∀ p ∈ r4, 2 ≤ p.length ∧ p.length ≤ 512 ∧ Byt p) := fun q hq => HP4.out q (by simp [hq])
          have y2 := bt_nonneg (strOfNums p3) 2
          have y2' := bt_le (strOfNums p3) 2
          have y3 := bt_nonneg (strOfNums p3) 3
          have y3' := bt_le (strOfNums p3) 3
          have y6 := bt_nonneg (strOfNums p3) 6
          have y6' := bt_le (strOfNums p3) 6
          have e15 : (bt (strOfNums p3) 1 != 5) = false := by simpa using h15
          have w2' : IntKind.i64.wrap (bt (strOfNums p3) 2) = bt (strOfNums p3) 2 := by rw [IntKind.wrap_i64]; omega
          have w3' : IntKind.i64.wrap (bt (strOfNums p3) 3) = bt (strOfNums p3) 3 := by rw [IntKind.wrap_i64]; omega
          have w6' : IntKind.i64.wrap (bt (strOfNums p3) 6) = bt (strOfNums p3) 6 := by rw [IntKind.wrap_i64]; omega
          have hrem : Int.tmod (bt (strOfNums p3) 2) 128 = bt (strOfNums p3) 2 % 128 := Int.tmod_eq_emod_of_nonneg y2
          obtain ⟨avd, cvd, hvd, _, _⟩ := own_form HEd.out
          subst hvd
          rw [HEL.out] at HFw2 HEd
          obtain ⟨i1, hi1, hy0, hy1, hy2⟩ := info_parts infoE
          have p5 : wr.cell? ⟨wo.heap.size, 5, none⟩ = some (.slice avd j cvd) := (box6r HFw2.out).2.2.2.2.2
          clear m1 m2 m3 m4 m5 m6 h7 h15 hw2 hw5 hwb ha4
          generalize strOfNums p3 = tz at *
          go_wp2_with fail
          clear e15 hbt4 d0 hlc3 HW4
          have rem2 : IntKind.i64.wrap (bt tz 2 % 128) = bt tz 2 % 128 := by rw [IntKind.wrap_i64]; omega
          have hEd2 : Eds wr.drew.drew wo.heap.size (.slice avd j cvd) en := HEd.out
          have hTx2 : Txs wr.drew.drew wo.heap.size (.slice ave nx cve) ex := HTx2.out
          have hBl2 : Below wo.heap.size wo wr.drew.drew := HBr2.out.drew.drew
          have hFb2 : wr.drew.drew.heap[wo.heap.size]? = some (fbO ⟨qa, qb, qc, qd, [], []⟩ (.slice ave nx cve) (.slice avd j cvd)) := HFw2.out
          have hzw : wr.drew.drew.heap.size = wr.heap.size := rfl
          obtain ⟨wd2, hwd2⟩ : ∃ wd2, wr.drew.drew = wd2 := ⟨_, rfl⟩
          rw [hwd2] at hEd2 hTx2 hBl2 hFb2 hzw
          have hOW := World.ownsRow.alloc hEd2 (.cells #[.int .i64 (bt tz 2 % 128), .bool (decide (128 ≤ bt tz 2)), .int .i64 (bt tz 3), .int .i64 (bt tz 4 + 256 * bt tz 5), .int .i64 (bt tz 6)] 89)
          rw [HEL.out] at hOW
          obtain ⟨v7, w7, hr7, hown7, hgrow7, _⟩ := run_append_own (P := Tryz.prog) (wd2.alloc (.cells #[.int .i64 (bt tz 2 % 128), .bool (decide (128 ≤ bt tz 2)), .int .i64 (bt tz 3), .int .i64 (bt tz 4 + 256 * bt tz 5), .int .i64 (bt tz 6)] 89)) wo.heap.size 72 72 89 i1 _ 5 40 Tryz.underlying72 hi1 hy0 hy1 hy2 rfl (by omega) (.slice avd j cvd) j (ecells en) hOW ⟨wd2.heap.size, 0, none⟩ 1 1 [.int .i64 (bt tz 2 % 128), .bool (decide (128 ≤ bt tz 2)), .int .i64 (bt tz 3), .int .i64 (bt tz 4 + 256 * bt tz 5), .int .i64 (bt tz 6)] rfl (World.news_of_block (cs := #[.int .i64 (bt tz 2 % 128), .bool (decide (128 ≤ bt tz 2)), .int .i64 (bt tz 3), .int .i64 (bt tz 4 + 256 * bt tz 5), .int .i64 (bt tz 6)]) (t := 89) (fr := (0, 0)) (heap_alloc_new wd2 _)) (by simp [Value.oneCell']) (by unfold maxLen; omega) (by omega) (Nat.le_trans hBl2.size (balloc wd2 _).size)
          obtain ⟨a7, c7, hv7, _, hc7⟩ := own_form hown7
          subst hv7
          have hb7 := box_grow hOW (res_below hFb2 (balloc wd2 _)) (by decide) hgrow7
          have hT7 := World.ownsRow.kept (World.ownsRow.alloc hTx2 (.cells #[.int .i64 (bt tz 2 % 128), .bool (decide (128 ≤ bt tz 2)), .int .i64 (bt tz 3), .int .i64 (bt tz 4 + 256 * bt tz 5), .int .i64 (bt tz 6)] 89)) hgrow7 (kind_ne (World.ownsRow.alloc hTx2 (.cells #[.int .i64 (bt tz 2 % 128), .bool (decide (128 ≤ bt tz 2)), .int .i64 (bt tz 3), .int .i64 (bt tz 4 + 256 * bt tz 5), .int .i64 (bt tz 6)] 89)) hOW (by decide))
          have m4 : w7.cell? ⟨wo.heap.size, 5, none⟩ = some (.slice avd j cvd) := (box6r hb7).2.2.2.2.2
          have n4' : w7.frozen? ⟨wo.heap.size, 5, none⟩ = false := frozen_of_row w7 wo.heap.size 5 _ _ hb7
          have z4 : wo.heap.size < w7.heap.size := (Array.getElem?_eq_some_iff.1 hb7).1
          obtain ⟨w8, hw8⟩ : ∃ w8, w7.setCell ⟨wo.heap.size, 5, none⟩ (.slice a7 (j + 1) c7) = w8 := ⟨_, rfl⟩
          have t4 : Hid (Txs w8 wo.heap.size (.slice ave nx cve) ex) := by show Txs _ _ _ _; rw [← hw8]; exact ownsRow_setCell_other hT7 (box_ne hT7 hb7 (by decide)) _
          have t5 : Hid (Eds w8 wo.heap.size (.slice a7 (j + 1) c7) (en ++ [endO p3])) := by
           have h1 : Eds w7 wo.heap.size (.slice a7 (j + 1) c7) (en ++ [endO p3]) := by
            unfold Eds
            rw [List.length_append, HEL.out, ecells_append, HEO.out]
            exact hown7
           show Eds _ _ _ _
           rw [← hw8]
           exact ownsRow_setCell_other h1 (box_ne h1 hb7 (by decide)) _
          have t6 : Hid (w8.heap[wo.heap.size]? = some (fbO ⟨qa, qb, qc, qd, [], []⟩ (.slice ave nx cve) (.slice a7 (j + 1) c7))) := by show _ = _; rw [← hw8]; exact csetX 5 _ hb7 rfl
          have t7 : Hid (Below wo.heap.size wo w8) := by show Below _ _ _; rw [← hw8]; exact ((bsq hBl2 (balloc wd2 _)).grown hgrow7 (Nat.le_trans hBl2.size (balloc wd2 _).size) (fun k hk => own_block hOW k hk)).setCell (Nat.le_refl _) _
          have x2 : ∀ W : World, (Instr.index 9 (.string tz) (.int .i64 2)).run Tryz.prog W = .ok (.int .u8 (bt tz 2)) W := run_ix tz 2 (by omega)
          have x3 : ∀ W : World, (Instr.index 9 (.string tz) (.int .i64 3)).run Tryz.prog W = .ok (.int .u8 (bt tz 3)) W := run_ix tz 3 (by omega)
          have x6 : ∀ W : World, (Instr.index 9 (.string tz) (.int .i64 6)).run Tryz.prog W = .ok (.int .u8 (bt tz 6)) W := run_ix tz 6 (by omega)
          have HWd : Hid (Calls Tryz.prog 78 #[.string tz, .int .i64 4] wr.drew fun e w' => e = .returned (.int .i64 (bt tz 4 + 256 * bt tz 5)) ∧ w' = wd2) := by
           rw [← hwd2]
           exact wordAt_drew tz wr.drew (by omega) (by rw [hsz4]; decide)
          have q5 : wd2.cell? ⟨wo.heap.size, 5, none⟩ = some (.slice avd j cvd) := (box6r hFb2).2.2.2.2.2
          have q5' : (wd2.alloc (.cells #[.int .i64 (bt tz 2 % 128), .bool (decide (128 ≤ bt tz 2)), .int .i64 (bt tz 3), .int .i64 (bt tz 4 + 256 * bt tz 5), .int .i64 (bt tz 6)] 89)).cell? ⟨wo.heap.size, 5, none⟩ = some (.slice avd j cvd) := kc (balloc wd2 _) q5
          have zq : wo.heap.size < wd2.heap.size := (Array.getElem?_eq_some_iff.1 hFb2).1
          have zr : wo.heap.size < wr.heap.size := by omega
          have zq' : wo.heap.size < (wd2.alloc (.cells #[.int .i64 (bt tz 2 % 128), .bool (decide (128 ≤ bt tz 2)), .int .i64 (bt tz 3), .int .i64 (bt tz 4 + 256 * bt tz 5), .int .i64 (bt tz 6)] 89)).heap.size := Nat.lt_of_lt_of_le zq (balloc wd2 _).size
          clear hown7 hgrow7 hb7 hT7 hOW hEd2 hTx2 hBl2 hFb2
          refine wp_abs (fun a0 => a0.tmps.size = 241 ∧ (∀ h, a0.tmps[9]'h = .pointer (some ⟨wo.heap.size, 0, none⟩)) ∧ (∀ h, a0.tmps[11]'h = .string tz) ∧ (∀ h, a0.tmps[4]'h = .slice (some ⟨g4, off4, none⟩) (n4 + 1) cl3)) ⟨rfl, fun _ => rfl, fun _ => rfl, fun _ => rfl⟩ ?_
          rintro a0 ⟨hsz0, g9, g11, g0⟩ ha0
          refine wp_region_L (SE wr.drew wd2 (wd2.alloc (.cells #[.int .i64 (bt tz 2 % 128), .bool (decide (128 ≤ bt tz 2)), .int .i64 (bt tz 3), .int .i64 (bt tz 4 + 256 * bt tz 5), .int .i64 (bt tz 6)] 89)) w7 w8) (by kernel_rfl) (by kernel_rfl) rfl ?_
          refine lexe_plain (.pointer (some ⟨wo.heap.size, 5, none⟩)) (by decide) rfl (fun W => by simp [execOp, go_sem, hsz0, g9, g11, g0]) ?_
          refine lexe_1 (.slice avd j cvd) rfl (by simp [execOp, go_sem, hsz0, p5, zr]) (by simp [execOp, go_sem, hsz0, q5, zq]) (by simp [execOp, go_sem, hsz0, q5', zq']) ?_
          refine lexe_plain (.string tz) (by decide) rfl (fun W => by simp [execOp, go_sem, hsz0, g9, g11, g0]) ?_
          refine lexe_plain (.int .u8 (bt tz 2)) (by decide) rfl (fun W => by simp [execOp, go_sem, hsz0, g9, g11, g0, x2]) ?_
          refine lexe_plain (.int .i64 (bt tz 2)) (by decide) rfl (fun W => by simp [execOp, go_sem, hsz0, g9, g11, g0, w2']) ?_
          refine lexe_plain (.int .i64 (bt tz 2 % 128)) (by decide) rfl (fun W => by simp [execOp, go_sem, hsz0, g9, g11, g0, hrem, rem2]) ?_
          refine lexe_plain (.string tz) (by decide) rfl (fun W => by simp [execOp, go_sem, hsz0, g9, g11, g0]) ?_
          refine lexe_plain (.int .u8 (bt tz 2)) (by decide) rfl (fun W => by simp [execOp, go_sem, hsz0, g9, g11, g0, x2]) ?_
          refine lexe_plain (.bool (decide (128 ≤ bt tz 2))) (by decide) rfl (fun W => by simp [execOp, go_sem, hsz0, g9, g11, g0]) ?_
          refine lexe_plain (.string tz) (by decide) rfl (fun W => by simp [execOp, go_sem, hsz0, g9, g11, g0]) ?_
          refine lexe_plain (.int .u8 (bt tz 3)) (by decide) rfl (fun W => by simp [execOp, go_sem, hsz0, g9, g11, g0, x3]) ?_
          refine lexe_plain (.int .i64 (bt tz 3)) (by decide) rfl (fun W => by simp [execOp, go_sem, hsz0, g9, g11, g0, w3']) ?_
          refine lexe_plain (.string tz) (by decide) rfl (fun W => by simp [execOp, go_sem, hsz0, g9, g11, g0]) ?_
          refine lexe_13 (.int .i64 (bt tz 4 + 256 * bt tz 5)) 78 #[.string tz, .int .i64 4] rfl (fun W => by simp [execOp, go_sem, hsz0]) HWd.out ?_
          refine lexe_plain (.string tz) (by decide) rfl (fun W => by simp [execOp, go_sem, hsz0, g9, g11, g0]) ?_
          refine lexe_plain (.int .u8 (bt tz 6)) (by decide) rfl (fun W => by simp [execOp, go_sem, hsz0, g9, g11, g0, x6]) ?_
          refine lexe_plain (.int .i64 (bt tz 6)) (by decide) rfl (fun W => by simp [execOp, go_sem, hsz0, g9, g11, g0, w6']) ?_
          refine lexe_17 (.agg #[.int .i64 (bt tz 2 % 128), .bool (decide (128 ≤ bt tz 2)), .int .i64 (bt tz 3), .int .i64 (bt tz 4 + 256 * bt tz 5), .int .i64 (bt tz 6)]) rfl (by kernel_rfl) (fun W => by simp [execOp, go_sem, hsz0]) ?_
          refine lexe_18 (.slice (some ⟨wd2.heap.size, 0, none⟩) 1 1) rfl (by kernel_rfl) (by simp [execOp, go_sem, hsz0]) ?_
          refine lexe_19 (.slice a7 (j + 1) c7) rfl (by kernel_rfl) (by kernel_rfl) (append_run rfl (by simp [Act.eval, Act.put, hsz0]) (by simp [Act.eval, Act.put, hsz0]) hr7) ?_
          refine lexe_plain (.slice (some ⟨g4, off4, none⟩) (n4 + 1) cl3) (by decide) rfl (fun W => by simp [execOp, go_sem, hsz0, g9, g11, g0]) ?_
          refine lexe_plain (.slice a4 n4 (cl3 - 1)) (by decide) rfl (fun W => by simp [execOp, go_sem, hsz0, g9, g11, g0, hsl4]) ?_
          refine lexe_plain (.pointer (some ⟨wo.heap.size, 5, none⟩)) (by decide) rfl (fun W => by simp [execOp, go_sem, hsz0, g9, g11, g0]) ?_
          refine lexe_23 rfl (by kernel_rfl) (by simp [execOp, go_sem, hsz0, m4, n4', z4, hw8]) ?_
          refine lexe_plain (.slice a4 n4 (cl3 - 1)) (by decide) rfl (fun W => by simp [execOp, go_sem, hsz0, g9, g11, g0]) ?_
          intro w' hw'
          have hs2 : some w8 = some w' := hw'
          injection hs2 with hs2
          subst hs2
          subst ha0
          clear hw' hsz0 g9 g11 g0 hr7 hw8 m4 n4' z4 x2 x3 x6 q5 q5' zq zq' zr hzw hwd2 p5 hsl4
          go_simp
          go_wp2
          go_roundw
          case rel => exact ⟨j + 1, r4, en ++ [endO p3], _, by omega, by go_num, HRT5.out, by rw [HN4.out]; omega, HP6, by (show _ = _; rw [List.length_append, HEL.out]; rfl), t6, t4, t5, t7, HPE2⟩
          case measure => simp [intOf]; omega
        ·have HRS : Hid (RE = some (en, ls3)) := by
          show _ = _
          rw [← HPE.out, show cE - j = 0 by omega, refEnds]
          simp [preE]
         obtain ⟨avd, cvd, hvd, _, _⟩ := own_form HEd.out
         subst hvd
         have hf5 := HBf.out.below HBr2.out
         have hT5 : Txs wr W1.heap.size (.slice ave nx cve) ex := own_mono HTx2.out HBf.out.bel.size
         have hE5 : Eds wr W1.heap.size (.slice avd en.length cvd) en := own_mono HEd.out HBf.out.bel.size
         rw [HEL.out] at HFw2 hE5
         obtain ⟨ab, cb, hvb, _, hcb⟩ := own_form hf5.row
         rw [HLI.out] at hvb
         subst hvb
         obtain ⟨r0, r1, r2', r3', r4', r5⟩ := box6r HFw2.out
         obtain ⟨⟨hzB, _, _, _, _, s4⟩, _⟩ := box5f hf5.box
         have H5 : Hid (Bf W1 wr W1.heap.size va na atr po (.slice ab i cb) L' ∧ Txs wr W1.heap.size (.slice ave nx cve) ex ∧ Eds wr W1.heap.size (.slice avd j cvd) en) := ⟨hf5, hT5, hE5⟩
         have HXB : Hid (BB ex ∧ ∀ x ∈ ex, x.length ≤ maxLen) := ⟨HBX.out.1, fun x hx => Nat.le_trans (HBX.out.2 x hx) (by decide)⟩
         have HNE : Hid (preF ((L' ++ [((⟨qa, qb, qc, qd, ex, en⟩ : Fc), Value.slice ave nx cve, Value.slice avd j cvd)]).map Prod.fst) (refFaces (cnt - (i + 1)) ((i + 1 : Nat) : Int) ls3) = RF) := by
          show _ = _
          rw [List.map_append, show cnt - (i + 1) = k by omega]
          exact HEY.out en ls3 HRS.out
         obtain ⟨i1, hi1, hy0, hy1, hy2⟩ := info_parts infoF
         clear hf5 hT5 hE5
         go_wp2_with
          (at_builtin
           refine wpList_append_own _ rfl _ _ 24 rfl W1.heap.size 74 i1 _ 6 80 Tryz.underlying24 hi1 hy0 hy1 hy2 rfl (by omega) _ i (fcells L') rfl (by have := World.ownsRow.alloc H5.out.1.row (.cells #[.int .i64 qa, .int .i64 qb, .int .i64 qc, .int .i64 qd, .slice ave nx cve, .slice avd j cvd] 74); rw [HLI.out] at this; exact this)
            ⟨wr.heap.size, 0, none⟩ 1 1 (fcell (⟨qa, qb, qc, qd, ex, en⟩, .slice ave nx cve, .slice avd j cvd)) rfl rfl (World.news_of_block (cs := #[.int .i64 qa, .int .i64 qb, .int .i64 qc, .int .i64 qd, .slice ave nx cve, .slice avd j cvd]) (t := 74) (fr := (0, 0)) (heap_alloc_new wr _)) (by simp [fcell, Value.oneCell']) (by unfold maxLen; omega) (by omega) (Nat.le_trans H5.out.1.bel.size (balloc wr _).size) ?_
           intro v6 w6 q1 q2 _
           obtain ⟨a6, c6, rfl, _, hc6⟩ := own_form q1
           have hbx := res_grow (World.ownsRow.alloc H5.out.1.row _) (res_below H5.out.1.box (balloc wr _)) (by decide) q2
           obtain ⟨⟨hz6, _, _, _, _, s6⟩, _, _, _, _, g6⟩ := box5f hbx
           have HN6 : Hid (Bf W1 (w6.setCell ⟨W1.heap.size, 4, none⟩ (.slice a6 (i + 1) c6)) W1.heap.size va na atr po (.slice a6 (i + 1) c6) (L' ++ [(⟨qa, qb, qc, qd, ex, en⟩, .slice ave nx cve, .slice avd j cvd)])) :=
            Bf.add (H5.out.1.below (balloc wr _)) (own_below H5.out.2.1 (balloc wr _)) (own_below H5.out.2.2 (balloc wr _)) HXB.out (by rw [HLI.out]; exact q1) q2
           clear q1 q2 hbx)
         exact ⟨⟨i + 1, ls3, _, _, by omega, by go_num, HRt4.out, hls3, HP4, HN6.out, by rw [List.length_append, HLI.out]; rfl, HNE⟩, by simp [intOf]; omega⟩
      | cons p2 r3 =>
       obtain ⟨g3, off3, hag, c00⟩ := HRt2.out.at 0 p2 rfl
       subst hag
       rw [Nat.add_zero] at c00
       have c0 := kc (bsq HBf.out.bel HBr.out) c00
       clear c00
       obtain ⟨hp2, hp5, hpb⟩ := HP2.out p2 (by simp)
       have hsz3 := str_size p2
       have k1 := getD_bt p2 hpb 1 (by omega)
       have hbt := get_bt (strOfNums p2)
       have hb0 := bt_nonneg (strOfNums p2) 1
       have hb1 := bt_le (strOfNums p2) 1
       rw [List.length_cons] at hlc2 hln HRt2 ⊢
       obtain ⟨n3, hn3⟩ : ∃ n, r3.length = n := ⟨_, rfl⟩
       rw [hn3] at hlc2 hln HRt2 ⊢
       have HN3 : Hid (r3.length = n3) := hn3
       have hq3 : (0 : Int) < (n3 : Int) + 1 := by omega
       by_cases h5 : 5 < bt (strOfNums p2) 1
       ·obtain ⟨a3, hsl, ha3⟩ := rest_texts g3 off3 n3 cl2 hlc2
        have HRT3 : Hid (Rts W1 (.slice a3 n3 (cl2 - 1)) r3) := HRt2.out.tail ha3
        have HRX3 : Hid (((ex ++ [p2]) ++ (refEx r3).1, (refEx r3).2) = refEx r2) := by
         show _ = _
         rw [← HRX.out]
         exact (refEx_more (by rw [← k1]; exact h5) ex).symm
        have HPX : Hid (Byt p2 ∧ p2.length ≤ 512) := ⟨hpb, hp5⟩
        have HP3 : Hid (∀ p ∈ r3, 2 ≤ p.length ∧ p.length ≤ 512 ∧ Byt p) := fun q hq => HP2.out q (by simp [hq])
        obtain ⟨t3, ht3⟩ : ∃ t, strOfNums p2 = t := ⟨_, rfl⟩
        have HT3 : Hid (strOfNums p2 = t3) := ht3
        rw [ht3] at c0 hsz3 hbt h5 hb0 hb1
        obtain ⟨i0, hi0, hz0, hz1, hz2⟩ := info_parts infoS
        have p4 : wr.cell? ⟨wo.heap.size, 4, none⟩ = some (.slice ave nx cve) := (box6r HFw.out).2.2.2.2.1
        have p4' : (wr.alloc (.cells #[.string t3] 9)).cell? ⟨wo.heap.size, 4, none⟩ = some (.slice ave nx cve) := kc (balloc wr _) p4
        have c1' : (wr.alloc (.cells #[.string t3] 9)).cell? ⟨g3, off3, none⟩ = some (.string t3) := kc (balloc wr _) c0
        have HOW : Hid ((wr.drew.alloc (.cells #[.string t3] 9)).ownsRow wo.heap.size 9 1 (.slice ave nx cve) nx (tcells ex)) := by
         have := World.ownsRow.alloc (w := wr.drew) HTx.out (.cells #[.string t3] 9)
         rw [HNX.out] at this
         exact this
        have HFb : Hid ((wr.drew.alloc (.cells #[.string t3] 9)).heap[wo.heap.size]? = some (fbO ⟨qa, qb, qc, qd, [], []⟩ (.slice ave nx cve) (.slice none 0 0))) := res_below (wr := wr.drew) HFw.out (balloc _ _)
        have HBa : Hid (Below wo.heap.size wo (wr.drew.alloc (.cells #[.string t3] 9))) := bsq HBr.out.drew (balloc _ _)
        have h13 : 2 ≤ t3.size := by omega
        clear ht3 hn3 k1 hp2 hp5 hpb ha3 hsz3 HP2 HRX
        go_wp2_with fail
        go_region_law (first
         | (refine step_append_lies _ (by rfl) _ _ _ (by rfl) wo.heap.size 9 i0 _ 1 16 Tryz.underlying27 hi0 hz0 hz1 hz2 rfl (by omega) (.slice ave nx cve) nx (tcells ex) (by rfl) HOW.out ⟨wr.heap.size, 0, none⟩ 1 1 [.string t3] (by rfl) (by rfl) (World.news_of_block (cs := #[.string t3]) (t := 9) (fr := (0, 0)) (heap_alloc_new wr.drew _)) (by simp [Value.oneCell'])
             (by omega) (by unfold maxLen; omega) (by omega) HBa.out.size (wr.heap.size + 1) (by simp) ?_
            intro gn capn w7 hown7 hgrow7 hat7 hgl7
            have hb7 := box_grow HOW.out HFb.out (by decide) hgrow7
            have m4 : w7.cell? ⟨wo.heap.size, 4, none⟩ = some (.slice ave nx cve) := (box6r hb7).2.2.2.2.1
            have n4 : w7.frozen? ⟨wo.heap.size, 4, none⟩ = false := frozen_of_row w7 wo.heap.size 4 _ _ hb7
            have t5 : Hid (Txs (w7.setCell ⟨wo.heap.size, 4, none⟩ (.slice (some ⟨gn, 0, none⟩) (nx + 1) capn)) wo.heap.size (.slice (some ⟨gn, 0, none⟩) (nx + 1) capn) (ex ++ [p2])) := by
             have h1 : Txs w7 wo.heap.size (.slice (some ⟨gn, 0, none⟩) (nx + 1) capn) (ex ++ [p2]) := by
              unfold Txs
              rw [List.length_append, HNX.out, show tcells (ex ++ [p2]) = tcells ex ++ [.string t3] by rw [← HT3.out]; simp [tcells]]
              exact hown7
             exact ownsRow_setCell_other h1 (box_ne h1 hb7 (by decide)) _
            have t6 : Hid ((w7.setCell ⟨wo.heap.size, 4, none⟩ (.slice (some ⟨gn, 0, none⟩) (nx + 1) capn)).heap[wo.heap.size]? = some (fbO ⟨qa, qb, qc, qd, [], []⟩ (.slice (some ⟨gn, 0, none⟩) (nx + 1) capn) (.slice none 0 0))) := csetX 4 _ hb7 rfl
            have t7 : Hid (Below wo.heap.size wo (w7.setCell ⟨wo.heap.size, 4, none⟩ (.slice (some ⟨gn, 0, none⟩) (nx + 1) capn))) := (HBa.out.grown hgrow7 HBa.out.size (fun k hk => own_block HOW.out k hk)).setCell (Nat.le_refl _) _
            clear hown7 hgrow7 hat7 hgl7 hb7))
        all_goals go_simp
        all_goals go_wp2
        all_goals go_roundw
        all_goals first
         | exact ⟨r3, ex ++ [p2], _, HRT3.out, by rw [List.length_append, HNX.out, HN3.out]; simp; omega, HP3, ⟨fun x hx => by
           rcases List.mem_append.1 hx with hx | hx
           ·exact HBX.out.1 x hx
           ·simp at hx; subst hx; exact HPX.out.1, fun x hx => by
           rcases List.mem_append.1 hx with hx | hx
           ·exact HBX.out.2 x hx
           ·simp at hx; subst hx; exact HPX.out.2⟩, t6, t5, t7, HRX3⟩
         | simp [lenOf]
       ·have HEX : Hid (refEx r2 = (ex, p2 :: r3)) := by show _ = _; rw [← HRX.out, refEx_stop (by rw [← k1]; exact h5)]; simp
        obtain ⟨t3, ht3⟩ : ∃ t, strOfNums p2 = t := ⟨_, rfl⟩
        rw [ht3] at c0 hsz3 hbt h5 hb0 hb1
        have h13 : 2 ≤ t3.size := by omega
        have HLN : Hid ((p2 :: r3).length ≤ 511) := by show _ ≤ _; rw [List.length_cons, HN3.out]; omega
        clear ht3 hn3 k1 hp2 hp5 hpb hsz3
        obtain ⟨RE, hRE⟩ : ∃ RE, refEnds cE (p2 :: r3) = RE := ⟨_, rfl⟩
        have HRE0 : Hid (refEnds cE (p2 :: r3) = RE) := hRE
        have HEN : Hid (RE = none → RF = none) := fun q => HFZ.out HFT.out (by rw [HEX.out]; show refEnds cE (p2 :: r3) = _; rw [hRE, q])
        have HEY : Hid (∀ es t, RE = some (es, t) → preF (L'.map Prod.fst ++ [⟨qa, qb, qc, qd, ex, es⟩]) (refFaces k ((i : Int) + 1) t) = RF) := fun es t q => by
         have h1 := HFY.out es t HFT.out (by rw [HEX.out]; show refEnds cE (p2 :: r3) = _; rw [hRE, q])
         rw [HEX.out] at h1
         rw [← HRF.out]
         exact (preF_some h1).symm
        clear hRE
        go_wp2
        go_loopw [4, 173] (fun lv jv wr => ∃ (j : Nat) (ls3 : List (List Int)) (en : List En) (vd : Value), j ≤ cE ∧ jv = .int .i64 (j : Int) ∧ Rts W1 lv ls3 ∧ ls3.length ≤ 511 ∧ Hid (∀ p ∈ ls3, 2 ≤ p.length ∧ p.length ≤ 512 ∧ Byt p) ∧ Hid (en.length = j) ∧ Hid (wr.heap[wo.heap.size]? = some (fbO ⟨qa, qb, qc, qd, [], []⟩ (.slice ave nx cve) vd)) ∧ Hid (Txs wr wo.heap.size (.slice ave nx cve) ex) ∧ Hid (Eds wr wo.heap.size vd en) ∧ Hid (Below wo.heap.size wo wr) ∧ Hid (preE en (refEnds (cE - j) ls3) = RE)) (fun _ jv _ => cE - (intOf jv).toNat)
        case atStart =>
         refine ⟨0, (p2 :: r3), [], _, Nat.zero_le _, rfl, HRt2.out, HLN.out, HP2, rfl, HFw, HTx, Eds.nil _ _, HBr, ?_⟩
         show preE [] (refEnds (cE - 0) (p2 :: r3)) = _
         rw [Nat.sub_zero, HRE0.out]
         cases RE with
         | none => rfl
         | some q => rfl
        case round =>
         obtain ⟨j, ls3, en, vd, hj, rfl, hRt3, hls3, HP4, HEL, HFw2, HTx2, HEd, HBr2, HPE⟩ := hrel
         have HRt4 : Hid (Rts W1 u4 ls3) := hRt3
         obtain ⟨al3, cl3, hvl3, hlc3, hcl3, _⟩ := hRt3.cell
         subst hvl3
         unfold maxLen at hcl3
         have HNo2 : Hid (No w wr) := HNo.out.below HBr2.out
         clear hRt3
         by_cases hjc : j < cE
         ·obtain ⟨k5, hk5⟩ : ∃ k, cE - j = k + 1 := ⟨cE - j - 1, by omega⟩
          rw [hk5] at HPE
          cases ls3 with
          | nil =>
           have HQ : Hid (RE = none) := by show _ = _; rw [← HPE.out]; rfl
           simp only [List.length_nil] at hlc3 HRt4 ⊢
           have HE : Hid (∀ wf, Below w.heap.size w wf → CF w (.returned (.tuple #[cfV noC (.slice none 0 0), .int .i64 4])) wf) := fun wf hBf => HRN.out (HFN.out (HEN.out (HQ.out))) wf hBf
           go_upto_region 22 with (fail)
           refine wp_abs (fun a0 => a0.tmps.size = 241 ∧ (∀ h, a0.tmps[2]'h = .pointer (some ⟨w.heap.size, 0, none⟩)) ∧ a0.defers = []) ⟨rfl, fun _ => rfl, rfl⟩ ?_
           rintro a0 ⟨hsz0, g2, hdf⟩ ha0
           clear ha0
           refine ret_no (d := 192) HNo2.out hsz0 g2 hdf (by decide) (by decide) (by decide) HE.out ?_
           intro a' wf h
           first | (rename_i hK; exact hK _ _ (wp_ret h)) | (rename_i hK hX; exact hK _ _ (wp_ret h))
          | cons p3 r4 =>
           obtain ⟨g4, off4, hag, c00⟩ := HRt4.out.at 0 p3 rfl
           subst hag
           rw [Nat.add_zero] at c00
           have d0 := kc (bsq HBf.out.bel HBr2.out) c00
           obtain ⟨hw2, hw5, hwb⟩ := HP4.out p3 (by simp)
           have hsz4 := str_size p3
           have hbt4 := get_bt (strOfNums p3)
           rw [List.length_cons] at hlc3 hls3 HRt4 ⊢
           obtain ⟨n4, hn4⟩ : ∃ n, r4.length = n := ⟨_, rfl⟩
           rw [hn4] at hlc3 hls3 HRt4 ⊢
           have HN4 : Hid (r4.length = n4) := hn4
           have hn40 : ((n4 : Int) + 1 == 0) = false := by rw [beq_eq_false_iff_ne]; omega
           clear hn4 c00
           by_cases h7 : p3.length = 7
           case neg =>
            have e7 : (((strOfNums p3).size : Int) != 7) = true := by rw [hsz4]; simpa using (show ¬ (p3.length : Int) = 7 by omega)
            have HQ : Hid (RE = none) := by show _ = _; rw [← HPE.out]; exact preE_none (by cases hb : isP p3 7 5; rfl; exact absurd ((isP_iff _ _ _).1 hb).1 h7)
            generalize strOfNums p3 = tz at *
            clear h7 hsz4
            have HE : Hid (∀ wf, Below w.heap.size w wf → CF w (.returned (.tuple #[cfV noC (.slice none 0 0), .int .i64 4])) wf) := fun wf hBf => HRN.out (HFN.out (HEN.out (HQ.out))) wf hBf
            go_upto_region 22 with (fail)
            refine wp_abs (fun a0 => a0.tmps.size = 241 ∧ (∀ h, a0.tmps[2]'h = .pointer (some ⟨w.heap.size, 0, none⟩)) ∧ a0.defers = []) ⟨rfl, fun _ => rfl, rfl⟩ ?_
            rintro a0 ⟨hsz0, g2, hdf⟩ ha0
            clear ha0
            refine ret_no (d := 192) HNo2.out hsz0 g2 hdf (by decide) (by decide) (by decide) HE.out ?_
            intro a' wf h
            first | (rename_i hK; exact hK _ _ (wp_ret h)) | (rename_i hK hX; exact hK _ _ (wp_ret h))
           have m1 := getD_bt p3 hwb 1 (by omega)
           by_cases h15 : bt (strOfNums p3) 1 = 5
           case neg =>
            have e15 : (bt (strOfNums p3) 1 != 5) = true := by simpa using h15
            have HQ : Hid (RE = none) := by show _ = _; rw [← HPE.out]; exact preE_none (by cases hb : isP p3 7 5; rfl; exact absurd (m1.trans ((isP_iff _ _ _).1 hb).2) h15)
            rw [h7] at hsz4
            generalize strOfNums p3 = tz at *
            clear h15 m1
            have HE : Hid (∀ wf, Below w.heap.size w wf → CF w (.returned (.tuple #[cfV noC (.slice none 0 0), .int .i64 4])) wf) := fun wf hBf => HRN.out (HFN.out (HEN.out (HQ.out))) wf hBf
            go_upto_region 22 with (fail)
            refine wp_abs (fun a0 => a0.tmps.size = 241 ∧ (∀ h, a0.tmps[2]'h = .pointer (some ⟨w.heap.size, 0, none⟩)) ∧ a0.defers = []) ⟨rfl, fun _ => rfl, rfl⟩ ?_
            rintro a0 ⟨hsz0, g2, hdf⟩ ha0
            clear ha0
            refine ret_no (d := 192) HNo2.out hsz0 g2 hdf (by decide) (by decide) (by decide) HE.out ?_
            intro a' wf h
            first | (rename_i hK; exact hK _ _ (wp_ret h)) | (rename_i hK hX; exact hK _ _ (wp_ret h))
           have HP5 : Hid (isP p3 7 5 = true) := (isP_iff _ _ _).2 ⟨h7, m1.symm.trans h15⟩
           have m2 := getD_bt p3 hwb 2 (by omega)
           have m3 := getD_bt p3 hwb 3 (by omega)
           have m4 := getD_bt p3 hwb 4 (by omega)
           have m5 := getD_bt p3 hwb 5 (by omega)
           have m6 := getD_bt p3 hwb 6 (by omega)
           have HEO : Hid (endO p3 = ⟨bt (strOfNums p3) 2 % 128, decide (128 ≤ bt (strOfNums p3) 2), bt (strOfNums p3) 3, bt (strOfNums p3) 4 + 256 * bt (strOfNums p3) 5, bt (strOfNums p3) 6⟩) := by
            show _ = _
            rw [m2, m3, m4, m5, m6]
            rfl
           rw [h7] at hsz4
           have HW4 : Hid (∀ u : World, Calls Tryz.prog 78 #[.string (strOfNums p3), .int .i64 4] u fun e w' => e = .returned (.int .i64 (bt (strOfNums p3) 4 + 256 * bt (strOfNums p3) 5)) ∧ ∃ q, w' = u.drewN q) := fun u => by
            have := wordAt_any (strOfNums p3) 4 u (by omega) (by rw [hsz4]; decide)
            rw [wd_at _ 4 (by omega)] at this
            exact this
           obtain ⟨a4, hsl4, ha4⟩ := rest_texts g4 off4 n4 cl3 hlc3
           have HRT5 : Hid (Rts W1 (.slice a4 n4 (cl3 - 1)) r4) := HRt4.out.tail ha4
           have HPE2 : Hid (preE (en ++ [endO p3]) (refEnds (cE - (j + 1)) r4) = RE) := by
            show _ = _
            rw [← HPE.out, show cE - (j + 1) = k5 by omega]
            exact (preE_some HP5.out).symm
           have HP6 : Hid (∀ p ∈ r4, 2 ≤ p.length ∧ p.length ≤ 512 ∧ Byt p) := fun q hq => HP4.out q (by simp [hq])
           have y2 := bt_nonneg (strOfNums p3) 2
           have y2' := bt_le (strOfNums p3) 2
           have y3 := bt_nonneg (strOfNums p3) 3
           have y3' := bt_le (strOfNums p3) 3
           have y6 := bt_nonneg (strOfNums p3) 6
           have y6' := bt_le (strOfNums p3) 6
           have e15 : (bt (strOfNums p3) 1 != 5) = false := by simpa using h15
           have w2' : IntKind.i64.wrap (bt (strOfNums p3) 2) = bt (strOfNums p3) 2 := by rw [IntKind.wrap_i64]; omega
           have w3' : IntKind.i64.wrap (bt (strOfNums p3) 3) = bt (strOfNums p3) 3 := by rw [IntKind.wrap_i64]; omega
           have w6' : IntKind.i64.wrap (bt (strOfNums p3) 6) = bt (strOfNums p3) 6 := by rw [IntKind.wrap_i64]; omega
           have hrem : Int.tmod (bt (strOfNums p3) 2) 128 = bt (strOfNums p3) 2 % 128 := Int.tmod_eq_emod_of_nonneg y2
           obtain ⟨avd, cvd, hvd, _, _⟩ := own_form HEd.out
           subst hvd
           rw [HEL.out] at HFw2 HEd
           obtain ⟨i1, hi1, hy0, hy1, hy2⟩ := info_parts infoE
           have p5 : wr.cell? ⟨wo.heap.size, 5, none⟩ = some (.slice avd j cvd) := (box6r HFw2.out).2.2.2.2.2
           clear m1 m2 m3 m4 m5 m6 h7 h15 hw2 hw5 hwb ha4
           generalize strOfNums p3 = tz at *
           go_wp2_with fail
           clear e15 hbt4 d0 hlc3 HW4
           have rem2 : IntKind.i64.wrap (bt tz 2 % 128) = bt tz 2 % 128 := by rw [IntKind.wrap_i64]; omega
           have hEd2 : Eds wr.drew.drew wo.heap.size (.slice avd j cvd) en := HEd.out
           have hTx2 : Txs wr.drew.drew wo.heap.size (.slice ave nx cve) ex := HTx2.out
           have hBl2 : Below wo.heap.size wo wr.drew.drew := HBr2.out.drew.drew
           have hFb2 : wr.drew.drew.heap[wo.heap.size]? = some (fbO ⟨qa, qb, qc, qd, [], []⟩ (.slice ave nx cve) (.slice avd j cvd)) := HFw2.out
           have hzw : wr.drew.drew.heap.size = wr.heap.size := rfl
           obtain ⟨wd2, hwd2⟩ : ∃ wd2, wr.drew.drew = wd2 := ⟨_, rfl⟩
           rw [hwd2] at hEd2 hTx2 hBl2 hFb2 hzw
           have hOW := World.ownsRow.alloc hEd2 (.cells #[.int .i64 (bt tz 2 % 128), .bool (decide (128 ≤ bt tz 2)), .int .i64 (bt tz 3), .int .i64 (bt tz 4 + 256 * bt tz 5), .int .i64 (bt tz 6)] 89)
           rw [HEL.out] at hOW
           obtain ⟨v7, w7, hr7, hown7, hgrow7, _⟩ := run_append_own (P := Tryz.prog) (wd2.alloc (.cells #[.int .i64 (bt tz 2 % 128), .bool (decide (128 ≤ bt tz 2)), .int .i64 (bt tz 3), .int .i64 (bt tz 4 + 256 * bt tz 5), .int .i64 (bt tz 6)] 89)) wo.heap.size 72 72 89 i1 _ 5 40 Tryz.underlying72 hi1 hy0 hy1 hy2 rfl (by omega) (.slice avd j cvd) j (ecells en) hOW ⟨wd2.heap.size, 0, none⟩ 1 1 [.int .i64 (bt tz 2 % 128), .bool (decide (128 ≤ bt tz 2)), .int .i64 (bt tz 3), .int .i64 (bt tz 4 + 256 * bt tz 5), .int .i64 (bt tz 6)] rfl (World.news_of_block (cs := #[.int .i64 (bt tz 2 % 128), .bool (decide (128 ≤ bt tz 2)), .int .i64 (bt tz 3), .int .i64 (bt tz 4 + 256 * bt tz 5), .int .i64 (bt tz 6)]) (t := 89) (fr := (0, 0)) (heap_alloc_new wd2 _)) (by simp [Value.oneCell']) (by unfold maxLen; omega) (by omega) (Nat.le_trans hBl2.size (balloc wd2 _).size)
           obtain ⟨a7, c7, hv7, _, hc7⟩ := own_form hown7
           subst hv7
           have hb7 := box_grow hOW (res_below hFb2 (balloc wd2 _)) (by decide) hgrow7
           have hT7 := World.ownsRow.kept (World.ownsRow.alloc hTx2 (.cells #[.int .i64 (bt tz 2 % 128), .bool (decide (128 ≤ bt tz 2)), .int .i64 (bt tz 3), .int .i64 (bt tz 4 + 256 * bt tz 5), .int .i64 (bt tz 6)] 89)) hgrow7 (kind_ne (World.ownsRow.alloc hTx2 (.cells #[.int .i64 (bt tz 2 % 128), .bool (decide (128 ≤ bt tz 2)), .int .i64 (bt tz 3), .int .i64 (bt tz 4 + 256 * bt tz 5), .int .i64 (bt tz 6)] 89)) hOW (by decide))
           have m4 : w7.cell? ⟨wo.heap.size, 5, none⟩ = some (.slice avd j cvd) := (box6r hb7).2.2.2.2.2
           have n4' : w7.frozen? ⟨wo.heap.size, 5, none⟩ = false := frozen_of_row w7 wo.heap.size 5 _ _ hb7
           have z4 : wo.heap.size < w7.heap.size := (Array.getElem?_eq_some_iff.1 hb7).1
           obtain ⟨w8, hw8⟩ : ∃ w8, w7.setCell ⟨wo.heap.size, 5, none⟩ (.slice a7 (j + 1) c7) = w8 := ⟨_, rfl⟩
           have t4 : Hid (Txs w8 wo.heap.size (.slice ave nx cve) ex) := by show Txs _ _ _ _; rw [← hw8]; exact ownsRow_setCell_other hT7 (box_ne hT7 hb7 (by decide)) _
           have t5 : Hid (Eds w8 wo.heap.size (.slice a7 (j + 1) c7) (en ++ [endO p3])) := by
            have h1 : Eds w7 wo.heap.size (.slice a7 (j + 1) c7) (en ++ [endO p3]) := by
                          unfold Eds
                          rw [List.length_append, HEL.out, ecells_append, HEO.out]
                          exact hown7
            show Eds _ _ _ _
            rw [← hw8]
            exact ownsRow_setCell_other h1 (box_ne h1 hb7 (by decide)) _
           have t6 : Hid (w8.heap[wo.heap.size]? = some (fbO ⟨qa, qb, qc, qd, [], []⟩ (.slice ave nx cve) (.slice a7 (j + 1) c7))) := by show _ = _; rw [← hw8]; exact csetX 5 _ hb7 rfl
           have t7 : Hid (Below wo.heap.size wo w8) := by show Below _ _ _; rw [← hw8]; exact ((bsq hBl2 (balloc wd2 _)).grown hgrow7 (Nat.le_trans hBl2.size (balloc wd2 _).size) (fun k hk => own_block hOW k hk)).setCell (Nat.le_refl _) _
           have x2 : ∀ W : World, (Instr.index 9 (.string tz) (.int .i64 2)).run Tryz.prog W = .ok (.int .u8 (bt tz 2)) W := run_ix tz 2 (by omega)
           have x3 : ∀ W : World, (Instr.index 9 (.string tz) (.int .i64 3)).run Tryz.prog W = .ok (.int .u8 (bt tz 3)) W := run_ix tz 3 (by omega)
           have x6 : ∀ W : World, (Instr.index 9 (.string tz) (.int .i64 6)).run Tryz.prog W = .ok (.int .u8 (bt tz 6)) W := run_ix tz 6 (by omega)
           have HWd : Hid (Calls Tryz.prog 78 #[.string tz, .int .i64 4] wr.drew fun e w' => e = .returned (.int .i64 (bt tz 4 + 256 * bt tz 5)) ∧ w' = wd2) := by
            rw [← hwd2]
            exact wordAt_drew tz wr.drew (by omega) (by rw [hsz4]; decide)
           have q5 : wd2.cell? ⟨wo.heap.size, 5, none⟩ = some (.slice avd j cvd) := (box6r hFb2).2.2.2.2.2
           have q5' : (wd2.alloc (.cells #[.int .i64 (bt tz 2 % 128), .bool (decide (128 ≤ bt tz 2)), .int .i64 (bt tz 3), .int .i64 (bt tz 4 + 256 * bt tz 5), .int .i64 (bt tz 6)] 89)).cell? ⟨wo.heap.size, 5, none⟩ = some (.slice avd j cvd) := kc (balloc wd2 _) q5
           have zq : wo.heap.size < wd2.heap.size := (Array.getElem?_eq_some_iff.1 hFb2).1
           have zr : wo.heap.size < wr.heap.size := by omega
           have zq' : wo.heap.size < (wd2.alloc (.cells #[.int .i64 (bt tz 2 % 128), .bool (decide (128 ≤ bt tz 2)), .int .i64 (bt tz 3), .int .i64 (bt tz 4 + 256 * bt tz 5), .int .i64 (bt tz 6)] 89)).heap.size := Nat.lt_of_lt_of_le zq (balloc wd2 _).size
           clear hown7 hgrow7 hb7 hT7 hOW hEd2 hTx2 hBl2 hFb2
           refine wp_abs (fun a0 => a0.tmps.size = 241 ∧ (∀ h, a0.tmps[9]'h = .pointer (some ⟨wo.heap.size, 0, none⟩)) ∧ (∀ h, a0.tmps[11]'h = .string tz) ∧ (∀ h, a0.tmps[4]'h = .slice (some ⟨g4, off4, none⟩) (n4 + 1) cl3)) ⟨rfl, fun _ => rfl, fun _ => rfl, fun _ => rfl⟩ ?_
           rintro a0 ⟨hsz0, g9, g11, g0⟩ ha0
           refine wp_region_L (SE wr.drew wd2 (wd2.alloc (.cells #[.int .i64 (bt tz 2 % 128), .bool (decide (128 ≤ bt tz 2)), .int .i64 (bt tz 3), .int .i64 (bt tz 4 + 256 * bt tz 5), .int .i64 (bt tz 6)] 89)) w7 w8) (by kernel_rfl) (by kernel_rfl) rfl ?_
           refine lexe_plain (.pointer (some ⟨wo.heap.size, 5, none⟩)) (by decide) rfl (fun W => by simp [execOp, go_sem, hsz0, g9, g11, g0]) ?_
           refine lexe_1 (.slice avd j cvd) rfl (by simp [execOp, go_sem, hsz0, p5, zr]) (by simp [execOp, go_sem, hsz0, q5, zq]) (by simp [execOp, go_sem, hsz0, q5', zq']) ?_
           refine lexe_plain (.string tz) (by decide) rfl (fun W => by simp [execOp, go_sem, hsz0, g9, g11, g0]) ?_
           refine lexe_plain (.int .u8 (bt tz 2)) (by decide) rfl (fun W => by simp [execOp, go_sem, hsz0, g9, g11, g0, x2]) ?_
           refine lexe_plain (.int .i64 (bt tz 2)) (by decide) rfl (fun W => by simp [execOp, go_sem, hsz0, g9, g11, g0, w2']) ?_
           refine lexe_plain (.int .i64 (bt tz 2 % 128)) (by decide) rfl (fun W => by simp [execOp, go_sem, hsz0, g9, g11, g0, hrem, rem2]) ?_
           refine lexe_plain (.string tz) (by decide) rfl (fun W => by simp [execOp, go_sem, hsz0, g9, g11, g0]) ?_
           refine lexe_plain (.int .u8 (bt tz 2)) (by decide) rfl (fun W => by simp [execOp, go_sem, hsz0, g9, g11, g0, x2]) ?_
           refine lexe_plain (.bool (decide (128 ≤ bt tz 2))) (by decide) rfl (fun W => by simp [execOp, go_sem, hsz0, g9, g11, g0]) ?_
           refine lexe_plain (.string tz) (by decide) rfl (fun W => by simp [execOp, go_sem, hsz0, g9, g11, g0]) ?_
           refine lexe_plain (.int .u8 (bt tz 3)) (by decide) rfl (fun W => by simp [execOp, go_sem, hsz0, g9, g11, g0, x3]) ?_
           refine lexe_plain (.int .i64 (bt tz 3)) (by decide) rfl (fun W => by simp [execOp, go_sem, hsz0, g9, g11, g0, w3']) ?_
           refine lexe_plain (.string tz) (by decide) rfl (fun W => by simp [execOp, go_sem, hsz0, g9, g11, g0]) ?_
           refine lexe_13 (.int .i64 (bt tz 4 + 256 * bt tz 5)) 78 #[.string tz, .int .i64 4] rfl (fun W => by simp [execOp, go_sem, hsz0]) HWd.out ?_
           refine lexe_plain (.string tz) (by decide) rfl (fun W => by simp [execOp, go_sem, hsz0, g9, g11, g0]) ?_
           refine lexe_plain (.int .u8 (bt tz 6)) (by decide) rfl (fun W => by simp [execOp, go_sem, hsz0, g9, g11, g0, x6]) ?_
           refine lexe_plain (.int .i64 (bt tz 6)) (by decide) rfl (fun W => by simp [execOp, go_sem, hsz0, g9, g11, g0, w6']) ?_
           refine lexe_17 (.agg #[.int .i64 (bt tz 2 % 128), .bool (decide (128 ≤ bt tz 2)), .int .i64 (bt tz 3), .int .i64 (bt tz 4 + 256 * bt tz 5), .int .i64 (bt tz 6)]) rfl (by kernel_rfl) (fun W => by simp [execOp, go_sem, hsz0]) ?_
           refine lexe_18 (.slice (some ⟨wd2.heap.size, 0, none⟩) 1 1) rfl (by kernel_rfl) (by simp [execOp, go_sem, hsz0]) ?_
           refine lexe_19 (.slice a7 (j + 1) c7) rfl (by kernel_rfl) (by kernel_rfl) (append_run rfl (by simp [Act.eval, Act.put, hsz0]) (by simp [Act.eval, Act.put, hsz0]) hr7) ?_
           refine lexe_plain (.slice (some ⟨g4, off4, none⟩) (n4 + 1) cl3) (by decide) rfl (fun W => by simp [execOp, go_sem, hsz0, g9, g11, g0]) ?_
           refine lexe_plain (.slice a4 n4 (cl3 - 1)) (by decide) rfl (fun W => by simp [execOp, go_sem, hsz0, g9, g11, g0, hsl4]) ?_
           refine lexe_plain (.pointer (some ⟨wo.heap.size, 5, none⟩)) (by decide) rfl (fun W => by simp [execOp, go_sem, hsz0, g9, g11, g0]) ?_
           refine lexe_23 rfl (by kernel_rfl) (by simp [execOp, go_sem, hsz0, m4, n4', z4, hw8]) ?_
           refine lexe_plain (.slice a4 n4 (cl3 - 1)) (by decide) rfl (fun W => by simp [execOp, go_sem, hsz0, g9, g11, g0]) ?_
           intro w' hw'
           have hs2 : some w8 = some w' := hw'
           injection hs2 with hs2
           subst hs2
           subst ha0
           clear hw' hsz0 g9 g11 g0 hr7 hw8 m4 n4' z4 x2 x3 x6 q5 q5' zq zq' zr hzw hwd2 p5 hsl4
           go_simp
           go_wp2
           go_roundw
           case rel => exact ⟨j + 1, r4, en ++ [endO p3], _, by omega, by go_num, HRT5.out, by rw [HN4.out]; omega, HP6, by (show _ = _; rw [List.length_append, HEL.out]; rfl), t6, t4, t5, t7, HPE2⟩
           case measure => simp [intOf]; omega
         ·have HRS : Hid (RE = some (en, ls3)) := by
           show _ = _
           rw [← HPE.out, show cE - j = 0 by omega, refEnds]
           simp [preE]
          obtain ⟨avd, cvd, hvd, _, _⟩ := own_form HEd.out
          subst hvd
          have hf5 := HBf.out.below HBr2.out
          have hT5 : Txs wr W1.heap.size (.slice ave nx cve) ex := own_mono HTx2.out HBf.out.bel.size
          have hE5 : Eds wr W1.heap.size (.slice avd en.length cvd) en := own_mono HEd.out HBf.out.bel.size
          rw [HEL.out] at HFw2 hE5
          obtain ⟨ab, cb, hvb, _, hcb⟩ := own_form hf5.row
          rw [HLI.out] at hvb
          subst hvb
          obtain ⟨r0, r1, r2', r3', r4', r5⟩ := box6r HFw2.out
          obtain ⟨⟨hzB, _, _, _, _, s4⟩, _⟩ := box5f hf5.box
          have H5 : Hid (Bf W1 wr W1.heap.size va na atr po (.slice ab i cb) L' ∧ Txs wr W1.heap.size (.slice ave nx cve) ex ∧ Eds wr W1.heap.size (.slice avd j cvd) en) := ⟨hf5, hT5, hE5⟩
          have HXB : Hid (BB ex ∧ ∀ x ∈ ex, x.length ≤ maxLen) := ⟨HBX.out.1, fun x hx => Nat.le_trans (HBX.out.2 x hx) (by decide)⟩
          have HNE : Hid (preF ((L' ++ [((⟨qa, qb, qc, qd, ex, en⟩ : Fc), Value.slice ave nx cve, Value.slice avd j cvd)]).map Prod.fst) (refFaces (cnt - (i + 1)) ((i + 1 : Nat) : Int) ls3) = RF) := by
           show _ = _
           rw [List.map_append, show cnt - (i + 1) = k by omega]
           exact HEY.out en ls3 HRS.out
          obtain ⟨i1, hi1, hy0, hy1, hy2⟩ := info_parts infoF
          clear hf5 hT5 hE5
          go_wp2_with
           (at_builtin
            refine wpList_append_own _ rfl _ _ 24 rfl W1.heap.size 74 i1 _ 6 80 Tryz.underlying24 hi1 hy0 hy1 hy2 rfl (by omega) _ i (fcells L') rfl (by have := World.ownsRow.alloc H5.out.1.row (.cells #[.int .i64 qa, .int .i64 qb, .int .i64 qc, .int .i64 qd, .slice ave nx cve, .slice avd j cvd] 74); rw [HLI.out] at this; exact this)
                         ⟨wr.heap.size, 0, none⟩ 1 1 (fcell (⟨qa, qb, qc, qd, ex, en⟩, .slice ave nx cve, .slice avd j cvd)) rfl rfl (World.news_of_block (cs := #[.int .i64 qa, .int .i64 qb, .int .i64 qc, .int .i64 qd, .slice ave nx cve, .slice avd j cvd]) (t := 74) (fr := (0, 0)) (heap_alloc_new wr _)) (by simp [fcell, Value.oneCell']) (by unfold maxLen; omega) (by omega) (Nat.le_trans H5.out.1.bel.size (balloc wr _).size) ?_
            intro v6 w6 q1 q2 _
            obtain ⟨a6, c6, rfl, _, hc6⟩ := own_form q1
            have hbx := res_grow (World.ownsRow.alloc H5.out.1.row _) (res_below H5.out.1.box (balloc wr _)) (by decide) q2
            obtain ⟨⟨hz6, _, _, _, _, s6⟩, _, _, _, _, g6⟩ := box5f hbx
            have HN6 : Hid (Bf W1 (w6.setCell ⟨W1.heap.size, 4, none⟩ (.slice a6 (i + 1) c6)) W1.heap.size va na atr po (.slice a6 (i + 1) c6) (L' ++ [(⟨qa, qb, qc, qd, ex, en⟩, .slice ave nx cve, .slice avd j cvd)])) :=
                         Bf.add (H5.out.1.below (balloc wr _)) (own_below H5.out.2.1 (balloc wr _)) (own_below H5.out.2.2 (balloc wr _)) HXB.out (by rw [HLI.out]; exact q1) q2
            clear q1 q2 hbx)
          exact ⟨⟨i + 1, ls3, _, _, by omega, by go_num, HRt4.out, hls3, HP4, HN6.out, by rw [List.length_append, HLI.out]; rfl, HNE⟩, by simp [intOf]; omega⟩
end Go.Proofs.YtonheibhbilhhaaGreat.desc
