/- a region that draws its order, of which every world is known; what WordAt answers, to the draw. -/
import Derived.Test.YtilfenijbbhfjaaQuietM
import Derived.Test.YtilfenijbbhfjaaDescDc
namespace Go.Proofs.Ytilfenijbbhfjaa.desc
open Go.RowKit Go.PlainAid Go.Proofs.Ytilfenijbbhfjaa.lane
set_option linter.unusedVariables false
set_option linter.unusedSimpArgs false

section
variable {P : Program} {md : Region.Mode} {ops : Array Oper}
theorem lexk_plain {K : World → Prop} {Q : Array Bool → Act → Prop} {k : Nat} {o : Oper} {rest : List Oper} {L : Array Bool} {a : Act} (v : Value) (hg : o.guard = none)
    (hrun : ∀ W, (execOp a.eval o).run P W = .ok (.value v) W) (h : wpLex P md ops (fun _ => K) Q (k + 1) rest (L.setIfInBounds k true) (a.put o.dst v)) : wpLex P md ops (fun _ => K) Q k (o :: rest) L a :=
  lexg v hg (fun L W _ hC => by rw [hrun W]; exact ⟨hC, rfl⟩) h
/-- the world of the listed: 1 a load, 13 a call, 17 a build, 18 a new row, 19 an append, 23 a store -/
def stE (w0 w1 w2 w3 w4 : World) (L : Array Bool) : Option World :=
  if L.getD 23 false then (if L.getD 19 false && (L.getD 18 false && (L.getD 17 false && (L.getD 13 false && L.getD 1 false))) then some w4 else none)
  else if L.getD 19 false then (if L.getD 18 false && (L.getD 17 false && (L.getD 13 false && L.getD 1 false)) then some w3 else none)
  else if L.getD 18 false then (if L.getD 17 false && L.getD 13 false then some w2 else none)
  else if L.getD 17 false then (if L.getD 13 false then some w1 else none)
  else if L.getD 13 false then some w1 else some w0
variable {w0 w1 w2 w3 w4 : World} {L : Array Bool} {W : World}
theorem stE_plain (k : Nat) (h1 : k ≠ 1) (h13 : k ≠ 13) (h17 : k ≠ 17) (h18 : k ≠ 18) (h19 : k ≠ 19) (h23 : k ≠ 23) : stE w0 w1 w2 w3 w4 (L.setIfInBounds k true) = stE w0 w1 w2 w3 w4 L := by
  unfold stE
  rw [getD_set_ne false h1, getD_set_ne false h13, getD_set_ne false h17, getD_set_ne false h18, getD_set_ne false h19, getD_set_ne false h23]
theorem stE_1 (h : stE w0 w1 w2 w3 w4 L = some W) (hz : 1 < L.size) (h1 : L.getD 1 false = false) : (W = w0 ∨ W = w1 ∨ W = w2) ∧ stE w0 w1 w2 w3 w4 (L.setIfInBounds 1 true) = some W := by
  unfold stE at h ⊢
  rw [set_same hz, getD_set_ne false (show (1 : Nat) ≠ 13 by decide), getD_set_ne false (show (1 : Nat) ≠ 17 by decide), getD_set_ne false (show (1 : Nat) ≠ 18 by decide), getD_set_ne false (show (1 : Nat) ≠ 19 by decide), getD_set_ne false (show (1 : Nat) ≠ 23 by decide)]
  rw [h1] at h
  generalize L.getD 13 false = a at *
  generalize L.getD 17 false = b at *
  generalize L.getD 18 false = c at *
  generalize L.getD 19 false = d at *
  generalize L.getD 23 false = e at *
  cases a <;> cases b <;> cases c <;> cases d <;> cases e <;> simp at h ⊢ <;> simp [h]
theorem stE_13 (h : stE w0 w1 w2 w3 w4 L = some W) (hz : 13 < L.size) (h1 : L.getD 13 false = false) : W = w0 ∧ stE w0 w1 w2 w3 w4 (L.setIfInBounds 13 true) = some w1 := by
  unfold stE at h ⊢
  rw [set_same hz, getD_set_ne false (show (13 : Nat) ≠ 1 by decide), getD_set_ne false (show (13 : Nat) ≠ 17 by decide), getD_set_ne false (show (13 : Nat) ≠ 18 by decide), getD_set_ne false (show (13 : Nat) ≠ 19 by decide), getD_set_ne false (show (13 : Nat) ≠ 23 by decide)]
  rw [h1] at h
  generalize L.getD 1 false = a at *
  generalize L.getD 17 false = b at *
  generalize L.getD 18 false = c at *
  generalize L.getD 19 false = d at *
  generalize L.getD 23 false = e at *
  cases a <;> cases b <;> cases c <;> cases d <;> cases e <;> simp at h ⊢ <;> simp [h]
theorem stE_17 (h : stE w0 w1 w2 w3 w4 L = some W) (hz : 17 < L.size) (h1 : L.getD 17 false = false) (h2 : L.getD 13 false = true) : stE w0 w1 w2 w3 w4 (L.setIfInBounds 17 true) = some W := by
  unfold stE at h ⊢
  rw [set_same hz, getD_set_ne false (show (17 : Nat) ≠ 1 by decide), getD_set_ne false (show (17 : Nat) ≠ 13 by decide), getD_set_ne false (show (17 : Nat) ≠ 18 by decide), getD_set_ne false (show (17 : Nat) ≠ 19 by decide), getD_set_ne false (show (17 : Nat) ≠ 23 by decide), h2]
  rw [h1, h2] at h
  generalize L.getD 1 false = a at *
  generalize L.getD 18 false = c at *
  generalize L.getD 19 false = d at *
  generalize L.getD 23 false = e at *
  cases a <;> cases c <;> cases d <;> cases e <;> simp at h ⊢ <;> simp [h]
theorem stE_18 (h : stE w0 w1 w2 w3 w4 L = some W) (hz : 18 < L.size) (h1 : L.getD 18 false = false) (h2 : L.getD 17 false = true) : W = w1 ∧ stE w0 w1 w2 w3 w4 (L.setIfInBounds 18 true) = some w2 := by
  unfold stE at h ⊢
  rw [set_same hz, getD_set_ne false (show (18 : Nat) ≠ 1 by decide), getD_set_ne false (show (18 : Nat) ≠ 13 by decide), getD_set_ne false (show (18 : Nat) ≠ 17 by decide), getD_set_ne false (show (18 : Nat) ≠ 19 by decide), getD_set_ne false (show (18 : Nat) ≠ 23 by decide), h2]
  rw [h1, h2] at h
  generalize L.getD 1 false = a at *
  generalize L.getD 13 false = c at *
  generalize L.getD 19 false = d at *
  generalize L.getD 23 false = e at *
  cases a <;> cases c <;> cases d <;> cases e <;> simp at h ⊢ <;> simp [h]
theorem stE_19 (h : stE w0 w1 w2 w3 w4 L = some W) (hz : 19 < L.size) (h1 : L.getD 19 false = false) (h2 : L.getD 18 false = true) (h3 : L.getD 1 false = true) : W = w2 ∧ stE w0 w1 w2 w3 w4 (L.setIfInBounds 19 true) = some w3 := by
  unfold stE at h ⊢
  rw [set_same hz, getD_set_ne false (show (19 : Nat) ≠ 1 by decide), getD_set_ne false (show (19 : Nat) ≠ 13 by decide), getD_set_ne false (show (19 : Nat) ≠ 17 by decide), getD_set_ne false (show (19 : Nat) ≠ 18 by decide), getD_set_ne false (show (19 : Nat) ≠ 23 by decide), h2, h3]
  rw [h1, h2, h3] at h
  generalize L.getD 13 false = c at *
  generalize L.getD 17 false = d at *
  generalize L.getD 23 false = e at *
  cases c <;> cases d <;> cases e <;> simp at h ⊢ <;> simp [h]
theorem stE_23 (h : stE w0 w1 w2 w3 w4 L = some W) (hz : 23 < L.size) (h1 : L.getD 23 false = false) (h2 : L.getD 19 false = true) : W = w3 ∧ stE w0 w1 w2 w3 w4 (L.setIfInBounds 23 true) = some w4 := by
  unfold stE at h ⊢
  rw [set_same hz, getD_set_ne false (show (23 : Nat) ≠ 1 by decide), getD_set_ne false (show (23 : Nat) ≠ 13 by decide), getD_set_ne false (show (23 : Nat) ≠ 17 by decide), getD_set_ne false (show (23 : Nat) ≠ 18 by decide), getD_set_ne false (show (23 : Nat) ≠ 19 by decide), h2]
  rw [h1, h2] at h
  generalize L.getD 1 false = a at *
  generalize L.getD 13 false = c at *
  generalize L.getD 17 false = d at *
  generalize L.getD 18 false = e at *
  cases a <;> cases c <;> cases d <;> cases e <;> simp at h ⊢ <;> simp [h]
/-- worlds by what has come up -/
def SE (w0 w1 w2 w3 w4 : World) : Array Bool → World → Prop := fun L w => stE w0 w1 w2 w3 w4 L = some w
/-- an operation that is the same in every world -/
theorem lexe_plain {Q : Array Bool → Act → Prop} {k : Nat} {o : Oper} {rest : List Oper} {a : Act} (v : Value) (hk : k ≠ 1 ∧ k ≠ 13 ∧ k ≠ 17 ∧ k ≠ 18 ∧ k ≠ 19 ∧ k ≠ 23) (hg : o.guard = none)
    (hrun : ∀ W, (execOp a.eval o).run P W = .ok (.value v) W) (h : wpLex P md ops (SE w0 w1 w2 w3 w4) Q (k + 1) rest (L.setIfInBounds k true) (a.put o.dst v)) : wpLex P md ops (SE w0 w1 w2 w3 w4) Q k (o :: rest) L a :=
  lexg v hg (fun L W _ hC => by rw [hrun W]; exact ⟨(stE_plain k hk.1 hk.2.1 hk.2.2.1 hk.2.2.2.1 hk.2.2.2.2.1 hk.2.2.2.2.2).trans hC, rfl⟩) h
theorem append_run {o : Oper} {a : Act} {x y : Operand} {t : TypeId} {v u r : Value} {w w' : World} (ho : o.op = .call { callee := .builtin .append, args := #[x, y], argTypes := #[t, t] }) (hx : a.eval x = v) (hy : a.eval y = u)
    (hr : (Builtin.append_ #[t, t] o.type #[v, u]).run P w = .ok r w') : (execOp a.eval o).run P w = .ok (.value r) w' := by
  unfold execOp
  simp only [ho, resolve, invoke, builtin, Sem.run_bind, Sem.run_pure, Result.andThen_ok, List.map_toArray, List.map_cons, List.map_nil, hx, hy, hr]
section
variable {Q : Array Bool → Act → Prop} {o : Oper} {rest : List Oper} {a : Act} {L : Array Bool}
theorem lexe_1 (v : Value) (hg : o.guard = none) (r0 : (execOp a.eval o).run P w0 = .ok (.value v) w0) (r1 : (execOp a.eval o).run P w1 = .ok (.value v) w1) (r2 : (execOp a.eval o).run P w2 = .ok (.value v) w2)
    (h : wpLex P md ops (SE w0 w1 w2 w3 w4) Q 2 rest (L.setIfInBounds 1 true) (a.put o.dst v)) : wpLex P md ops (SE w0 w1 w2 w3 w4) Q 1 (o :: rest) L a :=
  lexg v hg (fun L W hr hC => by
    obtain ⟨h1, hz⟩ := rdy_at hr
    obtain ⟨hW, hs⟩ := stE_1 hC hz h1
    have e : (execOp a.eval o).run P W = .ok (.value v) W := by rcases hW with rfl | rfl | rfl <;> assumption
    rw [e]
    exact ⟨hs, rfl⟩) h
theorem lexe_13 (v : Value) (f : FuncId) (args : Array Value) (hg : o.guard = none) (hrun : ∀ W, (execOp a.eval o).run P W = .ok (.enter f args) W) (hc : Calls P f args w0 fun e w' => e = .returned v ∧ w' = w1)
    (h : wpLex P md ops (SE w0 w1 w2 w3 w4) Q 14 rest (L.setIfInBounds 13 true) (a.put o.dst v)) : wpLex P md ops (SE w0 w1 w2 w3 w4) Q 13 (o :: rest) L a :=
  lexg v hg (fun L W hr hC => by
    obtain ⟨h1, hz⟩ := rdy_at hr
    obtain ⟨rfl, hs⟩ := stE_13 hC hz h1
    rw [hrun W]
    refine ⟨rfl, hc.mono fun e w' ⟨he, hw⟩ => ⟨he, ?_⟩⟩
    rw [hw]
    exact hs) h
theorem lexe_17 (v : Value) (hg : o.guard = none) (hw : Region.waitsFor md ops 17 13 = true) (hrun : ∀ W, (execOp a.eval o).run P W = .ok (.value v) W)
    (h : wpLex P md ops (SE w0 w1 w2 w3 w4) Q 18 rest (L.setIfInBounds 17 true) (a.put o.dst v)) : wpLex P md ops (SE w0 w1 w2 w3 w4) Q 17 (o :: rest) L a :=
  lexg v hg (fun L W hr hC => by
    obtain ⟨h1, hz⟩ := rdy_at hr
    rw [hrun W]
    exact ⟨stE_17 hC hz h1 (rdy_after hr hw), rfl⟩) h
theorem lexe_18 (v : Value) (hg : o.guard = none) (hw : Region.waitsFor md ops 18 17 = true) (hrun : (execOp a.eval o).run P w1 = .ok (.value v) w2)
    (h : wpLex P md ops (SE w0 w1 w2 w3 w4) Q 19 rest (L.setIfInBounds 18 true) (a.put o.dst v)) : wpLex P md ops (SE w0 w1 w2 w3 w4) Q 18 (o :: rest) L a :=
  lexg v hg (fun L W hr hC => by
    obtain ⟨h1, hz⟩ := rdy_at hr
    obtain ⟨rfl, hs⟩ := stE_18 hC hz h1 (rdy_after hr hw)
    rw [hrun]
    exact ⟨hs, rfl⟩) h
theorem lexe_19 (v : Value) (hg : o.guard = none) (hw : Region.waitsFor md ops 19 18 = true) (hw' : Region.waitsFor md ops 19 1 = true) (hrun : (execOp a.eval o).run P w2 = .ok (.value v) w3)
    (h : wpLex P md ops (SE w0 w1 w2 w3 w4) Q 20 rest (L.setIfInBounds 19 true) (a.put o.dst v)) : wpLex P md ops (SE w0 w1 w2 w3 w4) Q 19 (o :: rest) L a :=
  lexg v hg (fun L W hr hC => by
    obtain ⟨h1, hz⟩ := rdy_at hr
    obtain ⟨rfl, hs⟩ := stE_19 hC hz h1 (rdy_after hr hw) (rdy_after hr hw')
    rw [hrun]
    exact ⟨hs, rfl⟩) h
theorem lexe_23 (hg : o.guard = none) (hw : Region.waitsFor md ops 23 19 = true) (hrun : (execOp a.eval o).run P w3 = .ok .skip w4)
    (h : wpLex P md ops (SE w0 w1 w2 w3 w4) Q 24 rest (L.setIfInBounds 23 true) (a.put o.dst undef)) : wpLex P md ops (SE w0 w1 w2 w3 w4) Q 23 (o :: rest) L a :=
  lexg undef hg (fun L W hr hC => by
    obtain ⟨h1, hz⟩ := rdy_at hr
    obtain ⟨rfl, hs⟩ := stE_23 hC hz h1 (rdy_after hr hw)
    rw [hrun]
    exact ⟨hs, rfl⟩) h
end
end
set_option maxHeartbeats 1000000 in
theorem wordAt_drew (s : ByteArray) (w : World) (h5 : 5 < s.size) (hs : s.size ≤ maxLen) :
    Calls Try.prog 34 #[.string s, .int .i64 4] w fun e w' => e = .returned (.int .i64 (bt s 4 + 256 * bt s 5)) ∧ w' = w.drew := by
  unfold maxLen at hs
  have x0 : ∀ W : World, (Instr.index 9 (.string s) (.int .i64 4)).run Try.prog W = .ok (.int .u8 (bt s 4)) W := run_ix s 4 (by omega)
  have x1 : ∀ W : World, (Instr.index 9 (.string s) (.int .i64 5)).run Try.prog W = .ok (.int .u8 (bt s 5)) W := run_ix s 5 (by omega)
  have b0 := bt_nonneg s 4
  have b1 := bt_le s 4
  have c0 := bt_nonneg s 5
  have c1 := bt_le s 5
  have m0 : IntKind.i64.wrap (bt s 4) = bt s 4 := by rw [IntKind.wrap_i64]; omega
  have m1 : IntKind.i64.wrap (bt s 5) = bt s 5 := by rw [IntKind.wrap_i64]; omega
  have n2 : IntKind.i64.wrap (256 * bt s 5) = 256 * bt s 5 := by rw [IntKind.wrap_i64]; omega
  have n3 : IntKind.i64.wrap (256 * bt s 5 + bt s 4) = 256 * bt s 5 + bt s 4 := by rw [IntKind.wrap_i64]; omega
  have o2 : wrap64 (256 * bt s 5) = 256 * bt s 5 := by unfold wrap64; omega
  have o3 : wrap64 (256 * bt s 5 + bt s 4) = 256 * bt s 5 + bt s 4 := by unfold wrap64; omega
  have n5 : IntKind.i64.wrap 5 = 5 := by decide
  have HN : Hid (256 * bt s 5 + bt s 4 = bt s 4 + 256 * bt s 5) := Int.add_comm _ _
  generalize bt s 4 + 256 * bt s 5 = N at *
  generalize bt s 5 = y at *
  generalize bt s 4 = x at *
  go_enter Try.func34, Try.ntmps34
  go_wp2_with fail
  refine wp_region_L (fun _ w' => w' = w.drew) (by kernel_rfl) (by kernel_rfl) rfl ?_
  refine lexk_plain (.string s) rfl (fun W => by simp [execOp, go_sem]) ?_
  refine lexk_plain (.int .i64 4) rfl (fun W => by simp [execOp, go_sem]) ?_
  refine lexk_plain (.int .i64 5) rfl (fun W => by simp [execOp, go_sem, n5]) ?_
  refine lexk_plain (.int .u8 y) rfl (fun W => by simp [execOp, go_sem, x1]) ?_
  refine lexk_plain (.int .i64 y) rfl (fun W => by simp [execOp, go_sem, m1]) ?_
  refine lexk_plain (.int .i64 (256 * y)) rfl (fun W => by simp [execOp, go_sem, n2, o2]) ?_
  refine lexk_plain (.string s) rfl (fun W => by simp [execOp, go_sem]) ?_
  refine lexk_plain (.int .i64 4) rfl (fun W => by simp [execOp, go_sem]) ?_
  refine lexk_plain (.int .u8 x) rfl (fun W => by simp [execOp, go_sem, x0]) ?_
  refine lexk_plain (.int .i64 x) rfl (fun W => by simp [execOp, go_sem, m0]) ?_
  refine lexk_plain (.int .i64 (256 * y + x)) rfl (fun W => by simp [execOp, go_sem, n3, o3]) ?_
  refine lexk_plain (.int .i64 (256 * y + x)) rfl (fun W => by simp [execOp, go_sem]) ?_
  intro w' hw'
  subst hw'
  clear x0 x1
  go_simp
  go_wp2
  go_ret
  rw [HN.out]
  exact ⟨rfl, rfl⟩
end Go.Proofs.Ytilfenijbbhfjaa.desc
