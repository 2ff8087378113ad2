/- plugref: Move and Judged; == of moves, verdicts, statuses, wraps. -/
import Derived.Test.YtecknicmonhcaabDoorBulF
import Derived.Laws.StructEq
import Derived.Laws.Externs
namespace Go.Proofs.YtecknicmonhcaabDoor.bulk
open Go Go.RowKit Go.PlainAid Go.Proofs.YtecknicmonhcaabDoor.lane Go.Proofs.YtecknicmonhcaabDoor.pipe Go.Proofs.YtecknicmonhcaabDoor.strike
set_option linter.unusedVariables false
set_option linter.unusedSimpArgs false
set_option maxRecDepth 100000

/-- structs that are compared -/
structure Eqs (t : TypeId) (l m : List Value) (b : Bool) : Prop where
  guard : Tryd.prog.eqGuardType Tryd.prog.depth t = false
  eq : ∀ w : World, (Op.equalIn 10000 t (ag l) (ag m)).run Tryd.prog w = .ok b w
def sameM (x y : Mv) : Bool := x.dir == y.dir && x.len == y.len
def sameV (x y : Vd) : Bool := x.cas == y.cas && (x.moved == y.moved && (x.res == y.res && x.code == y.code))
def sameS (x y : Sp) : Bool := x.tag == y.tag && (x.res == y.res && x.code == y.code)
def sameW (x y : Wp) : Bool := x.tag == y.tag && (x.len == y.len && (x.inn == y.inn && (x.unit == y.unit && x.cmd.toList == y.cmd.toList)))
theorem und_m : Tryd.prog.underlying 48 = some (.struct (Tryd.prog.fieldsOf 48)) := by kernel_rfl
theorem und_v : Tryd.prog.underlying 44 = some (.struct (Tryd.prog.fieldsOf 44)) := by kernel_rfl
theorem und_s : Tryd.prog.underlying 36 = some (.struct (Tryd.prog.fieldsOf 36)) := by kernel_rfl
theorem und_w : Tryd.prog.underlying 31 = some (.struct (Tryd.prog.fieldsOf 31)) := by kernel_rfl
theorem eqs_move (x y : Mv) : Eqs 48 (mvl x) (mvl y) (sameM x y) := ⟨by kernel_rfl, fun w => by
  unfold ag mvl
  rw [run_equalIn_struct w 9999 48 _ _ und_m (by kernel_rfl)]
  simp [go_sem]
  unfold sameM
  by_cases h1 : x.dir = y.dir <;> by_cases h2 : x.len = y.len <;> simp [h1, h2]⟩
theorem eqs_verdict (x y : Vd) : Eqs 44 (vdl x) (vdl y) (sameV x y) := ⟨by kernel_rfl, fun w => by
  unfold ag vdl
  rw [run_equalIn_struct w 9999 44 _ _ und_v (by kernel_rfl)]
  simp [go_sem]
  unfold sameV
  by_cases h1 : x.cas = y.cas <;> by_cases h2 : x.moved = y.moved <;> by_cases h3 : x.res = y.res <;> by_cases h4 : x.code = y.code <;> simp [h1, h2, h3, h4]⟩
theorem eqs_status (x y : Sp) : Eqs 36 (spl x) (spl y) (sameS x y) := ⟨by kernel_rfl, fun w => by
  unfold ag spl
  rw [run_equalIn_struct w 9999 36 _ _ und_s (by kernel_rfl)]
  simp [go_sem]
  unfold sameS
  by_cases h1 : x.tag = y.tag <;> by_cases h2 : x.res = y.res <;> by_cases h3 : x.code = y.code <;> simp [h1, h2, h3]⟩
theorem eqs_wrap (x y : Wp) : Eqs 31 (wpl x) (wpl y) (sameW x y) := ⟨by kernel_rfl, fun w => by
  unfold ag wpl
  rw [run_equalIn_struct w 9999 31 _ _ und_w (by kernel_rfl)]
  simp [go_sem]
  unfold sameW
  by_cases h1 : x.tag = y.tag <;> by_cases h2 : x.len = y.len <;> by_cases h3 : x.inn = y.inn <;> by_cases h4 : x.unit = y.unit <;> by_cases h5 : x.cmd.toList = y.cmd.toList <;> simp [h1, h2, h3, h4, h5]⟩
theorem ex_eqs {o : Oper} {a : Act} {W : World} {t ty : TypeId} {x y : Operand} (ho : o.op = .binOp .eql t x y ty) {l m : List Value} {b : Bool} (hx : a.eval x = ag l) (hy : a.eval y = ag m) (he : Eqs t l m b) :
    (execOp a.eval o).run Tryd.prog W = .ok (.value (.bool b)) W := by
  have h := he.eq W
  unfold execOp
  unfold ag at *
  simp only [ho, hx, hy, Sem.run_bind, run_eqGuard_agg W _ _ _ _ _ _ he.guard, Result.andThen_ok, run_eql_struct, h, Sem.run_pure]
theorem ex_neqst {o : Oper} {a : Act} {W : World} {t ty : TypeId} {x y : Operand} (ho : o.op = .binOp .neq t x y ty) {l m : List Value} {b : Bool} (hx : a.eval x = ag l) (hy : a.eval y = ag m) (he : Eqs t l m b) :
    (execOp a.eval o).run Tryd.prog W = .ok (.value (.bool (!b))) W := by
  have h := he.eq W
  unfold execOp
  unfold ag at *
  simp only [ho, hx, hy, Sem.run_bind, run_eqGuard_agg W _ _ _ _ _ _ he.guard, Result.andThen_ok, run_neq_struct, h, Sem.run_pure]
section
variable {ops : Array Oper} {rest : List Oper} {o : Oper} {a : Act} {w : World} {Q : Exit → Act → World → Prop} {t ty : TypeId} {x y : Operand} {l m : List Value} {b : Bool}
theorem v_eqs (hgd : Region.wanted o (yielded ops a.tmps) = true) (ho : o.op = .binOp .eql t x y ty) (he : Eqs t l m b) (hx : a.eval x = ag l) (hy : a.eval y = ag m)
    (h : wpList Tryd.prog ops Q rest (a.put o.dst (.bool b)) w) : wpList Tryd.prog ops Q (o :: rest) a w := by
  refine wpList_step fun K hK' => ?_
  rw [if_pos hgd]
  unfold Oper.wp
  rw [ex_eqs ho hx hy he]
  exact hK' _ _ h
theorem v_neqst (hgd : Region.wanted o (yielded ops a.tmps) = true) (ho : o.op = .binOp .neq t x y ty) (he : Eqs t l m b) (hx : a.eval x = ag l) (hy : a.eval y = ag m)
    (h : wpList Tryd.prog ops Q rest (a.put o.dst (.bool (!b))) w) : wpList Tryd.prog ops Q (o :: rest) a w := by
  refine wpList_step fun K hK' => ?_
  rw [if_pos hgd]
  unfold Oper.wp
  rw [ex_neqst ho hx hy he]
  exact hK' _ _ h
end
theorem eqs_v (x : Vd) : Eqs 44 (vdl x) (vdl x) true := by have := eqs_verdict x x; rwa [show sameV x x = true by simp [sameV]] at this
theorem eqs_s (x : Sp) : Eqs 36 (spl x) (spl x) true := by have := eqs_status x x; rwa [show sameS x x = true by simp [sameS]] at this
theorem eqs_w (x : Wp) : Eqs 31 (wpl x) (wpl x) true := by have := eqs_wrap x x; rwa [show sameW x x = true by simp [sameW]] at this
end Go.Proofs.YtecknicmonhcaabDoor.bulk
