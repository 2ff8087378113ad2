/- slots: == of rows in a region that draws. -/
import Derived.Test.YtfhlbndilkidhaaSltQ
namespace Go.Proofs.Ytfhlbndilkidhaa.slots
open Go Go.RowKit
set_option linter.unusedVariables false
set_option linter.unusedSimpArgs false
set_option maxRecDepth 100000

theorem ex_eql {o : Oper} {a : Act} {W : World} {t ty : TypeId} {x y : Operand} (ho : o.op = .binOp .eql t x y ty) {n : Nat} (hc : Cmp t n) {l m : List Int} (hx : a.eval x = ag l) (hy : a.eval y = ag m) (h1 : l.length = n) (h2 : m.length = n) :
    (execOp a.eval o).run Try.prog W = .ok (.value (.bool (decide (l = m)))) W := by
  have hr := (run_cmp hc h1 h2 x y W).1
  rw [Sem.run_bind] at hr
  unfold execOp
  simp only [ho, hx, hy, Sem.run_bind, hr, Result.andThen_ok, Sem.run_pure]
theorem ex_neq {o : Oper} {a : Act} {W : World} {t ty : TypeId} {x y : Operand} (ho : o.op = .binOp .neq t x y ty) {n : Nat} (hc : Cmp t n) {l m : List Int} (hx : a.eval x = ag l) (hy : a.eval y = ag m) (h1 : l.length = n) (h2 : m.length = n) :
    (execOp a.eval o).run Try.prog W = .ok (.value (.bool (!decide (l = m)))) W := by
  have hr := (run_cmp hc h1 h2 x y W).2
  rw [Sem.run_bind] at hr
  unfold execOp
  simp only [ho, hx, hy, Sem.run_bind, hr, Result.andThen_ok, Sem.run_pure]
end Go.Proofs.Ytfhlbndilkidhaa.slots
