/- GreetWell: what the walk needs. -/
import Derived.Test.YtonheibhbilhhaaGreL
import Derived.Test.YtonheibhbilhhaaGreO
import Derived.Test.YtonheibhbilhhaaGreP
import Derived.Test.YtonheibhbilhhaaDescCo
import Derived.Test.YtonheibhbilhhaaRegK
namespace Go.Proofs.Ytonheibhbilhhaa.greetWell
open Go Go.RowKit Go.PlainAid Go.Proofs.Ytonheibhbilhhaa.lane Go.Proofs.Ytonheibhbilhhaa.desc Go.Proofs.Ytonheibhbilhhaa.greet Go.Proofs.Ytonheibhbilhhaa.gadget
set_option linter.unusedVariables false
set_option linter.unusedSimpArgs false
set_option maxRecDepth 100000

theorem ex_sam {o : Oper} {a : Act} {W : World} {t ty : TypeId} {x y : Operand} (ho : o.op = .binOp .eql t x y ty) {l : List Value} (hc : Sam t l) (hx : a.eval x = ag l) (hy : a.eval y = ag l) : (execOp a.eval o).run Try.prog W = .ok (.value (.bool true)) W := by
  have hr := run_sam hc x y W
  rw [Sem.run_bind] at hr
  unfold execOp
  simp only [ho, hx, hy, Sem.run_bind, hr, Result.andThen_ok, Sem.run_pure]
theorem ex_build {o : Oper} {a : Act} {W : World} {t : TypeId} {ps : Array (Nat × Operand)} (ho : o.op = .build t ps) {vs : Array (Nat × Value)} {v : Value} (hb : ∀ w, (Instr.build t vs).run Try.prog w = .ok v w) (hv : ps.map (fun q => (q.1, a.eval q.2)) = vs) : (execOp a.eval o).run Try.prog W = .ok (.value v) W := by
  subst hv
  unfold execOp
  simp only [ho, Sem.run_bind, hb, Result.andThen_ok, Sem.run_pure]
theorem ex_cell {o : Oper} {a : Act} {W : World} {t : TypeId} {x : Operand} (ho : o.op = .load t x) {p : Addr} {v : Value} (hx : a.eval x = .pointer (some p)) (hc : W.cell? p = some v) (ht : Lod t) : (execOp a.eval o).run Try.prog W = .ok (.value v) W := by
  have hs := ht.ld W p v hc
  unfold execOp
  simp only [ho, hx, Sem.run_bind, hs, Result.andThen_ok, Sem.run_pure]
theorem at_drop {F : List Int} {k : Nat} {f : Int} (h : F[k]? = some f) : F.drop k = f :: F.drop (k + 1) := by
  obtain ⟨h1, h2⟩ := List.getElem?_eq_some_iff.1 h
  rw [List.drop_eq_getElem_cons h1, h2]
/-- how far the fates are counted -/
structure Ct (F : List Int) (k row good : Nat) : Prop where
  few : fewB row (F.drop k) = fewB 0 F
  sum : good + gds (F.drop k) = gds F
theorem Ct.good {F : List Int} {k row good : Nat} (h : Ct F k row good) (hf : F[k]? = some 1) : Ct F (k + 1) 0 (good + 1) := by
  have e := at_drop hf
  have h1 := h.few
  have h2 := h.sum
  rw [e] at h1 h2
  rw [fewB, if_pos rfl] at h1
  rw [gds, if_pos rfl] at h2
  exact ⟨h1, by omega⟩
theorem Ct.bad {F : List Int} {k row good : Nat} {f : Int} (h : Ct F k row good) (hf : F[k]? = some f) (h1 : f ≠ 1) (hr : row < 2) : Ct F (k + 1) (row + 1) good := by
  have e := at_drop hf
  have q1 := h.few
  have q2 := h.sum
  rw [e] at q1 q2
  rw [fewB, if_neg h1, if_neg (by omega)] at q1
  rw [gds, if_neg h1] at q2
  exact ⟨q1, by omega⟩
theorem Ct.end {F : List Int} {k row good : Nat} (h : Ct F k row good) (hk : F.length ≤ k) : fewB 0 F = true ∧ good = gds F := by
  have h1 := h.few
  have h2 := h.sum
  rw [List.drop_eq_nil_of_le hk] at h1 h2
  exact ⟨h1.symm, h2⟩
end Go.Proofs.Ytonheibhbilhhaa.greetWell
