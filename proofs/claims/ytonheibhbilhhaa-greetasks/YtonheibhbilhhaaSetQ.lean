/- a region that draws its order, in worlds of one class: whatever came up, nothing that lay there has changed. -/
import Derived.Test.YtonheibhbilhhaaZAg
import Derived.Test.YtonheibhbilhhaaZAj
namespace Go.Proofs.Ytonheibhbilhhaa.setup
open Go Go.RowKit Go.Proofs.Ytonheibhbilhhaa.desc
set_option linter.unusedVariables false

section
variable {P : Program} {md : Region.Mode} {ops : Array Oper} {C : Array Bool → World → Prop}
/-- worlds behind W0 in which all of W0 lies as it lay -/
def Cb (W0 : World) : Array Bool → World → Prop := fun _ w => Below W0.heap.size W0 w
theorem lexg {Q : Array Bool → Act → Prop} {k : Nat} {o : Oper} {rest : List Oper} {L : Array Bool} {a : Act} (v : Value) (hg : o.guard = none)
    (hrun : ∀ L W, k ∈ Region.ready md ops L → C L W → rUpon P (C (L.setIfInBounds k true)) W v ((execOp a.eval o).run P W))
    (h : wpLex P md ops C Q (k + 1) rest (L.setIfInBounds k true) (a.put o.dst v)) : wpLex P md ops C Q k (o :: rest) L a :=
  ⟨v, ⟨by simp [Region.wanted, hg], fun L W hr hC => hrun L W hr hC⟩, h⟩
theorem lexb_plain {W0 : World} {Q : Array Bool → Act → Prop} {k : Nat} {o : Oper} {rest : List Oper} {L : Array Bool} {a : Act} (v : Value) (hg : o.guard = none)
    (hrun : ∀ W, Below W0.heap.size W0 W → (execOp a.eval o).run P W = .ok (.value v) W) (h : wpLex P md ops (Cb W0) Q (k + 1) rest (L.setIfInBounds k true) (a.put o.dst v)) : wpLex P md ops (Cb W0) Q k (o :: rest) L a :=
  lexg v hg (fun L W _ hC => by rw [hrun W hC]; exact ⟨hC, rfl⟩) h
theorem lexb_call {W0 : World} {Q : Array Bool → Act → Prop} {k : Nat} {o : Oper} {rest : List Oper} {L : Array Bool} {a : Act} (v : Value) (f : FuncId) (args : Array Value) (hg : o.guard = none)
    (hrun : ∀ W, Below W0.heap.size W0 W → (execOp a.eval o).run P W = .ok (.enter f args) W) (hc : ∀ W : World, Below W0.heap.size W0 W → Calls P f args W fun e w' => e = .returned v ∧ Below W.heap.size W w')
    (h : wpLex P md ops (Cb W0) Q (k + 1) rest (L.setIfInBounds k true) (a.put o.dst v)) : wpLex P md ops (Cb W0) Q k (o :: rest) L a :=
  lexg v hg (fun L W _ hC => by
    rw [hrun W hC]
    exact ⟨rfl, (hc W hC).mono fun e w' ⟨he, hb⟩ => ⟨he, hC.trans (hb.mono hC.size)⟩⟩) h
end
/-- a frame is known by some of its slots -/
theorem wp_abs {P : Program} {c : Code} {Q : Exit → Act → World → Prop} {a : Act} {w : World} (H : Act → Prop) (ha : H a) (h : ∀ a0, H a0 → a0 = a → c.wp P Q a0 w) : c.wp P Q a w := h a ha rfl
theorem put_size (a : Act) (d : Option Nat) (v : Value) : (a.put d v).tmps.size = a.tmps.size := by
  cases d <;> simp [Act.put]
theorem eval_here (a : Act) (d : Nat) (v : Value) (h : d < a.tmps.size) : (a.put (some d) v).eval (.tmp d) = v := by
  simp [Act.put, Act.eval, h]
theorem eval_away (a : Act) (d j : Nat) (v : Value) (h : d ≠ j) : (a.put (some d) v).eval (.tmp j) = a.eval (.tmp j) := by
  simp [Act.put, Act.eval, Array.getElem?_setIfInBounds_ne h]
theorem eval_none (a : Act) (v : Value) (x : Operand) : (a.put none v).eval x = a.eval x := rfl
theorem eval_const (a : Act) (v : Value) : a.eval (.const v) = v := rfl
theorem eval_func (a : Act) (f : FuncId) : a.eval (.func f) = .func (.func f) #[] #[] := rfl
end Go.Proofs.Ytonheibhbilhhaa.setup
