/- a region that draws its order, in worlds that are known by which operations have come up: one walk of the text's order serves every order. -/
import Derived.Deep.QuietTactic
import Derived.BigQuiet
import Derived.Test.YtonheibhbilhhaaZAc
namespace Go.Proofs.Ytonheibhbilhhaa.desc
open Go
set_option linter.unusedVariables false

section
variable {P : Program} {md : Region.Mode} {ops : Array Oper} {C : Array Bool → World → Prop}

/-- what is asked once an operation has yielded this -/
def rUpon (P : Program) (C' : World → Prop) (W : World) (v : Value) : Result Next → Prop
  | .ok (.value u) w' => C' w' ∧ u = v
  | .ok .skip w' => C' w' ∧ v = undef
  | .ok (.enter f args) w' => w' = W ∧ Calls P f args W (fun e w'' => e = .returned v ∧ C' w'')
  | _ => False
/-- operation i yields v wherever it may come up -/
def YL (P : Program) (md : Region.Mode) (ops : Array Oper) (C : Array Bool → World → Prop) (i : Nat) (o : Oper) (v : Value) (a : Act) : Prop :=
  Region.wanted o (yielded ops a.tmps) = true ∧ ∀ L w, i ∈ Region.ready md ops L → C L w → rUpon P (C (L.setIfInBounds i true)) w v ((execOp a.eval o).run P w)
def qL (P : Program) (md : Region.Mode) (ops : Array Oper) (C : Array Bool → World → Prop) (i : Nat) (K : Act → Prop) (a : Act) : Prop :=
  ∃ o v, ops[i]? = some o ∧ YL P md ops C i o v a ∧ K (a.put o.dst v)
theorem qL_mono {i : Nat} {a : Act} {K K' : Act → Prop} (h : ∀ a, K a → K' a) (hh : qL P md ops C i K a) : qL P md ops C i K' a := by
  obtain ⟨o, v, h1, h2, h3⟩ := hh
  exact ⟨o, v, h1, h2, h _ h3⟩
def wpAnyL (P : Program) (md : Region.Mode) (ops : Array Oper) (C : Array Bool → World → Prop) (Q : Array Bool → Act → Prop) : Nat → Array Bool → Act → Prop
  | 0, listed, a => Region.ready md ops listed = [] ∧ Q listed a
  | fuel + 1, listed, a =>
    (Region.ready md ops listed = [] → Q listed a) ∧
    ∀ i ∈ Region.ready md ops listed, qL P md ops C i (wpAnyL P md ops C Q fuel (listed.setIfInBounds i true)) a
theorem wpOp_of_qL {i : Nat} {a : Act} {K : Act → Prop} {K' : Act → World → Prop} {Q' : Exit → Act → World → Prop} {w : World} {listed : Array Bool} (hr : i ∈ Region.ready md ops listed) (hC : C listed w) (h : ∀ a w', C (listed.setIfInBounds i true) w' → K a → K' a w') (hh : qL P md ops C i K a) : wpOp P ops Q' i K' a w := by
  obtain ⟨o, v, ho, ⟨hw, hy⟩, hk⟩ := hh
  unfold wpOp
  simp only [ho, hw, if_true]
  left
  have h3 := hy listed w hr hC
  unfold Oper.wp
  generalize (execOp a.eval o).run P w = r at *
  cases r with
  | ok n w' =>
    cases n <;> simp only [rUpon] at h3 <;> simp only [Oper.upon]
    case value u =>
      obtain ⟨e1, e2⟩ := h3
      rw [e2]
      exact h _ _ e1 hk
    case skip =>
      obtain ⟨e1, e2⟩ := h3
      rw [← e2]
      exact h _ _ e1 hk
    case enter f args =>
      obtain ⟨e1, hc⟩ := h3
      rw [e1]
      exact hc.mono fun e w'' ⟨he, hw''⟩ => by subst he; exact h _ _ hw'' hk
  | halt x w' => simp only [rUpon] at h3
theorem wpAny_of_L {Q : Array Bool → Act → Prop} {Q' : Exit → Act → World → Prop} (hQ : ∀ L a w, C L w → Q L a → Q' .normal a w) : ∀ (fuel : Nat) (listed : Array Bool) (a : Act) (w : World), C listed w →
    wpAnyL P md ops C Q fuel listed a → wpAny P md ops Q' fuel listed a w
  | 0, _, _, _, hw, h => ⟨h.1, hQ _ _ _ hw h.2⟩
  | fuel + 1, _, _, _, hw, h => ⟨fun h0 => hQ _ _ _ hw (h.1 h0), fun i hi => wpOp_of_qL hi hw (fun a' w' hw' => wpAny_of_L hQ fuel _ a' w' hw') (h.2 i hi)⟩
theorem YL.of_same {i : Nat} {o : Oper} {v : Value} {a a' : Act} (hy : YL P md ops C i o v a) (he : execOp a'.eval o = execOp a.eval o)
    (hw : Region.wanted o (yielded ops a'.tmps) = Region.wanted o (yielded ops a.tmps)) : YL P md ops C i o v a' := by
  unfold YL at *
  rw [he, hw]
  exact hy
theorem qL_put {i j : Nat} {oi oj : Oper} {v : Value} (hj : ops[j]? = some oj) (hap : oi.apart ops oj = true)
    (hsi : ∀ cs b, oi.op ≠ .select cs b) (hsj : ∀ cs b, oj.op ≠ .select cs b) {K : Act → Prop} {a : Act}
    (hy : YL P md ops C i oi v a) (h : qL P md ops C j K (a.put oi.dst v)) :
    qL P md ops C j (fun a' => YL P md ops C i oi v a' ∧ K (a'.put oi.dst v)) a := by
  obtain ⟨h1, h2, h3⟩ := Oper.apart_spec hap
  obtain ⟨o, u, ho, hyj, hk⟩ := h
  rw [hj] at ho
  injection ho with ho
  subst ho
  refine ⟨oj, u, hj, hyj.of_same (execOp_put oj hsj a oi.dst v h1).symm (wanted_put oj a oi.dst v h1).symm, hy.of_same (execOp_put oi hsi a oj.dst u h3) (wanted_put oi a oj.dst u h3), ?_⟩
  rw [← Act.put_comm a v u h2]
  exact hk
theorem wpAnyL_first {Q : Array Bool → Act → Prop} {i : Nat} {oi : Oper} {v : Value} (hi : ops[i]? = some oi) (hsel : ∀ (j : Nat) (o : Oper) cs b, ops[j]? = some o → o.op ≠ .select cs b) :
    ∀ (fuel : Nat) (listed : Array Bool) (a : Act),
      (∀ j oj, ops[j]? = some oj → j ≠ i → listed.getD j true = false → (∀ e ∈ oj.after, Region.binds md e = true → e.on ≠ i) → oi.apart ops oj = true) →
      i ∈ Region.ready md ops listed → YL P md ops C i oi v a →
      wpAnyL P md ops C Q fuel (listed.setIfInBounds i true) (a.put oi.dst v) → wpAnyL P md ops C Q (fuel + 1) listed a := by
  intro fuel
  induction fuel with
  | zero =>
    intro listed a _ hr hy H
    refine ⟨fun h => (by rw [h] at hr; cases hr), fun j hj => ?_⟩
    by_cases hji : j = i
    · subst hji; exact ⟨oi, v, hi, hy, H⟩
    · have := ready_mono hj hji
      rw [H.1] at this
      cases this
  | succ fuel ih =>
    intro listed a hfree hr hy H
    refine ⟨fun h => (by rw [h] at hr; cases hr), fun j hj => ?_⟩
    by_cases hji : j = i
    · subst hji; exact ⟨oi, v, hi, hy, H⟩
    · have h1 := H.2 j (ready_mono hj hji)
      obtain ⟨hjun, oj, hoj, hall⟩ := mem_ready.1 hj
      have hnot : ∀ e ∈ oj.after, Region.binds md e = true → e.on ≠ i := fun e he hb heq => by
        have h1 := hall e he hb
        have h0 := (mem_ready.1 hr).1
        rw [heq] at h1
        rcases Nat.lt_or_ge i listed.size with h' | h'
        · simp [h'] at h0 h1; rw [h0] at h1; cases h1
        · simp [Array.getElem?_eq_none h'] at h1
      have h2 := qL_put hoj (hfree j oj hoj hji hjun hnot) (fun cs b => hsel i oi cs b hi) (fun cs b => hsel j oj cs b hoj) hy h1
      have hfree' : ∀ k ok, ops[k]? = some ok → k ≠ i → (listed.setIfInBounds j true).getD k true = false →
          (∀ e ∈ ok.after, Region.binds md e = true → e.on ≠ i) → oi.apart ops ok = true := fun k ok hk hki hun hno => by
        refine hfree k ok hk hki ?_ hno
        by_cases hjk : j = k
        · subst hjk; exact hjun
        · rw [getD_set_ne true hjk] at hun; exact hun
      refine qL_mono (fun a' h3 => ih (listed.setIfInBounds j true) a' hfree' (ready_mono hr (Ne.symm hji)) h3.1 ?_) h2
      rw [Array.setIfInBounds_comm _ _ hji]
      exact h3.2
/-- the walk in the text's order -/
def wpLex (P : Program) (md : Region.Mode) (ops : Array Oper) (C : Array Bool → World → Prop) (Q : Array Bool → Act → Prop) : Nat → List Oper → Array Bool → Act → Prop
  | _, [], L, a => Q L a
  | k, o :: rest, L, a => ∃ v, YL P md ops C k o v a ∧ wpLex P md ops C Q (k + 1) rest (L.setIfInBounds k true) (a.put o.dst v)
theorem wpAnyL_lex {Q : Array Bool → Act → Prop} (hs : Region.noSelect ops = true) : ∀ (l : List Oper) (k : Nat) (listed : Array Bool) (a : Act), (∀ j, l[j]? = ops[k + j]?) →
    Region.lexFrom md ops l.length k listed = true → wpLex P md ops C Q k l listed a → wpAnyL P md ops C Q l.length listed a
  | [], _, _, _, _, hB, h => ⟨by simpa [Region.lexFrom] using hB, h⟩
  | o :: l, k, listed, a, hl, hB, h => by
    have h0 : ops[k]? = some o := by simpa using (hl 0).symm
    simp only [List.length_cons, Region.lexFrom, Bool.and_eq_true] at hB
    obtain ⟨⟨hr, hf⟩, hB'⟩ := hB
    obtain ⟨v, hy, hK⟩ := h
    exact wpAnyL_first h0 (Region.noSelect_spec hs) l.length listed a (Region.free_spec h0 hf) (by simpa using hr) hy
      (wpAnyL_lex hs l (k + 1) _ _ (fun j => by have := hl (j + 1); simpa [Nat.add_assoc, Nat.add_comm 1 j] using this) hB' hK)
theorem wp_region_L {id : Nat} {Q : Exit → Act → World → Prop} {a : Act} {w : World} {l : List Oper} (C : Array Bool → World → Prop) (hm : P.follows .mixedOrders = true) (hB : Region.lexB .any l.toArray = true) (hC : C (Array.replicate l.toArray.size false) w.drew)
    (h : wpLex P .any l.toArray C (fun L a' => ∀ w', C L w' → Q .normal a' w') 0 l (Array.replicate l.toArray.size false) a) : (Code.region id l.toArray true).wp P Q a w := by
  simp only [Region.lexB, Bool.and_eq_true] at hB
  refine wp_region_any hm (wpAny_of_L (Q := fun L a' => ∀ w', C L w' → Q .normal a' w') (fun _ _ w' hw' h => h w' hw') _ _ _ _ hC ?_)
  have := wpAnyL_lex (C := C) (md := .any) hB.1 l 0 (Array.replicate l.toArray.size false) a (by simp) (by simpa using hB.2) h
  simpa using this
/-- worlds by what has come up: the world of the listed, after some draws -/
def St (st : Array Bool → Option World) : Array Bool → World → Prop := fun L w => ∃ W n, st L = some W ∧ w = W.drewN n
/-- an operation that is the same in every world -/
theorem lex_plain {st : Array Bool → Option World} {Q : Array Bool → Act → Prop} {k : Nat} {o : Oper} {rest : List Oper} {L : Array Bool} {a : Act} (v : Value) (hst : ∀ L, st (L.setIfInBounds k true) = st L) (hg : o.guard = none)
    (hrun : ∀ W, (execOp a.eval o).run P W = .ok (.value v) W) (h : wpLex P md ops (St st) Q (k + 1) rest (L.setIfInBounds k true) (a.put o.dst v)) : wpLex P md ops (St st) Q k (o :: rest) L a := by
  refine ⟨v, ⟨by simp [Region.wanted, hg], fun L w _ hw => ?_⟩, h⟩
  obtain ⟨W, n, h1, rfl⟩ := hw
  rw [hrun]
  exact ⟨⟨W, n, by rw [hst]; exact h1, rfl⟩, rfl⟩
/-- a call that only draws -/
theorem lex_call {st : Array Bool → Option World} {Q : Array Bool → Act → Prop} {k : Nat} {o : Oper} {rest : List Oper} {L : Array Bool} {a : Act} (v : Value) (f : FuncId) (args : Array Value) (hst : ∀ L, st (L.setIfInBounds k true) = st L) (hg : o.guard = none)
    (hrun : ∀ W, (execOp a.eval o).run P W = .ok (.enter f args) W) (hc : ∀ W : World, Calls P f args W fun e w' => e = .returned v ∧ ∃ q, w' = W.drewN q)
    (h : wpLex P md ops (St st) Q (k + 1) rest (L.setIfInBounds k true) (a.put o.dst v)) : wpLex P md ops (St st) Q k (o :: rest) L a := by
  refine ⟨v, ⟨by simp [Region.wanted, hg], fun L w _ hw => ?_⟩, h⟩
  obtain ⟨W, n, h1, rfl⟩ := hw
  rw [hrun]
  refine ⟨rfl, (hc _).mono fun e w' ⟨he, q, hq⟩ => ⟨he, W, n + q, by rw [hst]; exact h1, by rw [hq, World.drewN_drewN]⟩⟩
/-- an operation that makes another world of the one that stands there -/
theorem lex_turn {st : Array Bool → Option World} {Q : Array Bool → Act → Prop} {k : Nat} {o : Oper} {rest : List Oper} {L : Array Bool} {a : Act} (v : Value) (hg : o.guard = none)
    (hrun : ∀ L W n, k ∈ Region.ready md ops L → st L = some W → ∃ W', st (L.setIfInBounds k true) = some W' ∧ ((execOp a.eval o).run P (W.drewN n) = .ok (.value v) (W'.drewN n) ∨ (execOp a.eval o).run P (W.drewN n) = .ok .skip (W'.drewN n) ∧ v = undef))
    (h : wpLex P md ops (St st) Q (k + 1) rest (L.setIfInBounds k true) (a.put o.dst v)) : wpLex P md ops (St st) Q k (o :: rest) L a := by
  refine ⟨v, ⟨by simp [Region.wanted, hg], fun L w hr hw => ?_⟩, h⟩
  obtain ⟨W, n, h1, rfl⟩ := hw
  obtain ⟨W', h2, h3⟩ := hrun L W n hr h1
  rcases h3 with h3 | ⟨h3, h4⟩
  · rw [h3]; exact ⟨⟨W', n, h2, rfl⟩, rfl⟩
  · rw [h3]; exact ⟨⟨W', n, h2, rfl⟩, h4⟩
end
theorem set_drewN (W : World) (n : Nat) (a : Addr) (v : Value) : (W.drewN n).setCell a v = (W.setCell a v).drewN n := rfl
theorem alloc_drewN (W : World) (n : Nat) (o : Obj) : (W.drewN n).alloc o = (W.alloc o).drewN n := rfl
end Go.Proofs.Ytonheibhbilhhaa.desc

/- a region that draws its order, in worlds of one class: whatever came up, nothing that lay there has changed. -/
namespace Go.Proofs.Ytonheibhbilhhaa.desc
open Go Go.RowKit
set_option linter.unusedVariables false

section
variable {P : Program} {md : Region.Mode} {ops : Array Oper} {C : Array Bool → World → Prop}
/-- worlds behind W0 in which all of W0 lies as it lay -/
def Cb (W0 : World) : Array Bool → World → Prop := fun _ w => Below W0.heap.size W0 w
theorem lexg {Q : Array Bool → Act → Prop} {k : Nat} {o : Oper} {rest : List Oper} {L : Array Bool} {a : Act} (v : Value) (hg : o.guard = none)
    (hrun : ∀ L W, k ∈ Region.ready md ops L → C L W → rUpon P (C (L.setIfInBounds k true)) W v ((execOp a.eval o).run P W))
    (h : wpLex P md ops C Q (k + 1) rest (L.setIfInBounds k true) (a.put o.dst v)) : wpLex P md ops C Q k (o :: rest) L a :=
  ⟨v, ⟨by simp [Region.wanted, hg], fun L W hr hC => hrun L W hr hC⟩, h⟩
theorem lexb_plain {W0 : World} {Q : Array Bool → Act → Prop} {k : Nat} {o : Oper} {rest : List Oper} {L : Array Bool} {a : Act} (v : Value) (hg : o.guard = none)
    (hrun : ∀ W, Below W0.heap.size W0 W → (execOp a.eval o).run P W = .ok (.value v) W) (h : wpLex P md ops (Cb W0) Q (k + 1) rest (L.setIfInBounds k true) (a.put o.dst v)) : wpLex P md ops (Cb W0) Q k (o :: rest) L a :=
  lexg v hg (fun L W _ hC => by rw [hrun W hC]; exact ⟨hC, rfl⟩) h
theorem lexb_call {W0 : World} {Q : Array Bool → Act → Prop} {k : Nat} {o : Oper} {rest : List Oper} {L : Array Bool} {a : Act} (v : Value) (f : FuncId) (args : Array Value) (hg : o.guard = none)
    (hrun : ∀ W, Below W0.heap.size W0 W → (execOp a.eval o).run P W = .ok (.enter f args) W) (hc : ∀ W : World, Below W0.heap.size W0 W → Calls P f args W fun e w' => e = .returned v ∧ Below W.heap.size W w')
    (h : wpLex P md ops (Cb W0) Q (k + 1) rest (L.setIfInBounds k true) (a.put o.dst v)) : wpLex P md ops (Cb W0) Q k (o :: rest) L a :=
  lexg v hg (fun L W _ hC => by
    rw [hrun W hC]
    exact ⟨rfl, (hc W hC).mono fun e w' ⟨he, hb⟩ => ⟨he, hC.trans (hb.mono hC.size)⟩⟩) h
end
/-- a frame is known by some of its slots -/
theorem wp_abs {P : Program} {c : Code} {Q : Exit → Act → World → Prop} {a : Act} {w : World} (H : Act → Prop) (ha : H a) (h : ∀ a0, H a0 → a0 = a → c.wp P Q a0 w) : c.wp P Q a w := h a ha rfl
theorem put_size (a : Act) (d : Option Nat) (v : Value) : (a.put d v).tmps.size = a.tmps.size := by
  cases d <;> simp [Act.put]
theorem eval_here (a : Act) (d : Nat) (v : Value) (h : d < a.tmps.size) : (a.put (some d) v).eval (.tmp d) = v := by
  simp [Act.put, Act.eval, h]
theorem eval_away (a : Act) (d j : Nat) (v : Value) (h : d ≠ j) : (a.put (some d) v).eval (.tmp j) = a.eval (.tmp j) := by
  simp [Act.put, Act.eval, Array.getElem?_setIfInBounds_ne h]
theorem eval_none (a : Act) (v : Value) (x : Operand) : (a.put none v).eval x = a.eval x := rfl
theorem eval_const (a : Act) (v : Value) : a.eval (.const v) = v := rfl
theorem eval_func (a : Act) (f : FuncId) : a.eval (.func f) = .func (.func f) #[] #[] := rfl
end Go.Proofs.Ytonheibhbilhhaa.desc
