/- regions that draw their order: a condition on the world that holds until an operation of E has come up (a store into what was read). No program is named here. -/
import Derived.OrdersHeld
import Derived.RegionTactic
import Derived.WalkKit
import Derived.Test.YtonheibhbilhhaaGreatZGa
import Derived.Deep.CutRange
import Derived.Test.YtonheibhbilhhaaGreatDescZ
import Derived.Test.YtonheibhbilhhaaGreatZAc
import Derived.Test.YtonheibhbilhhaaGreatZBb
import Derived.Test.YtonheibhbilhhaaGreatZBc
namespace Go.Proofs.YtonheibhbilhhaaGreat.reg
open Go
set_option linter.unusedVariables false
set_option linter.unusedSimpArgs false
section
variable {P : Program} {md : Region.Mode} {ops : Array Oper} {Q : Exit → Act → World → Prop} {S : World → Prop} {E : Nat → Bool}
def wpAnyE (P : Program) (md : Region.Mode) (ops : Array Oper) (Q : Exit → Act → World → Prop) (S : World → Prop) (E : Nat → Bool) : Nat → Array Bool → Act → World → Prop
 | 0, listed, a, w => Region.ready md ops listed = [] ∧ Q .normal a w
 | fuel + 1, listed, a, w =>
  (Region.ready md ops listed = [] → Q .normal a w) ∧
  ∀ i ∈ Region.ready md ops listed, wpOp P ops Q i (fun a' w' => if E i = true then wpAny P md ops Q fuel (listed.setIfInBounds i true) a' w' else S w' ∧ wpAnyE P md ops Q S E fuel (listed.setIfInBounds i true) a' w') a w
theorem any_of_E : ∀ (fuel : Nat) (listed : Array Bool) (a : Act) (w : World), wpAnyE P md ops Q S E fuel listed a w → wpAny P md ops Q fuel listed a w
 | 0, _, _, _, h => h
 | fuel + 1, _, _, _, h => ⟨h.1, fun i hi => wpOp_mono (fun a' w' h' => by
   by_cases e : E i = true
   ·rw [if_pos e] at h'; exact h'
   ·rw [if_neg e] at h'; exact any_of_E fuel _ a' w' h'.2) (h.2 i hi)⟩
theorem E_first {i : Nat} {oi : Oper} {v : Value} (hi : ops[i]? = some oi) (hEi : E i = false) (hsel : ∀ (j : Nat) (o : Oper) cs b, ops[j]? = some o → o.op ≠ .select cs b)
  (hQ : ∀ c a w, Q (.panic c) (a.put oi.dst v) w → Q (.panic c) a w) (hE : ∀ j oj, ops[j]? = some oj → E j = true → ∃ e ∈ oj.after, Region.binds md e = true ∧ e.on = i) :
  ∀ (fuel : Nat) (listed : Array Bool) (a : Act) (w : World),
   (∀ j oj, ops[j]? = some oj → j ≠ i → listed.getD j true = false → (∀ e ∈ oj.after, Region.binds md e = true → e.on ≠ i) → oi.apart ops oj = true) →
   i ∈ Region.ready md ops listed → YieldsIf P ops S oi v a → S w →
   wpAnyE P md ops Q S E fuel (listed.setIfInBounds i true) (a.put oi.dst v) w → wpAnyE P md ops Q S E (fuel + 1) listed a w := by
 intro fuel
 induction fuel with
 | zero =>
  intro listed a w _ hr hy hS H
  refine ⟨fun h => (by rw [h] at hr; cases hr), fun j hj => ?_⟩
  by_cases hji : j = i
  ·subst hji
   rw [hEi]
   exact hy.wpOp hi hS ⟨hS, H⟩
  ·have := ready_mono hj hji
   rw [H.1] at this
   cases this
 | succ fuel ih =>
  intro listed a w hfree hr hy hS H
  refine ⟨fun h => (by rw [h] at hr; cases hr), fun j hj => ?_⟩
  by_cases hji : j = i
  ·subst hji
   rw [hEi]
   exact hy.wpOp hi hS ⟨hS, H⟩
  ·have h1 := H.2 j (ready_mono hj hji)
   obtain ⟨hjun, oj, hoj, hall⟩ := mem_ready.1 hj
   have hnot : ∀ e ∈ oj.after, Region.binds md e = true → e.on ≠ i := fun e he hb heq => by
    have h1 := hall e he hb
    have h0 := (mem_ready.1 hr).1
    rw [heq] at h1
    rcases Nat.lt_or_ge i listed.size with h' | h'
    ·simp [h'] at h0 h1; rw [h0] at h1; cases h1
    ·simp [Array.getElem?_eq_none h'] at h1
   have hEj : E j = false := by
    cases q : E j with
    | false => rfl
    | true => obtain ⟨e, he, hb, ho⟩ := hE j oj hoj q; exact absurd ho (hnot e he hb)
   rw [hEj] at h1 ⊢
   simp only [Bool.false_eq_true, if_false] at h1 ⊢
   have h2 := wpOp_putIf hoj (hfree j oj hoj hji hjun hnot) (fun cs b => hsel i oi cs b hi) (fun cs b => hsel j oj cs b hoj) hQ hy h1
   have hfree' : ∀ k ok, ops[k]? = some ok → k ≠ i → (listed.setIfInBounds j true).getD k true = false →
     (∀ e ∈ ok.after, Region.binds md e = true → e.on ≠ i) → oi.apart ops ok = true := fun k ok hk hki hun hno => by
    refine hfree k ok hk hki ?_ hno
    by_cases hjk : j = k
    ·subst hjk; exact hjun
    ·rw [getD_set_ne true hjk] at hun; exact hun
   refine wpOp_mono (fun a' w' h3 => ⟨h3.2.1, ih (listed.setIfInBounds j true) a' w' hfree' (ready_mono hr (Ne.symm hji)) h3.1 h3.2.1 ?_⟩) h2
   rw [Array.setIfInBounds_comm _ _ hji]
   exact h3.2.2
theorem E_first0 {i : Nat} {oi : Oper} {v : Value} (hi : ops[i]? = some oi) (hEi : E i = false) (hsel : ∀ (j : Nat) (o : Oper) cs b, ops[j]? = some o → o.op ≠ .select cs b)
  (hQ : ∀ c a w, Q (.panic c) (a.put oi.dst v) w → Q (.panic c) a w) :
  ∀ (fuel : Nat) (listed : Array Bool) (a : Act) (w : World),
   (∀ j oj, ops[j]? = some oj → j ≠ i → listed.getD j true = false → (∀ e ∈ oj.after, Region.binds md e = true → e.on ≠ i) → oi.apart ops oj = true) →
   i ∈ Region.ready md ops listed → Yields P ops oi v a → S w →
   wpAnyE P md ops Q S E fuel (listed.setIfInBounds i true) (a.put oi.dst v) w → wpAnyE P md ops Q S E (fuel + 1) listed a w := by
 intro fuel
 induction fuel with
 | zero =>
  intro listed a w _ hr hy hS H
  refine ⟨fun h => (by rw [h] at hr; cases hr), fun j hj => ?_⟩
  by_cases hji : j = i
  ·subst hji
   rw [hEi]
   exact hy.yieldsIf.wpOp hi hS ⟨hS, H⟩
  ·have := ready_mono hj hji
   rw [H.1] at this
   cases this
 | succ fuel ih =>
  intro listed a w hfree hr hy hS H
  refine ⟨fun h => (by rw [h] at hr; cases hr), fun j hj => ?_⟩
  by_cases hji : j = i
  ·subst hji
   rw [hEi]
   exact hy.yieldsIf.wpOp hi hS ⟨hS, H⟩
  ·have h1 := H.2 j (ready_mono hj hji)
   obtain ⟨hjun, oj, hoj, hall⟩ := mem_ready.1 hj
   have hnot : ∀ e ∈ oj.after, Region.binds md e = true → e.on ≠ i := fun e he hb heq => by
    have h1 := hall e he hb
    have h0 := (mem_ready.1 hr).1
    rw [heq] at h1
    rcases Nat.lt_or_ge i listed.size with h' | h'
    ·simp [h'] at h0 h1; rw [h0] at h1; cases h1
    ·simp [Array.getElem?_eq_none h'] at h1
   have hfree' : ∀ k ok, ops[k]? = some ok → k ≠ i → (listed.setIfInBounds j true).getD k true = false →
     (∀ e ∈ ok.after, Region.binds md e = true → e.on ≠ i) → oi.apart ops ok = true := fun k ok hk hki hun hno => by
    refine hfree k ok hk hki ?_ hno
    by_cases hjk : j = k
    ·subst hjk; exact hjun
    ·rw [getD_set_ne true hjk] at hun; exact hun
   have h2 := wpOp_put hoj (hfree j oj hoj hji hjun hnot) (fun cs b => hsel i oi cs b hi) (fun cs b => hsel j oj cs b hoj) hQ hy h1
   refine wpOp_mono (fun a' w' h3 => ?_) h2
   by_cases hEj : E j = true
   ·rw [if_pos hEj]
    have h4 := h3.2
    rw [if_pos hEj, Array.setIfInBounds_comm _ _ (Ne.symm hji)] at h4
    exact wpAny_first hi hsel hQ fuel (listed.setIfInBounds j true) a' w' hfree' (ready_mono hr (Ne.symm hji)) h3.1 h4
   ·rw [if_neg hEj]
    have h4 := h3.2
    rw [if_neg hEj, Array.setIfInBounds_comm _ _ (Ne.symm hji)] at h4
    exact ⟨h4.1, ih (listed.setIfInBounds j true) a' w' hfree' (ready_mono hr (Ne.symm hji)) h3.1 h4.1 h4.2⟩
theorem e_take0 {i : Nat} {o : Oper} (v : Value) {fuel : Nat} {L : Array Bool} {a : Act} {w : World} (hi : ops[i]? = some o) (hs : Region.noSelect ops = true) (hf : Region.free md ops L i = true) (hr : (Region.ready md ops L).contains i = true) (hEi : E i = false)
  (hQ : ∀ c a w, Q (.panic c) (a.put o.dst v) w → Q (.panic c) a w) (hg : Region.wanted o (yielded ops a.tmps) = true) (hS : S w) (hy : ∀ W, (execOp a.eval o).run P W = .ok (.value v) W)
  (h : wpAnyE P md ops Q S E fuel (L.setIfInBounds i true) (a.put o.dst v) w) : wpAnyE P md ops Q S E (fuel + 1) L a w :=
 E_first0 hi hEi (Region.noSelect_spec hs) hQ fuel L a w (Region.free_spec hi hf) (by simpa using hr) (.inl ⟨hg, hy⟩) hS h
def waits (md : Region.Mode) (ops : Array Oper) (E : Nat → Bool) (i : Nat) : Bool :=
 !E i && (List.range ops.size).all fun j => !E j || match ops[j]? with
  | some oj => oj.after.any (fun e => Region.binds md e && e.on == i)
  | none => true
theorem waits_spec {i : Nat} (h : waits md ops E i = true) : E i = false ∧ ∀ j oj, ops[j]? = some oj → E j = true → ∃ e ∈ oj.after, Region.binds md e = true ∧ e.on = i := by
 unfold waits at h
 rw [Bool.and_eq_true, List.all_eq_true] at h
 refine ⟨by simpa using h.1, fun j oj hj hE => ?_⟩
 have h1 := h.2 j (List.mem_range.2 (Array.getElem?_eq_some_iff.1 hj).1)
 simp only [hE, hj, Bool.not_true, Bool.false_or] at h1
 obtain ⟨e, he, hb⟩ := Array.any_eq_true'.1 h1
 rw [Bool.and_eq_true, beq_iff_eq] at hb
 exact ⟨e, he, hb.1, hb.2⟩
theorem wp_region_E {id : Nat} {a : Act} {w : World} (hm : P.follows .mixedOrders = true)
  (h : wpAnyE P .any ops Q S E ops.size (Array.replicate ops.size false) a { w with drawn := w.drawn + 1 }) : (Code.region id ops true).wp P Q a w :=
 wp_region_any hm (any_of_E _ _ _ _ h)
theorem e_done {listed : Array Bool} {a : Act} {w : World} (hr : Region.ready md ops listed = []) (h : Q .normal a w) : ∀ fuel, wpAnyE P md ops Q S E fuel listed a w
 | 0 => ⟨hr, h⟩
 | _ + 1 => ⟨fun _ => h, by rw [hr]; simp⟩
theorem e_take {i : Nat} {o : Oper} (v : Value) {fuel : Nat} {L : Array Bool} {a : Act} {w : World} (hi : ops[i]? = some o) (hs : Region.noSelect ops = true) (hf : Region.free md ops L i = true) (hr : (Region.ready md ops L).contains i = true) (hwt : waits md ops E i = true)
  (hQ : ∀ c a w, Q (.panic c) (a.put o.dst v) w → Q (.panic c) a w) (hg : Region.wanted o (yielded ops a.tmps) = true) (hS : S w) (hy : ∀ W, S W → (execOp a.eval o).run P W = .ok (.value v) W)
  (h : wpAnyE P md ops Q S E fuel (L.setIfInBounds i true) (a.put o.dst v) w) : wpAnyE P md ops Q S E (fuel + 1) L a w :=
 E_first hi (waits_spec hwt).1 (Region.noSelect_spec hs) hQ (waits_spec hwt).2 fuel L a w (Region.free_spec hi hf) (by simpa using hr) (.inl ⟨hg, hy⟩) hS h
theorem e_pass {i : Nat} {o : Oper} {fuel : Nat} {L : Array Bool} {a : Act} {w : World} (hi : ops[i]? = some o) (hs : Region.noSelect ops = true) (hf : Region.free md ops L i = true) (hr : (Region.ready md ops L).contains i = true) (hwt : waits md ops E i = true)
  (hQ : ∀ c a w, Q (.panic c) (a.put o.dst undef) w → Q (.panic c) a w) (hg : Region.wanted o (yielded ops a.tmps) = false) (hS : S w)
  (h : wpAnyE P md ops Q S E fuel (L.setIfInBounds i true) (a.put o.dst undef) w) : wpAnyE P md ops Q S E (fuel + 1) L a w :=
 E_first hi (waits_spec hwt).1 (Region.noSelect_spec hs) hQ (waits_spec hwt).2 fuel L a w (Region.free_spec hi hf) (by simpa using hr) (.inr ⟨hg, rfl⟩) hS h
theorem E_all {rs : List Nat} {fuel : Nat} {L : Array Bool} {a : Act} {w : World} (hr : Region.ready md ops L = rs) (hne : rs ≠ [])
  (h : ∀ i ∈ rs, wpOp P ops Q i (fun a' w' => if E i = true then wpAny P md ops Q fuel (L.setIfInBounds i true) a' w' else S w' ∧ wpAnyE P md ops Q S E fuel (L.setIfInBounds i true) a' w') a w) : wpAnyE P md ops Q S E (fuel + 1) L a w :=
 ⟨fun h0 => absurd (hr ▸ h0) hne, hr ▸ h⟩
theorem e_one (i : Nat) {fuel : Nat} {L : Array Bool} {a : Act} {w : World} (hr : Region.ready md ops L = [i]) (hE : E i = false)
  (h : wpOp P ops Q i (fun a' w' => S w' ∧ wpAnyE P md ops Q S E fuel (L.setIfInBounds i true) a' w') a w) : wpAnyE P md ops Q S E (fuel + 1) L a w := by
 refine E_all hr (by simp) fun j hj => ?_
 obtain rfl : j = i := by simpa using hj
 rw [hE]
 exact h
theorem e_leave (i : Nat) {fuel : Nat} {L : Array Bool} {a : Act} {w : World} (hr : Region.ready md ops L = [i]) (hE : E i = true)
  (h : wpOp P ops Q i (fun a' w' => wpAnyH P md ops Q (fun _ => True) fuel (L.setIfInBounds i true) a' w') a w) : wpAnyE P md ops Q S E (fuel + 1) L a w := by
 refine E_all hr (by simp) fun j hj => ?_
 obtain rfl : j = i := by simpa using hj
 rw [hE]
 exact wpOp_mono (fun a' w' h' => wpAny_of_held _ _ _ _ h') h
theorem r_call {i : Nat} {o : Oper} (f : FuncId) (args : Array Value) {K : Act → World → Prop} {a : Act} {w : World} (hi : ops[i]? = some o) (hg : Region.wanted o (yielded ops a.tmps) = true)
  (hx : (execOp a.eval o).run P w = .ok (.enter f args) w) (hc : Calls P f args w fun e w' => ∃ v, e = .returned v ∧ K (a.put o.dst v) w') : wpOp P ops Q i K a w := by
 refine wpOp_step hi fun K' hK => ?_
 rw [if_pos hg]
 unfold Oper.wp
 rw [hx]
 simp only [Oper.upon]
 refine hc.mono ?_
 rintro e w' ⟨v, rfl, h1⟩
 exact hK _ _ h1
theorem r_value {i : Nat} {o : Oper} (v : Value) {K : Act → World → Prop} {a : Act} {w w' : World} (hi : ops[i]? = some o) (hg : Region.wanted o (yielded ops a.tmps) = true)
  (hx : (execOp a.eval o).run P w = .ok (.value v) w') (h : K (a.put o.dst v) w') : wpOp P ops Q i K a w := by
 refine wpOp_step hi fun K' hK => ?_
 rw [if_pos hg]
 unfold Oper.wp
 rw [hx]
 exact hK _ _ h
theorem r_same {i : Nat} {o : Oper} (v : Value) {K : Act → World → Prop} {a : Act} {w : World} (hi : ops[i]? = some o) (hg : Region.wanted o (yielded ops a.tmps) = true)
  (hx : (execOp a.eval o).run P w = .ok (.value v) w) (h : K (a.put o.dst v) w) : wpOp P ops Q i K a w := r_value v hi hg hx h
theorem r_skip {i : Nat} {o : Oper} {K : Act → World → Prop} {a : Act} {w w' : World} (hi : ops[i]? = some o) (hg : Region.wanted o (yielded ops a.tmps) = true)
  (hx : (execOp a.eval o).run P w = .ok .skip w') (h : K (a.put o.dst undef) w') : wpOp P ops Q i K a w := by
 refine wpOp_step hi fun K' hK => ?_
 rw [if_pos hg]
 unfold Oper.wp
 rw [hx]
 exact hK _ _ h
end
theorem wp_abs {P : Program} {c : Code} {Q : Exit → Act → World → Prop} {a : Act} {w : World} (H : Act → Prop) (ha : H a) (h : ∀ a0, H a0 → a0 = a → c.wp P Q a0 w) : c.wp P Q a w := h a ha rfl
theorem wanted_none {o : Oper} {y : Nat → Option Bool} (h : o.guard = none) : Region.wanted o y = true := by simp [Region.wanted, h]
theorem wanted_of {o : Oper} {ops : Array Oper} {a : Act} (j : Nat) (want : Bool) (dj : Nat) (hgd : o.guard = some (j, want)) (hj : ((ops[j]?).bind (·.dst)) = some dj) (ht : a.tmps[dj]? = some (.bool want)) : Region.wanted o (yielded ops a.tmps) = true := by
 simp [Region.wanted, hgd, yielded, hj, ht]
theorem unwanted_of {o : Oper} {ops : Array Oper} {a : Act} (j : Nat) (want : Bool) (dj : Nat) (hgd : o.guard = some (j, want)) (hj : ((ops[j]?).bind (·.dst)) = some dj) (ht : a.tmps[dj]? = some (.bool (!want))) : Region.wanted o (yielded ops a.tmps) = false := by
 cases want <;> simp [Region.wanted, hgd, yielded, hj, ht]
end Go.Proofs.YtonheibhbilhhaaGreat.reg
namespace Go.Proofs.YtonheibhbilhhaaGreat.greet
open Go Go.RowKit
set_option linter.unusedVariables false
set_option linter.unusedSimpArgs false
set_option maxRecDepth 100000
theorem ex_load {o : Oper} {a : Act} {W : World} {t : TypeId} {x : Operand} (ho : o.op = .load t x) {B k n : Nat} (hT : Row t n) (hx : a.eval x = .pointer (some ⟨B, k, none⟩)) {T : TypeId} {l r : List Value} (hB : W.heap[B]? = some (bx T l)) (hle : k + n ≤ l.length) (hr : cut l k n = r) :
  (execOp a.eval o).run Tryz.prog W = .ok (.value (ag r)) W := by
 subst hr
 unfold execOp
 simp only [ho, hx, Sem.run_bind, run_loadv hT hB hle, Result.andThen_ok, Sem.run_pure]
theorem ex_get {o : Oper} {a : Act} {W : World} {t : TypeId} {x : Operand} (ho : o.op = .load t x) {B j : Nat} (hx : a.eval x = .pointer (some ⟨B, j, none⟩)) {T : TypeId} {l : List Value} {v : Value} (hB : W.heap[B]? = some (bx T l)) (hv : l[j]? = some v) (ht : Lod t := by first | exact lod_int | exact lod_str | exact lod_fcs | exact lod_err | exact lod_txs | exact lod_ens) :
  (execOp a.eval o).run Tryz.prog W = .ok (.value v) W := by
 have hs := ht.ld W ⟨B, j, none⟩ v (bx_cell hB hv)
 unfold execOp
 simp only [ho, hx, Sem.run_bind, hs, Result.andThen_ok, Sem.run_pure]
theorem ex_fill {o : Oper} {a : Act} {W : World} {t : TypeId} {x y : Operand} (ho : o.op = .store t x y) {B n : Nat} (hT : Row t n) {T : TypeId} {l r : List Value} (hx : a.eval x = .pointer (some ⟨B, 0, none⟩)) (hy : a.eval y = ag r) (hB : W.heap[B]? = some (bx T l)) (hr : Vs r n) (hl : l.length = n) :
  ∃ u, (execOp a.eval o).run Tryz.prog W = .ok .skip u ∧ u.heap[B]? = some (bx T r) ∧ Chg B W u := by
 have hs := run_storev (k := 0) hT hB hr (by omega)
 rw [putL_all (by rw [hr.len]; omega)] at hs
 refine ⟨_, ?_, setRow_heap W B _ _ T _ hB, setRow_chg _ hB⟩
 unfold execOp
 simp only [ho, hx, hy, Sem.run_bind, hs, Result.andThen_ok, Sem.run_pure]
theorem r_fill {ops : Array Oper} {Q : Exit → Act → World → Prop} {i : Nat} {o : Oper} {K : Act → World → Prop} {a : Act} {W : World} (hi : ops[i]? = some o) (hg : Region.wanted o (yielded ops a.tmps) = true)
  {t : TypeId} {x y : Operand} (ho : o.op = .store t x y) {B n : Nat} (hT : Row t n) {T : TypeId} {l r : List Value} (hx : a.eval x = .pointer (some ⟨B, 0, none⟩)) (hy : a.eval y = ag r) (hB : W.heap[B]? = some (bx T l)) (hr : Vs r n) (hl : l.length = n)
  (h : ∀ u, u.heap[B]? = some (bx T r) → Chg B W u → K (a.put o.dst undef) u) : wpOp Tryz.prog ops Q i K a W := by
 obtain ⟨u, h1, h2, h3⟩ := ex_fill (a := a) ho hT hx hy hB hr hl
 exact reg.r_skip hi hg h1 (h u h2 h3)
end Go.Proofs.YtonheibhbilhhaaGreat.greet
namespace Go.Proofs.YtonheibhbilhhaaGreat.greet
open Go Go.RowKit Go.PlainAid Go.Proofs.YtonheibhbilhhaaGreat.lane Go.Proofs.YtonheibhbilhhaaGreat.desc
open Go.Proofs.YtonheibhbilhhaaGreat.setup (inS inS_iff wrT wrC good txt)
set_option linter.unusedVariables false
set_option linter.unusedSimpArgs false
set_option maxRecDepth 100000
set_option maxHeartbeats 2000000 in
theorem readDeviceHead_any (s : ByteArray) (w : World) (hm : s.size ≤ maxLen) :
  Calls Tryz.prog 63 #[.string s] w fun e w' => (∃ x, (hdD s = true → x = bt s 7) ∧ e = .returned (.tuple #[.int .i64 x, .bool (hdD s)])) ∧ w = w' := by
 unfold maxLen at hm
 have hbt := get_bt s
 have b0 := bt_nonneg s 7
 have b1 := bt_le s 7
 have hwr : IntKind.i64.wrap (bt s 7) = bt s 7 := by rw [IntKind.wrap_i64]; omega
 unfold hdD
 by_cases h8 : s.size = 8
 case neg =>
  rw [decide_eq_false h8, Bool.false_and]
  have e1 : ((s.size : Int) != 8) = true := by simp; omega
  clear h8
  go_enter Tryz.func63, Tryz.ntmps63
  go_wp2
  go_ret2
  exact ⟨⟨0, (fun h => absurd h Bool.false_ne_true), rfl⟩, rfl⟩
 rw [decide_eq_true h8, Bool.true_and]
 by_cases h1 : bt s 0 = 18
 case neg =>
  have e1 : (bt s 0 != 18) = true := by simpa using h1
  have e2 : (bt s 0 == 18) = false := by simpa using h1
  rw [e2, Bool.false_and]
  clear h1
  go_enter Tryz.func63, Tryz.ntmps63
  go_wp2
  go_ret2
  exact ⟨⟨0, (fun h => absurd h Bool.false_ne_true), rfl⟩, rfl⟩
 have e0 : (bt s 0 != 18) = false := by simpa using h1
 rw [show (bt s 0 == 18) = true by simpa using h1, Bool.true_and]
 clear h1
 by_cases h1 : bt s 1 = 1
 case neg =>
  have e1 : (bt s 1 != 1) = true := by simpa using h1
  have e2 : (bt s 1 == 1) = false := by simpa using h1
  rw [e2, Bool.false_and]
  clear h1
  go_enter Tryz.func63, Tryz.ntmps63
  go_wp2
  go_ret2
  exact ⟨⟨0, (fun h => absurd h Bool.false_ne_true), rfl⟩, rfl⟩
 have e1 : (bt s 1 != 1) = false := by simpa using h1
 rw [show (bt s 1 == 1) = true by simpa using h1, Bool.true_and]
 clear h1
 unfold m0B
 cases h2 : (bt s 7 == 8)
 case true => go_enter Tryz.func63, Tryz.ntmps63; go_wp2; go_ret2; exact ⟨⟨_, fun _ => rfl, rfl⟩, rfl⟩
 cases h3 : (bt s 7 == 16)
 case true => go_enter Tryz.func63, Tryz.ntmps63; go_wp2; go_ret2; exact ⟨⟨_, fun _ => rfl, rfl⟩, rfl⟩
 cases h4 : (bt s 7 == 32)
 case true => go_enter Tryz.func63, Tryz.ntmps63; go_wp2; go_ret2; exact ⟨⟨_, fun _ => rfl, rfl⟩, rfl⟩
 cases h5 : (bt s 7 == 64)
 case true => go_enter Tryz.func63, Tryz.ntmps63; go_wp2; go_ret2; exact ⟨⟨_, fun _ => rfl, rfl⟩, rfl⟩
 go_enter Tryz.func63, Tryz.ntmps63
 go_wp2
 go_ret2
 exact ⟨⟨0, (fun h => absurd h Bool.false_ne_true), rfl⟩, rfl⟩
set_option maxHeartbeats 2000000 in
theorem readConfigHead_any (s : ByteArray) (w : World) (hm : s.size ≤ maxLen) :
  Calls Tryz.prog 65 #[.string s] w fun e w' => (∃ x, (hdC s = true → x = w2 s) ∧ e = .returned (.tuple #[.int .i64 x, .bool (hdC s)])) ∧ Below w.heap.size w w' := by
 unfold maxLen at hm
 have hbt := get_bt s
 have b0 := bt_nonneg s 2
 have b1 := bt_le s 2
 have c0 := bt_nonneg s 3
 have c1 := bt_le s 3
 have e3 := or_low .i64 32 8 (bt s 2).toNat (256 * (bt s 3).toNat) (bt s 2) (bt s 3 * 256) (by decide) wraps_i64 (by omega) (by omega) (by omega) (by omega) (by omega) (by omega)
 have ew : (((bt s 2).toNat + 256 * (bt s 3).toNat : Nat) : Int) = w2 s := by unfold w2; omega
 rw [ew] at e3
 unfold hdC
 by_cases h8 : s.size = 9
 case neg =>
  rw [decide_eq_false h8, Bool.false_and]
  have e1 : ((s.size : Int) != 9) = true := by simp; omega
  clear h8
  go_enter Tryz.func65, Tryz.ntmps65
  go_wp2
  go_ret2
  exact ⟨⟨0, (fun h => absurd h Bool.false_ne_true), rfl⟩, Below.refl _ _⟩
 rw [decide_eq_true h8, Bool.true_and]
 by_cases h1 : bt s 0 = 9
 case neg =>
  have e1 : (bt s 0 != 9) = true := by simpa using h1
  have e2 : (bt s 0 == 9) = false := by simpa using h1
  rw [e2, Bool.false_and]
  clear h1
  go_enter Tryz.func65, Tryz.ntmps65
  go_wp2
  go_ret2
  exact ⟨⟨0, (fun h => absurd h Bool.false_ne_true), rfl⟩, Below.refl _ _⟩
 have e0 : (bt s 0 != 9) = false := by simpa using h1
 rw [show (bt s 0 == 9) = true by simpa using h1, Bool.true_and]
 clear h1
 by_cases h1 : bt s 1 = 2
 case neg =>
  have e1 : (bt s 1 != 2) = true := by simpa using h1
  have e2 : (bt s 1 == 2) = false := by simpa using h1
  rw [e2, Bool.false_and]
  clear h1
  go_enter Tryz.func65, Tryz.ntmps65
  go_wp2
  go_ret2
  exact ⟨⟨0, (fun h => absurd h Bool.false_ne_true), rfl⟩, Below.refl _ _⟩
 have e1 : (bt s 1 != 2) = false := by simpa using h1
 rw [show (bt s 1 == 2) = true by simpa using h1, Bool.true_and]
 clear h1 ew
 unfold inS
 generalize w2 s = N at *
 cases h2 : decide (9 ≤ N) <;> cases h3 : decide (N ≤ 512)
 all_goals
  go_enter Tryz.func65, Tryz.ntmps65
  go_wp2_with fail
  go_quiet (fail)
  go_wp2
  go_ret2
  exact ⟨⟨_, fun _ => rfl, rfl⟩, below_drewN (Below.refl _ _) _⟩
def rgB (s : ByteArray) (t : Int) : Bool := (rcO s).isSome && decide ((s.size : Int) = t)
theorem rgB_some {s : ByteArray} {t : Int} {c : Cf} (h : rcO s = some c) : rgB s t = decide ((s.size : Int) = t) := by unfold rgB; rw [h]; rfl
theorem rgB_none {s : ByteArray} {t : Int} (h : rcO s = none) : rgB s t = false := by unfold rgB; rw [h]; rfl
theorem rc_cases {s : ByteArray} {w w' : World} {e : Ending} (h : RcP s w e w') :
  (∃ z, z ≠ 0 ∧ rcO s = none ∧ e = .returned (.tuple #[cfV noC nilS, .int .i64 z]) ∧ Below w.heap.size w w') ∨
  (∃ c vf L, rcO s = some c ∧ e = .returned (.tuple #[cfV c vf, .int .i64 0]) ∧ Oc w w' vf L ∧ L.map Prod.fst = c.fs ∧ Below w.heap.size w w') := by
 rcases h with ⟨a1, a2, a3⟩ | ⟨a1, a2, a3, a4⟩ | ⟨c, vf, L, X, a1, a2, a3, a4, a5⟩
 ·exact .inl ⟨_, a1, rcO_none (.inl a1), a2, a3⟩
 ·exact .inl ⟨4, by decide, rcO_none (.inr a2), a3, a4⟩
 ·exact .inr ⟨c, vf, L, rcO_some a1 a2, a3, inv_oc a4, a5, a4.bel⟩
set_option maxHeartbeats 2000000 in
theorem readConfig_greet (hco : CoAll) (s : ByteArray) (t : Int) (w : World) (hm : s.size ≤ maxLen) :
  Calls Tryz.prog 66 #[.string s, .int .i64 t] w fun e w' => ∃ c vf L, e = .returned (.tuple #[ag (cfl c vf), .bool (rgB s t)]) ∧ Oc w w' vf L ∧ L.map Prod.fst = c.fs ∧ (rgB s t = true → rcO s = some c) ∧ Below w.heap.size w w' := by
 have HR : Hid (∀ w, Calls Tryz.prog 99 #[.string s] w (RcP s w)) := fun w => readConfig_of hco s w hm
 have hM := Mo.nil w
 unfold maxLen at hm
 go_enter Tryz.func66, Tryz.ntmps66
 repeat' (first | (go_big_may; first | (refine v_alloc rfl zer_config rfl ?_; intro u za hN; replace hM := hM.new hN; clear hN)) | go_values | go_skip | go_guarded | go_step | go_upon | (simp only [Int.not_lt, Int.not_le] at *; go_simp))
 refine (HR.out _).mono ?_
 rintro e u1 hp
 rcases rc_cases hp with ⟨z, hz, hn, rfl, hb⟩ | ⟨c, vf, L, hs, rfl, ho, he, hb⟩
 ·replace hM := hM.call hb
  have e1 : (z == 0) = false := by simpa using hz
  clear hz hb
  repeat' (first | (go_big_may; first | (refine v_alloc rfl zer_config rfl ?_; intro u zb hN; replace hM := hM.new hN; clear hN) | (refine v_fill rfl rfl row_config rfl rfl hM.at0 (cfl_vs noC rfl) rfl ?_; intro u hv hc; replace hM := hM.put0 hc hv; clear hv hc) | (refine v_load rfl rfl row_config rfl hM.at0 (Nat.le_refl _) (cut_all rfl) ?_) | (refine v_fill rfl rfl row_config rfl rfl hM.at1 (cfl_vs noC rfl) rfl ?_; intro u hv hc; replace hM := hM.put1 hc hv; clear hv hc)) | go_values | go_skip | go_guarded | go_step | go_upon | (simp only [Int.not_lt, Int.not_le] at *; go_simp))
  exact bodyPost_ret (v := .tuple #[ag (cfl noC nilS), .bool false]) (ret_2 rfl rfl (ld_var row_config hM.at1 rfl) rfl) rfl ⟨noC, nilS, [], by rw [rgB_none hn], Oc.nil _ _, rfl, (fun h => by rw [rgB_none hn] at h; cases h), hM.below⟩
 ·have h1 := ho.one
  replace hM := hM.take hb ho
  clear hb ho hp
  cases h2 : decide ((s.size : Int) = t)
  all_goals
   have h3 : ((s.size : Int) == t) = _ := h2
   repeat' (first | (go_big_may; first | (refine v_alloc rfl zer_config rfl ?_; intro u zb hN; replace hM := hM.new hN; clear hN) | (refine v_fill rfl rfl row_config rfl rfl hM.at0 (cfl_vs c h1) rfl ?_; intro u hv hc; replace hM := hM.put0 hc hv; clear hv hc) | (refine v_load rfl rfl row_config rfl hM.at0 (Nat.le_refl _) (cut_all rfl) ?_) | (refine v_fill rfl rfl row_config rfl rfl hM.at1 (cfl_vs c h1) rfl ?_; intro u hv hc; replace hM := hM.put1 hc hv; clear hv hc)) | go_values | go_skip | go_guarded | go_step | go_upon | (simp only [Int.not_lt, Int.not_le] at *; go_simp))
   refine bodyPost_ret (ret_2 rfl rfl (ld_var row_config hM.at1 rfl) rfl) rfl ⟨c, vf, L, by rw [rgB_some hs, h2]; rfl, hM.own, he, fun _ => hs, hM.below⟩
set_option maxHeartbeats 1000000 in
theorem readText_greet (s : ByteArray) (w : World) (hm : s.size ≤ maxLen) :
  Calls Tryz.prog 67 #[.string s] w fun e w' => e = .returned (.tuple #[.string (rdT s), .bool (rdC s == 0)]) ∧ Below w.heap.size w w' := by
 have HR : Hid (∀ w, Calls Tryz.prog 100 #[.string s] w fun e w' => e = .returned (.tuple #[.string (rdT s), .int .i64 (rdC s)]) ∧ Below w.heap.size w w') := fun w => readText_any s w hm
 cases hz : (rdC s == 0)
 all_goals
  generalize rdC s = z at *
  go_enter Tryz.func67, Tryz.ntmps67
  go_wp2_with fail
  refine (HR.out _).mono ?_
  rintro e u1 ⟨rfl, hb⟩
  go_wp2
  go_ret2
  exact ⟨rfl, hb⟩
end Go.Proofs.YtonheibhbilhhaaGreat.greet
namespace Go.Proofs.YtonheibhbilhhaaGreat.greet
open Go Go.RowKit Go.PlainAid Go.Proofs.YtonheibhbilhhaaGreat.lane Go.Proofs.YtonheibhbilhhaaGreat.desc
set_option linter.unusedVariables false
set_option linter.unusedSimpArgs false
set_option maxRecDepth 100000
set_option maxHeartbeats 4000000 in
theorem readDevice_greet (s : ByteArray) (m : Int) (w : World) (hm : s.size ≤ maxLen) :
  Calls Tryz.prog 64 #[.string s, .int .i64 m] w fun e w' => e = .returned (.tuple #[ag (dvl (rdD s)), .bool (okD s m)]) ∧ Below w.heap.size w w' := by
 have HR : Hid (∀ w, Calls Tryz.prog 98 #[.string s] w fun e w' => e = .returned (.tuple #[ag (dvl (rdD s)), .int .i64 (rdE s)]) ∧ Below w.heap.size w w') := fun w => readDevice_any s w hm
 have hM := Mm.nil w
 unfold okD
 generalize rdD s = d at *
 generalize rdE s = z at *
 go_enter Tryz.func64, Tryz.ntmps64
 repeat' (first | (go_big_may; first | (refine v_alloc rfl zer_device rfl ?_; intro u za hN; replace hM := hM.new hN; clear hN)) | go_values | go_skip | go_guarded | go_step | go_upon | (simp only [Int.not_lt, Int.not_le] at *; go_simp))
 refine (HR.out _).mono ?_
 rintro e u1 ⟨rfl, hb⟩
 replace hM := hM.call hb
 clear hb
 go_upto_region 2 with (first | (refine v_alloc rfl zer_device rfl ?_; intro u zb hN; replace hM := hM.new hN; clear hN) | (refine v_fill rfl rfl row_device rfl rfl hM.at0 (dvl_vs _) rfl ?_; intro u hv hc; replace hM := hM.put0 hc hv; clear hv hc))
 go_simp
 rename World => u2
 have HM0 : Hid ((dvl d)[4]? = some (.int .i64 d.m0)) := rfl
 have HM1 : Hid ((dvl d)[11]? = some (.int .i64 d.cf)) := rfl
 have HV : Hid (Vs (dvl d) 12) := dvl_vs d
 have HL : Hid (0 + 12 ≤ (dvl d).length) := Nat.le_refl _
 have HC : Hid (cut (dvl d) 0 12 = dvl d) := cut_all rfl
 cases ha : (z == 0)
 case false =>
  refine reg.wp_abs (fun a0 => a0.tmps.size = 27 ∧ (∀ h, a0.tmps[1]'h = .int .i64 m) ∧ (∀ h, a0.tmps[4]'h = .pointer (some ⟨za, 0, none⟩)) ∧ (∀ h, a0.tmps[6]'h = .pointer (some ⟨zb, 0, none⟩)) ∧ (∀ h, a0.tmps[7]'h = .int .i64 z)) ⟨rfl, fun _ => rfl, fun _ => rfl, fun _ => rfl, fun _ => rfl⟩ ?_
  rintro a0 ⟨hsz, s1, s4, s6, s7⟩ ha0
  refine reg.wp_region_E (S := fun W => Ls W [(zb, 23, (dvl d))]) (E := fun _ => false) (by kernel_rfl) ?_
  replace hM := hM.drew
  refine reg.e_take (i := 0) (ag ((dvl d))) rfl (by kernel_rfl) (by kernel_rfl) (by kernel_rfl) (by kernel_rfl) (fun _ _ _ h => h) (reg.wanted_none rfl) (hM.ls (by simp)) (fun W hW => ex_load rfl row_device (by simp [go_sem, Act.put, hsz, s1, s4, s6, s7]) hW.at0 HL.out HC.out) ?_
  refine reg.e_take (i := 1) (.int .i64 z) rfl (by kernel_rfl) (by kernel_rfl) (by kernel_rfl) (by kernel_rfl) (fun _ _ _ h => h) (reg.wanted_none rfl) (hM.ls (by simp)) (fun W hW => by simp [execOp, go_sem, Act.put, hsz, s1, s4, s6, s7]) ?_
  refine reg.e_take (i := 2) (.bool false) rfl (by kernel_rfl) (by kernel_rfl) (by kernel_rfl) (by kernel_rfl) (fun _ _ _ h => h) (reg.wanted_none rfl) (hM.ls (by simp)) (fun W hW => by simp [execOp, go_sem, Act.put, hsz, s1, s4, s6, s7, ha]) ?_
  refine reg.e_take (i := 3) (.bool false) rfl (by kernel_rfl) (by kernel_rfl) (by kernel_rfl) (by kernel_rfl) (fun _ _ _ h => h) (reg.wanted_none rfl) (hM.ls (by simp)) (fun W hW => by simp [execOp, go_sem, Act.put, hsz, s1, s4, s6, s7]) ?_
  refine reg.e_pass (i := 4) rfl (by kernel_rfl) (by kernel_rfl) (by kernel_rfl) (by kernel_rfl) (fun _ _ _ h => h) (reg.unwanted_of 3 true 16 rfl (by kernel_rfl) (by simp [Act.put, hsz])) (hM.ls (by simp)) ?_
  refine reg.e_pass (i := 5) rfl (by kernel_rfl) (by kernel_rfl) (by kernel_rfl) (by kernel_rfl) (fun _ _ _ h => h) (reg.unwanted_of 3 true 16 rfl (by kernel_rfl) (by simp [Act.put, hsz])) (hM.ls (by simp)) ?_
  refine reg.e_pass (i := 6) rfl (by kernel_rfl) (by kernel_rfl) (by kernel_rfl) (by kernel_rfl) (fun _ _ _ h => h) (reg.unwanted_of 3 true 16 rfl (by kernel_rfl) (by simp [Act.put, hsz])) (hM.ls (by simp)) ?_
  refine reg.e_pass (i := 7) rfl (by kernel_rfl) (by kernel_rfl) (by kernel_rfl) (by kernel_rfl) (fun _ _ _ h => h) (reg.unwanted_of 3 true 16 rfl (by kernel_rfl) (by simp [Act.put, hsz])) (hM.ls (by simp)) ?_
  refine reg.e_take (i := 8) (.bool false) rfl (by kernel_rfl) (by kernel_rfl) (by kernel_rfl) (by kernel_rfl) (fun _ _ _ h => h) (reg.wanted_none rfl) (hM.ls (by simp)) (fun W hW => by simp [execOp, go_sem, Act.put, hsz, s1, s4, s6, s7]) ?_
  refine reg.e_take (i := 9) (.bool false) rfl (by kernel_rfl) (by kernel_rfl) (by kernel_rfl) (by kernel_rfl) (fun _ _ _ h => h) (reg.wanted_none rfl) (hM.ls (by simp)) (fun W hW => by simp [execOp, go_sem, Act.put, hsz, s1, s4, s6, s7]) ?_
  refine reg.e_pass (i := 10) rfl (by kernel_rfl) (by kernel_rfl) (by kernel_rfl) (by kernel_rfl) (fun _ _ _ h => h) (reg.unwanted_of 9 true 22 rfl (by kernel_rfl) (by simp [Act.put, hsz])) (hM.ls (by simp)) ?_
  refine reg.e_pass (i := 11) rfl (by kernel_rfl) (by kernel_rfl) (by kernel_rfl) (by kernel_rfl) (fun _ _ _ h => h) (reg.unwanted_of 9 true 22 rfl (by kernel_rfl) (by simp [Act.put, hsz])) (hM.ls (by simp)) ?_
  refine reg.e_pass (i := 12) rfl (by kernel_rfl) (by kernel_rfl) (by kernel_rfl) (by kernel_rfl) (fun _ _ _ h => h) (reg.unwanted_of 9 true 22 rfl (by kernel_rfl) (by simp [Act.put, hsz])) (hM.ls (by simp)) ?_
  refine reg.e_take (i := 13) (.bool false) rfl (by kernel_rfl) (by kernel_rfl) (by kernel_rfl) (by kernel_rfl) (fun _ _ _ h => h) (reg.wanted_none rfl) (hM.ls (by simp)) (fun W hW => by simp [execOp, go_sem, Act.put, hsz, s1, s4, s6, s7]) ?_
  refine reg.e_one 14 (by kernel_rfl) rfl ?_
  refine r_fill (i := 14) rfl (reg.wanted_none rfl) rfl row_device (by simp [go_sem, Act.put, hsz, s1, s4, s6, s7]) (by simp [go_sem, Act.put, hsz, s1, s4, s6, s7]) hM.at1 HV.out rfl ?_
  intro ru1 rhv rhc
  replace hM := hM.put1 rhc rhv
  clear rhc rhv
  refine ⟨hM.ls (by simp), ?_⟩
  refine reg.e_take (i := 15) (.bool false) rfl (by kernel_rfl) (by kernel_rfl) (by kernel_rfl) (by kernel_rfl) (fun _ _ _ h => h) (reg.wanted_none rfl) (hM.ls (by simp)) (fun W hW => by simp [execOp, go_sem, Act.put, hsz, s1, s4, s6, s7]) ?_
  refine reg.e_done (by kernel_rfl) ?_ _
  subst ha0
  clear hsz s1 s4 s6 s7
  go_simp
  repeat' (first | go_values | go_skip | go_guarded | go_step | go_upon | (simp only [Int.not_lt, Int.not_le] at *; go_simp))
  exact bodyPost_ret (ret_2 rfl rfl (ld_var row_device hM.at1 HV.out.len) rfl) rfl ⟨by simp only [ha, Bool.false_and, Bool.true_and]; rfl, hM.below⟩
 cases hb : (d.m0 == m)
 case false =>
  refine reg.wp_abs (fun a0 => a0.tmps.size = 27 ∧ (∀ h, a0.tmps[1]'h = .int .i64 m) ∧ (∀ h, a0.tmps[4]'h = .pointer (some ⟨za, 0, none⟩)) ∧ (∀ h, a0.tmps[6]'h = .pointer (some ⟨zb, 0, none⟩)) ∧ (∀ h, a0.tmps[7]'h = .int .i64 z)) ⟨rfl, fun _ => rfl, fun _ => rfl, fun _ => rfl, fun _ => rfl⟩ ?_
  rintro a0 ⟨hsz, s1, s4, s6, s7⟩ ha0
  refine reg.wp_region_E (S := fun W => Ls W [(zb, 23, (dvl d))]) (E := fun _ => false) (by kernel_rfl) ?_
  replace hM := hM.drew
  refine reg.e_take (i := 0) (ag ((dvl d))) rfl (by kernel_rfl) (by kernel_rfl) (by kernel_rfl) (by kernel_rfl) (fun _ _ _ h => h) (reg.wanted_none rfl) (hM.ls (by simp)) (fun W hW => ex_load rfl row_device (by simp [go_sem, Act.put, hsz, s1, s4, s6, s7]) hW.at0 HL.out HC.out) ?_
  refine reg.e_take (i := 1) (.int .i64 z) rfl (by kernel_rfl) (by kernel_rfl) (by kernel_rfl) (by kernel_rfl) (fun _ _ _ h => h) (reg.wanted_none rfl) (hM.ls (by simp)) (fun W hW => by simp [execOp, go_sem, Act.put, hsz, s1, s4, s6, s7]) ?_
  refine reg.e_take (i := 2) (.bool true) rfl (by kernel_rfl) (by kernel_rfl) (by kernel_rfl) (by kernel_rfl) (fun _ _ _ h => h) (reg.wanted_none rfl) (hM.ls (by simp)) (fun W hW => by simp [execOp, go_sem, Act.put, hsz, s1, s4, s6, s7, ha]) ?_
  refine reg.e_take (i := 3) (.bool true) rfl (by kernel_rfl) (by kernel_rfl) (by kernel_rfl) (by kernel_rfl) (fun _ _ _ h => h) (reg.wanted_none rfl) (hM.ls (by simp)) (fun W hW => by simp [execOp, go_sem, Act.put, hsz, s1, s4, s6, s7]) ?_
  refine reg.e_take (i := 4) (.pointer (some ⟨zb, 4, none⟩)) rfl (by kernel_rfl) (by kernel_rfl) (by kernel_rfl) (by kernel_rfl) (fun _ _ _ h => h) (reg.wanted_of 3 true 16 rfl (by kernel_rfl) (by simp [Act.put, hsz])) (hM.ls (by simp)) (fun W hW => by simp [execOp, go_sem, Act.put, hsz, s1, s4, s6, s7]) ?_
  refine reg.e_take (i := 5) (.int .i64 d.m0) rfl (by kernel_rfl) (by kernel_rfl) (by kernel_rfl) (by kernel_rfl) (fun _ _ _ h => h) (reg.wanted_of 3 true 16 rfl (by kernel_rfl) (by simp [Act.put, hsz])) (hM.ls (by simp)) (fun W hW => ex_get rfl (by simp [go_sem, Act.put, hsz, s1, s4, s6, s7]) hW.at0 HM0.out) ?_
  refine reg.e_take (i := 6) (.int .i64 m) rfl (by kernel_rfl) (by kernel_rfl) (by kernel_rfl) (by kernel_rfl) (fun _ _ _ h => h) (reg.wanted_of 3 true 16 rfl (by kernel_rfl) (by simp [Act.put, hsz])) (hM.ls (by simp)) (fun W hW => by simp [execOp, go_sem, Act.put, hsz, s1, s4, s6, s7]) ?_
  refine reg.e_take (i := 7) (.bool false) rfl (by kernel_rfl) (by kernel_rfl) (by kernel_rfl) (by kernel_rfl) (fun _ _ _ h => h) (reg.wanted_of 3 true 16 rfl (by kernel_rfl) (by simp [Act.put, hsz])) (hM.ls (by simp)) (fun W hW => by simp [execOp, go_sem, Act.put, hsz, s1, s4, s6, s7, hb]) ?_
  refine reg.e_take (i := 8) (.bool false) rfl (by kernel_rfl) (by kernel_rfl) (by kernel_rfl) (by kernel_rfl) (fun _ _ _ h => h) (reg.wanted_none rfl) (hM.ls (by simp)) (fun W hW => by simp [execOp, go_sem, Act.put, hsz, s1, s4, s6, s7]) ?_
  refine reg.e_take (i := 9) (.bool false) rfl (by kernel_rfl) (by kernel_rfl) (by kernel_rfl) (by kernel_rfl) (fun _ _ _ h => h) (reg.wanted_none rfl) (hM.ls (by simp)) (fun W hW => by simp [execOp, go_sem, Act.put, hsz, s1, s4, s6, s7]) ?_
  refine reg.e_pass (i := 10) rfl (by kernel_rfl) (by kernel_rfl) (by kernel_rfl) (by kernel_rfl) (fun _ _ _ h => h) (reg.unwanted_of 9 true 22 rfl (by kernel_rfl) (by simp [Act.put, hsz])) (hM.ls (by simp)) ?_
  refine reg.e_pass (i := 11) rfl (by kernel_rfl) (by kernel_rfl) (by kernel_rfl) (by kernel_rfl) (fun _ _ _ h => h) (reg.unwanted_of 9 true 22 rfl (by kernel_rfl) (by simp [Act.put, hsz])) (hM.ls (by simp)) ?_
  refine reg.e_pass (i := 12) rfl (by kernel_rfl) (by kernel_rfl) (by kernel_rfl) (by kernel_rfl) (fun _ _ _ h => h) (reg.unwanted_of 9 true 22 rfl (by kernel_rfl) (by simp [Act.put, hsz])) (hM.ls (by simp)) ?_
  refine reg.e_take (i := 13) (.bool false) rfl (by kernel_rfl) (by kernel_rfl) (by kernel_rfl) (by kernel_rfl) (fun _ _ _ h => h) (reg.wanted_none rfl) (hM.ls (by simp)) (fun W hW => by simp [execOp, go_sem, Act.put, hsz, s1, s4, s6, s7]) ?_
  refine reg.e_one 14 (by kernel_rfl) rfl ?_
  refine r_fill (i := 14) rfl (reg.wanted_none rfl) rfl row_device (by simp [go_sem, Act.put, hsz, s1, s4, s6, s7]) (by simp [go_sem, Act.put, hsz, s1, s4, s6, s7]) hM.at1 HV.out rfl ?_
  intro ru1 rhv rhc
  replace hM := hM.put1 rhc rhv
  clear rhc rhv
  refine ⟨hM.ls (by simp), ?_⟩
  refine reg.e_take (i := 15) (.bool false) rfl (by kernel_rfl) (by kernel_rfl) (by kernel_rfl) (by kernel_rfl) (fun _ _ _ h => h) (reg.wanted_none rfl) (hM.ls (by simp)) (fun W hW => by simp [execOp, go_sem, Act.put, hsz, s1, s4, s6, s7]) ?_
  refine reg.e_done (by kernel_rfl) ?_ _
  subst ha0
  clear hsz s1 s4 s6 s7
  go_simp
  repeat' (first | go_values | go_skip | go_guarded | go_step | go_upon | (simp only [Int.not_lt, Int.not_le] at *; go_simp))
  exact bodyPost_ret (ret_2 rfl rfl (ld_var row_device hM.at1 HV.out.len) rfl) rfl ⟨by simp only [ha, hb, Bool.false_and, Bool.true_and]; rfl, hM.below⟩
 cases hc : (d.cf == 1)
 case false =>
  refine reg.wp_abs (fun a0 => a0.tmps.size = 27 ∧ (∀ h, a0.tmps[1]'h = .int .i64 m) ∧ (∀ h, a0.tmps[4]'h = .pointer (some ⟨za, 0, none⟩)) ∧ (∀ h, a0.tmps[6]'h = .pointer (some ⟨zb, 0, none⟩)) ∧ (∀ h, a0.tmps[7]'h = .int .i64 z)) ⟨rfl, fun _ => rfl, fun _ => rfl, fun _ => rfl, fun _ => rfl⟩ ?_
  rintro a0 ⟨hsz, s1, s4, s6, s7⟩ ha0
  refine reg.wp_region_E (S := fun W => Ls W [(zb, 23, (dvl d))]) (E := fun _ => false) (by kernel_rfl) ?_
  replace hM := hM.drew
  refine reg.e_take (i := 0) (ag ((dvl d))) rfl (by kernel_rfl) (by kernel_rfl) (by kernel_rfl) (by kernel_rfl) (fun _ _ _ h => h) (reg.wanted_none rfl) (hM.ls (by simp)) (fun W hW => ex_load rfl row_device (by simp [go_sem, Act.put, hsz, s1, s4, s6, s7]) hW.at0 HL.out HC.out) ?_
  refine reg.e_take (i := 1) (.int .i64 z) rfl (by kernel_rfl) (by kernel_rfl) (by kernel_rfl) (by kernel_rfl) (fun _ _ _ h => h) (reg.wanted_none rfl) (hM.ls (by simp)) (fun W hW => by simp [execOp, go_sem, Act.put, hsz, s1, s4, s6, s7]) ?_
  refine reg.e_take (i := 2) (.bool true) rfl (by kernel_rfl) (by kernel_rfl) (by kernel_rfl) (by kernel_rfl) (fun _ _ _ h => h) (reg.wanted_none rfl) (hM.ls (by simp)) (fun W hW => by simp [execOp, go_sem, Act.put, hsz, s1, s4, s6, s7, ha]) ?_
  refine reg.e_take (i := 3) (.bool true) rfl (by kernel_rfl) (by kernel_rfl) (by kernel_rfl) (by kernel_rfl) (fun _ _ _ h => h) (reg.wanted_none rfl) (hM.ls (by simp)) (fun W hW => by simp [execOp, go_sem, Act.put, hsz, s1, s4, s6, s7]) ?_
  refine reg.e_take (i := 4) (.pointer (some ⟨zb, 4, none⟩)) rfl (by kernel_rfl) (by kernel_rfl) (by kernel_rfl) (by kernel_rfl) (fun _ _ _ h => h) (reg.wanted_of 3 true 16 rfl (by kernel_rfl) (by simp [Act.put, hsz])) (hM.ls (by simp)) (fun W hW => by simp [execOp, go_sem, Act.put, hsz, s1, s4, s6, s7]) ?_
  refine reg.e_take (i := 5) (.int .i64 d.m0) rfl (by kernel_rfl) (by kernel_rfl) (by kernel_rfl) (by kernel_rfl) (fun _ _ _ h => h) (reg.wanted_of 3 true 16 rfl (by kernel_rfl) (by simp [Act.put, hsz])) (hM.ls (by simp)) (fun W hW => ex_get rfl (by simp [go_sem, Act.put, hsz, s1, s4, s6, s7]) hW.at0 HM0.out) ?_
  refine reg.e_take (i := 6) (.int .i64 m) rfl (by kernel_rfl) (by kernel_rfl) (by kernel_rfl) (by kernel_rfl) (fun _ _ _ h => h) (reg.wanted_of 3 true 16 rfl (by kernel_rfl) (by simp [Act.put, hsz])) (hM.ls (by simp)) (fun W hW => by simp [execOp, go_sem, Act.put, hsz, s1, s4, s6, s7]) ?_
  refine reg.e_take (i := 7) (.bool true) rfl (by kernel_rfl) (by kernel_rfl) (by kernel_rfl) (by kernel_rfl) (fun _ _ _ h => h) (reg.wanted_of 3 true 16 rfl (by kernel_rfl) (by simp [Act.put, hsz])) (hM.ls (by simp)) (fun W hW => by simp [execOp, go_sem, Act.put, hsz, s1, s4, s6, s7, hb]) ?_
  refine reg.e_take (i := 8) (.bool true) rfl (by kernel_rfl) (by kernel_rfl) (by kernel_rfl) (by kernel_rfl) (fun _ _ _ h => h) (reg.wanted_none rfl) (hM.ls (by simp)) (fun W hW => by simp [execOp, go_sem, Act.put, hsz, s1, s4, s6, s7]) ?_
  refine reg.e_take (i := 9) (.bool true) rfl (by kernel_rfl) (by kernel_rfl) (by kernel_rfl) (by kernel_rfl) (fun _ _ _ h => h) (reg.wanted_none rfl) (hM.ls (by simp)) (fun W hW => by simp [execOp, go_sem, Act.put, hsz, s1, s4, s6, s7]) ?_
  refine reg.e_take (i := 10) (.pointer (some ⟨zb, 11, none⟩)) rfl (by kernel_rfl) (by kernel_rfl) (by kernel_rfl) (by kernel_rfl) (fun _ _ _ h => h) (reg.wanted_of 9 true 22 rfl (by kernel_rfl) (by simp [Act.put, hsz])) (hM.ls (by simp)) (fun W hW => by simp [execOp, go_sem, Act.put, hsz, s1, s4, s6, s7]) ?_
  refine reg.e_take (i := 11) (.int .i64 d.cf) rfl (by kernel_rfl) (by kernel_rfl) (by kernel_rfl) (by kernel_rfl) (fun _ _ _ h => h) (reg.wanted_of 9 true 22 rfl (by kernel_rfl) (by simp [Act.put, hsz])) (hM.ls (by simp)) (fun W hW => ex_get rfl (by simp [go_sem, Act.put, hsz, s1, s4, s6, s7]) hW.at0 HM1.out) ?_
  refine reg.e_take (i := 12) (.bool false) rfl (by kernel_rfl) (by kernel_rfl) (by kernel_rfl) (by kernel_rfl) (fun _ _ _ h => h) (reg.wanted_of 9 true 22 rfl (by kernel_rfl) (by simp [Act.put, hsz])) (hM.ls (by simp)) (fun W hW => by simp [execOp, go_sem, Act.put, hsz, s1, s4, s6, s7, hc]) ?_
  refine reg.e_take (i := 13) (.bool false) rfl (by kernel_rfl) (by kernel_rfl) (by kernel_rfl) (by kernel_rfl) (fun _ _ _ h => h) (reg.wanted_none rfl) (hM.ls (by simp)) (fun W hW => by simp [execOp, go_sem, Act.put, hsz, s1, s4, s6, s7]) ?_
  refine reg.e_one 14 (by kernel_rfl) rfl ?_
  refine r_fill (i := 14) rfl (reg.wanted_none rfl) rfl row_device (by simp [go_sem, Act.put, hsz, s1, s4, s6, s7]) (by simp [go_sem, Act.put, hsz, s1, s4, s6, s7]) hM.at1 HV.out rfl ?_
  intro ru1 rhv rhc
  replace hM := hM.put1 rhc rhv
  clear rhc rhv
  refine ⟨hM.ls (by simp), ?_⟩
  refine reg.e_take (i := 15) (.bool false) rfl (by kernel_rfl) (by kernel_rfl) (by kernel_rfl) (by kernel_rfl) (fun _ _ _ h => h) (reg.wanted_none rfl) (hM.ls (by simp)) (fun W hW => by simp [execOp, go_sem, Act.put, hsz, s1, s4, s6, s7]) ?_
  refine reg.e_done (by kernel_rfl) ?_ _
  subst ha0
  clear hsz s1 s4 s6 s7
  go_simp
  repeat' (first | go_values | go_skip | go_guarded | go_step | go_upon | (simp only [Int.not_lt, Int.not_le] at *; go_simp))
  exact bodyPost_ret (ret_2 rfl rfl (ld_var row_device hM.at1 HV.out.len) rfl) rfl ⟨by simp only [ha, hb, hc, Bool.false_and, Bool.true_and]; rfl, hM.below⟩
 refine reg.wp_abs (fun a0 => a0.tmps.size = 27 ∧ (∀ h, a0.tmps[1]'h = .int .i64 m) ∧ (∀ h, a0.tmps[4]'h = .pointer (some ⟨za, 0, none⟩)) ∧ (∀ h, a0.tmps[6]'h = .pointer (some ⟨zb, 0, none⟩)) ∧ (∀ h, a0.tmps[7]'h = .int .i64 z)) ⟨rfl, fun _ => rfl, fun _ => rfl, fun _ => rfl, fun _ => rfl⟩ ?_
 rintro a0 ⟨hsz, s1, s4, s6, s7⟩ ha0
 refine reg.wp_region_E (S := fun W => Ls W [(zb, 23, (dvl d))]) (E := fun _ => false) (by kernel_rfl) ?_
 replace hM := hM.drew
 refine reg.e_take (i := 0) (ag ((dvl d))) rfl (by kernel_rfl) (by kernel_rfl) (by kernel_rfl) (by kernel_rfl) (fun _ _ _ h => h) (reg.wanted_none rfl) (hM.ls (by simp)) (fun W hW => ex_load rfl row_device (by simp [go_sem, Act.put, hsz, s1, s4, s6, s7]) hW.at0 HL.out HC.out) ?_
 refine reg.e_take (i := 1) (.int .i64 z) rfl (by kernel_rfl) (by kernel_rfl) (by kernel_rfl) (by kernel_rfl) (fun _ _ _ h => h) (reg.wanted_none rfl) (hM.ls (by simp)) (fun W hW => by simp [execOp, go_sem, Act.put, hsz, s1, s4, s6, s7]) ?_
 refine reg.e_take (i := 2) (.bool true) rfl (by kernel_rfl) (by kernel_rfl) (by kernel_rfl) (by kernel_rfl) (fun _ _ _ h => h) (reg.wanted_none rfl) (hM.ls (by simp)) (fun W hW => by simp [execOp, go_sem, Act.put, hsz, s1, s4, s6, s7, ha]) ?_
 refine reg.e_take (i := 3) (.bool true) rfl (by kernel_rfl) (by kernel_rfl) (by kernel_rfl) (by kernel_rfl) (fun _ _ _ h => h) (reg.wanted_none rfl) (hM.ls (by simp)) (fun W hW => by simp [execOp, go_sem, Act.put, hsz, s1, s4, s6, s7]) ?_
 refine reg.e_take (i := 4) (.pointer (some ⟨zb, 4, none⟩)) rfl (by kernel_rfl) (by kernel_rfl) (by kernel_rfl) (by kernel_rfl) (fun _ _ _ h => h) (reg.wanted_of 3 true 16 rfl (by kernel_rfl) (by simp [Act.put, hsz])) (hM.ls (by simp)) (fun W hW => by simp [execOp, go_sem, Act.put, hsz, s1, s4, s6, s7]) ?_
 refine reg.e_take (i := 5) (.int .i64 d.m0) rfl (by kernel_rfl) (by kernel_rfl) (by kernel_rfl) (by kernel_rfl) (fun _ _ _ h => h) (reg.wanted_of 3 true 16 rfl (by kernel_rfl) (by simp [Act.put, hsz])) (hM.ls (by simp)) (fun W hW => ex_get rfl (by simp [go_sem, Act.put, hsz, s1, s4, s6, s7]) hW.at0 HM0.out) ?_
 refine reg.e_take (i := 6) (.int .i64 m) rfl (by kernel_rfl) (by kernel_rfl) (by kernel_rfl) (by kernel_rfl) (fun _ _ _ h => h) (reg.wanted_of 3 true 16 rfl (by kernel_rfl) (by simp [Act.put, hsz])) (hM.ls (by simp)) (fun W hW => by simp [execOp, go_sem, Act.put, hsz, s1, s4, s6, s7]) ?_
 refine reg.e_take (i := 7) (.bool true) rfl (by kernel_rfl) (by kernel_rfl) (by kernel_rfl) (by kernel_rfl) (fun _ _ _ h => h) (reg.wanted_of 3 true 16 rfl (by kernel_rfl) (by simp [Act.put, hsz])) (hM.ls (by simp)) (fun W hW => by simp [execOp, go_sem, Act.put, hsz, s1, s4, s6, s7, hb]) ?_
 refine reg.e_take (i := 8) (.bool true) rfl (by kernel_rfl) (by kernel_rfl) (by kernel_rfl) (by kernel_rfl) (fun _ _ _ h => h) (reg.wanted_none rfl) (hM.ls (by simp)) (fun W hW => by simp [execOp, go_sem, Act.put, hsz, s1, s4, s6, s7]) ?_
 refine reg.e_take (i := 9) (.bool true) rfl (by kernel_rfl) (by kernel_rfl) (by kernel_rfl) (by kernel_rfl) (fun _ _ _ h => h) (reg.wanted_none rfl) (hM.ls (by simp)) (fun W hW => by simp [execOp, go_sem, Act.put, hsz, s1, s4, s6, s7]) ?_
 refine reg.e_take (i := 10) (.pointer (some ⟨zb, 11, none⟩)) rfl (by kernel_rfl) (by kernel_rfl) (by kernel_rfl) (by kernel_rfl) (fun _ _ _ h => h) (reg.wanted_of 9 true 22 rfl (by kernel_rfl) (by simp [Act.put, hsz])) (hM.ls (by simp)) (fun W hW => by simp [execOp, go_sem, Act.put, hsz, s1, s4, s6, s7]) ?_
 refine reg.e_take (i := 11) (.int .i64 d.cf) rfl (by kernel_rfl) (by kernel_rfl) (by kernel_rfl) (by kernel_rfl) (fun _ _ _ h => h) (reg.wanted_of 9 true 22 rfl (by kernel_rfl) (by simp [Act.put, hsz])) (hM.ls (by simp)) (fun W hW => ex_get rfl (by simp [go_sem, Act.put, hsz, s1, s4, s6, s7]) hW.at0 HM1.out) ?_
 refine reg.e_take (i := 12) (.bool true) rfl (by kernel_rfl) (by kernel_rfl) (by kernel_rfl) (by kernel_rfl) (fun _ _ _ h => h) (reg.wanted_of 9 true 22 rfl (by kernel_rfl) (by simp [Act.put, hsz])) (hM.ls (by simp)) (fun W hW => by simp [execOp, go_sem, Act.put, hsz, s1, s4, s6, s7, hc]) ?_
 refine reg.e_take (i := 13) (.bool true) rfl (by kernel_rfl) (by kernel_rfl) (by kernel_rfl) (by kernel_rfl) (fun _ _ _ h => h) (reg.wanted_none rfl) (hM.ls (by simp)) (fun W hW => by simp [execOp, go_sem, Act.put, hsz, s1, s4, s6, s7]) ?_
 refine reg.e_one 14 (by kernel_rfl) rfl ?_
 refine r_fill (i := 14) rfl (reg.wanted_none rfl) rfl row_device (by simp [go_sem, Act.put, hsz, s1, s4, s6, s7]) (by simp [go_sem, Act.put, hsz, s1, s4, s6, s7]) hM.at1 HV.out rfl ?_
 intro ru1 rhv rhc
 replace hM := hM.put1 rhc rhv
 clear rhc rhv
 refine ⟨hM.ls (by simp), ?_⟩
 refine reg.e_take (i := 15) (.bool true) rfl (by kernel_rfl) (by kernel_rfl) (by kernel_rfl) (by kernel_rfl) (fun _ _ _ h => h) (reg.wanted_none rfl) (hM.ls (by simp)) (fun W hW => by simp [execOp, go_sem, Act.put, hsz, s1, s4, s6, s7]) ?_
 refine reg.e_done (by kernel_rfl) ?_ _
 subst ha0
 clear hsz s1 s4 s6 s7
 go_simp
 repeat' (first | go_values | go_skip | go_guarded | go_step | go_upon | (simp only [Int.not_lt, Int.not_le] at *; go_simp))
 exact bodyPost_ret (ret_2 rfl rfl (ld_var row_device hM.at1 HV.out.len) rfl) rfl ⟨by simp only [ha, hb, hc, Bool.false_and, Bool.true_and]; rfl, hM.below⟩
end Go.Proofs.YtonheibhbilhhaaGreat.greet
namespace Go.Proofs.YtonheibhbilhhaaGreat.greet
open Go Go.RowKit Go.PlainAid Go.Proofs.YtonheibhbilhhaaGreat.lane Go.Proofs.YtonheibhbilhhaaGreat.desc
set_option linter.unusedVariables false
set_option linter.unusedSimpArgs false
set_option maxRecDepth 100000
section
variable {g : Gr} {s : ByteArray}
theorem k1 (h : g.st = 1) : keepV g s = if hdD s = true then some { g with m0 := bt s 7 } else none := by unfold keepV; rw [if_pos h]
theorem k3 (h : g.st = 3) : keepV g s = if okD s g.m0 = true then some { g with d := rdD s } else none := by unfold keepV; rw [if_neg (by omega), if_pos h]
theorem k4 (h : g.st = 4) : keepV g s = if hdC s = true then some { g with tot := w2 s } else none := by unfold keepV; rw [if_neg (by omega), if_neg (by omega), if_pos h]
theorem k5 (h : g.st = 5) : keepV g s = match rcO s with | some c => if (s.size : Int) = g.tot then some { g with c := c } else none | none => none := by unfold keepV; rw [if_neg (by omega), if_neg (by omega), if_neg (by omega), if_pos h]; rfl
theorem k6 (h : g.st = 6) : keepV g s = if rdC s = 0 then some { g with sr := rdT s } else none := by unfold keepV; rw [if_neg (by omega), if_neg (by omega), if_neg (by omega), if_neg (by omega), if_pos h]
theorem k27 (h : g.st = 2 ∨ g.st = 7) : keepV g s = if s.size = 0 then some g else none := by unfold keepV; rw [if_neg (by omega), if_neg (by omega), if_neg (by omega), if_neg (by omega), if_neg (by omega)]
theorem k5_some (h : g.st = 5) : (keepV g s).isSome = rgB s g.tot := by
 rw [k5 h]
 unfold rgB
 cases rcO s with
 | none => rfl
 | some c =>
  show (if (s.size : Int) = g.tot then some { g with c := c } else none).isSome = (true && decide ((s.size : Int) = g.tot))
  rw [Bool.true_and]
  by_cases q : (s.size : Int) = g.tot
  ·rw [if_pos q, decide_eq_true q]; rfl
  ·rw [if_neg q, decide_eq_false q]; rfl
end
theorem v_putx {ops : Array Oper} {rest : List Oper} {o : Oper} {a : Act} {w : World} {Q : Exit → Act → World → Prop} (hgd : Region.wanted o (yielded ops a.tmps) = true) {t : TypeId} {x y : Operand} (ho : o.op = .store t x y) {v : Value} (ht : One t v)
  {B j : Nat} {T : TypeId} {l l' : List Value} (hx : a.eval x = .pointer (some ⟨B, j, none⟩)) (hy : a.eval y = v) (hB : w.heap[B]? = some (bx T l)) (hle : j < l.length) (hl : l.set j v = l')
  (h : ∀ u, u.heap[B]? = some (bx T l') → Chg B w u → wpList Tryz.prog ops Q rest (a.put o.dst undef) u) : wpList Tryz.prog ops Q (o :: rest) a w := by
 subst hl
 exact v_put hgd ho ht hx hy hB hle h
set_option maxHeartbeats 2000000 in
theorem missed_any (g : Gr) (uv : Value) (e : Int) (w : World) (h : 0 ≤ g.tr ∧ g.tr ≤ 2) (hu : uv.oneCell' = true) : Calls Tryz.prog 29 #[grV g uv, .int .i64 e] w fun r w' => r = .returned (grV (missG g e) uv) ∧ Below w.heap.size w w' := by
 have h3 : g.tr = 0 ∨ g.tr = 1 ∨ g.tr = 2 := by omega
 have hM := Mm.nil w
 rcases h3 with h3 | h3 | h3
 ·have hg : missG g e = { g with tr := 1 } := by unfold missG; rw [if_neg (by omega), h3]; rfl
  rw [hg]
  have H3 : Hid (g.tr = 0) := h3
  clear h3 hg h
  go_enter Tryz.func29, Tryz.ntmps29
  repeat' (first | (go_big_may; first | (refine v_box rfl rfl rfl ?_; intro u zg hN; replace hM := hM.new hN; clear hN) | (refine v_alloc rfl zer_greeting rfl ?_; intro u za hN; replace hM := hM.new hN; clear hN) | (refine v_get rfl rfl lod_int rfl hM.at1 (v := .int .i64 0) (by rw [← H3.out]; rfl) ?_) | (refine v_putx rfl rfl (one_int 1) rfl rfl hM.at1 (of_decide_eq_true rfl) (show _ = grl { g with tr := 1 } uv from rfl) ?_; intro u hv hc; replace hM := hM.put1 hc hv; clear hv hc) | (refine v_get rfl rfl (by first | exact lod_int | exact lod_str | exact lod_fcs | exact lod_err) rfl hM.at1 rfl ?_) | (refine v_load rfl rfl row_greeting rfl hM.at1 (Nat.le_refl _) (cut_all rfl) ?_) | (refine v_fill rfl rfl row_greeting rfl rfl hM.at0 (grl_vs _ hu) rfl ?_; intro u hv hc; replace hM := hM.put0 hc hv; clear hv hc)) | go_values | go_skip | go_guarded | go_step | go_upon | (simp only [Int.not_lt, Int.not_le] at *; go_simp))
  exact bodyPost_ret (ret_1 rfl rfl (ld_var row_greeting hM.at0 rfl)) rfl ⟨rfl, hM.below⟩
 ·have hg : missG g e = { g with tr := 2 } := by unfold missG; rw [if_neg (by omega), h3]; rfl
  rw [hg]
  have H3 : Hid (g.tr = 1) := h3
  clear h3 hg h
  go_enter Tryz.func29, Tryz.ntmps29
  repeat' (first | (go_big_may; first | (refine v_box rfl rfl rfl ?_; intro u zg hN; replace hM := hM.new hN; clear hN) | (refine v_alloc rfl zer_greeting rfl ?_; intro u za hN; replace hM := hM.new hN; clear hN) | (refine v_get rfl rfl lod_int rfl hM.at1 (v := .int .i64 1) (by rw [← H3.out]; rfl) ?_) | (refine v_putx rfl rfl (one_int 2) rfl rfl hM.at1 (of_decide_eq_true rfl) (show _ = grl { g with tr := 2 } uv from rfl) ?_; intro u hv hc; replace hM := hM.put1 hc hv; clear hv hc) | (refine v_get rfl rfl (by first | exact lod_int | exact lod_str | exact lod_fcs | exact lod_err) rfl hM.at1 rfl ?_) | (refine v_load rfl rfl row_greeting rfl hM.at1 (Nat.le_refl _) (cut_all rfl) ?_) | (refine v_fill rfl rfl row_greeting rfl rfl hM.at0 (grl_vs _ hu) rfl ?_; intro u hv hc; replace hM := hM.put0 hc hv; clear hv hc)) | go_values | go_skip | go_guarded | go_step | go_upon | (simp only [Int.not_lt, Int.not_le] at *; go_simp))
  exact bodyPost_ret (ret_1 rfl rfl (ld_var row_greeting hM.at0 rfl)) rfl ⟨rfl, hM.below⟩
 ·have hg : missG g e = { g with tr := 0, st := 9, er := e } := by unfold missG; rw [if_pos h3]
  rw [hg]
  have H3 : Hid (g.tr = 2) := h3
  clear h3 hg h
  go_enter Tryz.func29, Tryz.ntmps29
  repeat' (first | (go_big_may; first | (refine v_box rfl rfl rfl ?_; intro u zg hN; replace hM := hM.new hN; clear hN) | (refine v_alloc rfl zer_greeting rfl ?_; intro u za hN; replace hM := hM.new hN; clear hN) | (refine v_get rfl rfl lod_int rfl hM.at1 (v := .int .i64 2) (by rw [← H3.out]; rfl) ?_) | (refine v_putx rfl rfl (one_int 3) rfl rfl hM.at1 (of_decide_eq_true rfl) (show _ = grl { g with tr := 3 } uv from rfl) ?_; intro u hv hc; replace hM := hM.put1 hc hv; clear hv hc) | (refine v_get rfl rfl (by first | exact lod_int | exact lod_str | exact lod_fcs | exact lod_err) rfl hM.at1 rfl ?_) | (refine v_putx rfl rfl (one_int 0) rfl rfl hM.at1 (of_decide_eq_true rfl) (show _ = grl { g with tr := 0 } uv from rfl) ?_; intro u hv hc; replace hM := hM.put1 hc hv; clear hv hc) | (refine v_putx rfl rfl (one_int 9) rfl rfl hM.at1 (of_decide_eq_true rfl) (show _ = grl { g with tr := 0, st := 9 } uv from rfl) ?_; intro u hv hc; replace hM := hM.put1 hc hv; clear hv hc) | (refine v_putx rfl rfl (one_err e) rfl rfl hM.at1 (of_decide_eq_true rfl) (show _ = grl { g with tr := 0, st := 9, er := e } uv from rfl) ?_; intro u hv hc; replace hM := hM.put1 hc hv; clear hv hc) | (refine v_load rfl rfl row_greeting rfl hM.at1 (Nat.le_refl _) (cut_all rfl) ?_) | (refine v_fill rfl rfl row_greeting rfl rfl hM.at0 (grl_vs _ hu) rfl ?_; intro u hv hc; replace hM := hM.put0 hc hv; clear hv hc)) | go_values | go_skip | go_guarded | go_step | go_upon | (simp only [Int.not_lt, Int.not_le] at *; go_simp))
  exact bodyPost_ret (ret_1 rfl rfl (ld_var row_greeting hM.at0 rfl)) rfl ⟨rfl, hM.below⟩
set_option maxHeartbeats 2000000 in
theorem stepBehind_any (g : Gr) (u : Value) (w : World) (h : 1 ≤ g.st ∧ g.st ≤ 9) : Calls Tryz.prog 31 #[grV g u] w fun r w' => r = .returned (.int .i64 (stepB g)) ∧ Below w.heap.size w w' := by
 have hwr : IntKind.i64.wrap (g.st + 1) = g.st + 1 := by rw [IntKind.wrap_i64]; omega
 have hM := Mm.nil w
 unfold stepB
 by_cases h5 : g.st = 5
 ·by_cases h0 : g.d.se = 0
  ·rw [if_pos ⟨h5, h0⟩]
   have e1 : (g.st == 5) = true := by simpa using h5
   have e2 : (g.d.se == 0) = true := by simpa using h0
   clear h5 h0 h
   go_enter Tryz.func31, Tryz.ntmps31
   repeat' (first | (go_big_may; first | (refine v_box rfl rfl rfl ?_; intro u zg hN; replace hM := hM.new hN; clear hN) | (refine v_get rfl rfl (by first | exact lod_int | exact lod_str | exact lod_fcs | exact lod_err) rfl hM.at0 rfl ?_)) | go_values | go_skip | go_guarded | go_step | go_upon | (simp only [Int.not_lt, Int.not_le] at *; go_simp))
   go_ret
   exact ⟨rfl, hM.below⟩
  ·rw [if_neg (fun q => h0 q.2)]
   have e1 : (g.st == 5) = true := by simpa using h5
   have e2 : (g.d.se == 0) = false := by simpa using h0
   clear h5 h0 h
   go_enter Tryz.func31, Tryz.ntmps31
   repeat' (first | (go_big_may; first | (refine v_box rfl rfl rfl ?_; intro u zg hN; replace hM := hM.new hN; clear hN) | (refine v_get rfl rfl (by first | exact lod_int | exact lod_str | exact lod_fcs | exact lod_err) rfl hM.at0 rfl ?_)) | go_values | go_skip | go_guarded | go_step | go_upon | (simp only [Int.not_lt, Int.not_le] at *; go_simp))
   go_ret
   exact ⟨rfl, hM.below⟩
 ·rw [if_neg (fun q => h5 q.1)]
  have e1 : (g.st == 5) = false := by simpa using h5
  clear h5 h
  go_enter Tryz.func31, Tryz.ntmps31
  repeat' (first | (go_big_may; first | (refine v_box rfl rfl rfl ?_; intro u zg hN; replace hM := hM.new hN; clear hN) | (refine v_get rfl rfl (by first | exact lod_int | exact lod_str | exact lod_fcs | exact lod_err) rfl hM.at0 rfl ?_)) | go_values | go_skip | go_guarded | go_step | go_upon | (simp only [Int.not_lt, Int.not_le] at *; go_simp))
  go_ret
  exact ⟨rfl, hM.below⟩
def KeP (g : Gr) (u : Value) (s : ByteArray) (w : World) (e : Ending) (w' : World) : Prop :=
 ∃ k u' vf L, e = .returned (.tuple #[grV k u', .bool (keepV g s).isSome]) ∧ u'.oneCell' = true ∧ (∀ k', keepV g s = some k' → k = k' ∧ ((u' = u ∧ k.c = g.c) ∨ (u' = vf ∧ L.map Prod.fst = k.c.fs))) ∧ Oc w w' vf L ∧ Below w.heap.size w w'
set_option maxHeartbeats 8000000 in
theorem keep_any (hco : CoAll) (g : Gr) (uv : Value) (s : ByteArray) (w : World) (h : okG g = true) (h8 : ¬ 8 ≤ g.st) (hu : uv.oneCell' = true) (hm : s.size ≤ maxLen) :
  Calls Tryz.prog 30 #[grV g uv, .string s] w (KeP g uv s w) := by
 have H1 : Hid (∀ w, Calls Tryz.prog 63 #[.string s] w fun e w' => (∃ x, (hdD s = true → x = bt s 7) ∧ e = .returned (.tuple #[.int .i64 x, .bool (hdD s)])) ∧ w = w') := fun w => readDeviceHead_any s w hm
 have H3 : Hid (∀ w, Calls Tryz.prog 64 #[.string s, .int .i64 g.m0] w fun e w' => e = .returned (.tuple #[ag (dvl (rdD s)), .bool (okD s g.m0)]) ∧ Below w.heap.size w w') := fun w => readDevice_greet s g.m0 w hm
 have H4 : Hid (∀ w, Calls Tryz.prog 65 #[.string s] w fun e w' => (∃ x, (hdC s = true → x = w2 s) ∧ e = .returned (.tuple #[.int .i64 x, .bool (hdC s)])) ∧ Below w.heap.size w w') := fun w => readConfigHead_any s w hm
 have H5 : Hid (∀ w, Calls Tryz.prog 66 #[.string s, .int .i64 g.tot] w fun e w' => ∃ c vf L, e = .returned (.tuple #[ag (cfl c vf), .bool (rgB s g.tot)]) ∧ Oc w w' vf L ∧ L.map Prod.fst = c.fs ∧ (rgB s g.tot = true → rcO s = some c) ∧ Below w.heap.size w w') := fun w => readConfig_greet hco s g.tot w hm
 have H6 : Hid (∀ w, Calls Tryz.prog 67 #[.string s] w fun e w' => e = .returned (.tuple #[.string (rdT s), .bool (rdC s == 0)]) ∧ Below w.heap.size w w') := fun w => readText_greet s w hm
 have h7 := st_seven h h8
 have hes : s.toList.isEmpty = decide (s.size = 0) := by
  have e : (s.toList == (⟨#[]⟩ : ByteArray).toList) = decide (s.size = 0) := by
   rw [toList_beq]
   by_cases q : s.size = 0
   ·rw [decide_eq_true q, decide_eq_true]
    have : s.data = #[] := Array.eq_empty_of_size_eq_zero q
    cases s; simp only at this; rw [this]
   ·rw [decide_eq_false q, decide_eq_false]
    intro z; rw [z] at q; exact q rfl
  rw [← e]
  simp
 have HES : Hid (s.toList.isEmpty = decide (s.size = 0)) := hes
 have hM := Mo.nil w
 clear h h8 hm hco hes
 rcases h7 with h7 | h7
 ·clear H3 H4 H5 H6
  have H7 : Hid (g.st = 1) := h7
  clear h7
  go_enter Tryz.func30, Tryz.ntmps30
  repeat' (first | (go_big_may; first | (refine v_box rfl rfl rfl ?_; intro u zg hN; replace hM := hM.new hN; clear hN) | (refine v_alloc rfl zer_greeting rfl ?_; intro u za hN; replace hM := hM.new hN; clear hN) | (refine v_get rfl rfl lod_int rfl hM.at1 (v := .int .i64 1) (by rw [← H7.out]; rfl) ?_) | (refine v_get rfl rfl (by first | exact lod_int | exact lod_str | exact lod_fcs | exact lod_err) rfl hM.at1 rfl ?_) | (refine v_load rfl rfl row_greeting rfl hM.at1 (Nat.le_refl _) (cut_all rfl) ?_) | (refine v_fill rfl rfl row_greeting rfl rfl hM.at0 (grl_vs _ hu) rfl ?_; intro u hv hc; replace hM := hM.put0 hc hv; clear hv hc)) | go_values | go_skip | go_guarded | go_step | go_upon | (simp only [Int.not_lt, Int.not_le] at *; go_simp))
  refine (H1.out _).mono ?_
  rintro e u1 ⟨⟨x, hx, rfl⟩, rfl⟩
  repeat' (first | (go_big_may; first | (refine v_putx rfl rfl (one_int x) rfl rfl hM.at1 (of_decide_eq_true rfl) (show _ = grl { g with m0 := x } uv from rfl) ?_; intro u hv hc; replace hM := hM.put1 hc hv; clear hv hc) | (refine v_load rfl rfl row_greeting rfl hM.at1 (Nat.le_refl _) (cut_all rfl) ?_) | (refine v_fill rfl rfl row_greeting rfl rfl hM.at0 (grl_vs _ hu) rfl ?_; intro u hv hc; replace hM := hM.put0 hc hv; clear hv hc)) | go_values | go_skip | go_guarded | go_step | go_upon | (simp only [Int.not_lt, Int.not_le] at *; go_simp))
  have h7 := H7.out
  refine bodyPost_ret (ret_2 rfl rfl (ld_var row_greeting hM.at0 rfl) rfl) rfl ⟨{ g with m0 := x }, uv, nilS, [], ?_, hu, ?_, hM.own, hM.below⟩
  ·rw [show (keepV g s).isSome = hdD s by rw [k1 h7]; cases hdD s <;> rfl]; rfl
  ·intro k' hk
   rw [k1 h7] at hk
   by_cases q : hdD s = true
   ·rw [if_pos q] at hk; injection hk with hk; subst hk; exact ⟨by rw [hx q], .inl ⟨rfl, rfl⟩⟩
   ·rw [if_neg q] at hk; cases hk
 rcases h7 with h7 | h7
 ·clear H1 H3 H4 H5 H6
  have H7 : Hid (g.st = 2) := h7
  clear h7
  go_enter Tryz.func30, Tryz.ntmps30
  repeat' (first | (go_big_may; first | (refine v_box rfl rfl rfl ?_; intro u zg hN; replace hM := hM.new hN; clear hN) | (refine v_alloc rfl zer_greeting rfl ?_; intro u za hN; replace hM := hM.new hN; clear hN) | (refine v_get rfl rfl lod_int rfl hM.at1 (v := .int .i64 2) (by rw [← H7.out]; rfl) ?_) | (refine v_get rfl rfl (by first | exact lod_int | exact lod_str | exact lod_fcs | exact lod_err) rfl hM.at1 rfl ?_) | (refine v_load rfl rfl row_greeting rfl hM.at1 (Nat.le_refl _) (cut_all rfl) ?_) | (refine v_fill rfl rfl row_greeting rfl rfl hM.at0 (grl_vs _ hu) rfl ?_; intro u hv hc; replace hM := hM.put0 hc hv; clear hv hc)) | go_values | go_skip | go_guarded | go_step | go_upon | (simp only [Int.not_lt, Int.not_le] at *; go_simp))
  have h7 := H7.out
  refine bodyPost_ret (ret_2 rfl rfl (ld_var row_greeting hM.at0 rfl) rfl) rfl ⟨g, uv, nilS, [], ?_, hu, ?_, hM.own, hM.below⟩
  ·rw [show (keepV g s).isSome = decide (s.size = 0) by rw [k27 (by omega)]; by_cases q : s.size = 0 <;> simp [q], ← HES.out]; rfl
  ·intro k' hk
   rw [k27 (by omega)] at hk
   by_cases q : s.size = 0
   ·rw [if_pos q] at hk; injection hk with hk; subst hk; exact ⟨rfl, .inl ⟨rfl, rfl⟩⟩
   ·rw [if_neg q] at hk; cases hk
 rcases h7 with h7 | h7
 ·clear H1 H4 H5 H6
  have H7 : Hid (g.st = 3) := h7
  clear h7
  go_enter Tryz.func30, Tryz.ntmps30
  repeat' (first | (go_big_may; first | (refine v_box rfl rfl rfl ?_; intro u zg hN; replace hM := hM.new hN; clear hN) | (refine v_alloc rfl zer_greeting rfl ?_; intro u za hN; replace hM := hM.new hN; clear hN) | (refine v_get rfl rfl lod_int rfl hM.at1 (v := .int .i64 3) (by rw [← H7.out]; rfl) ?_) | (refine v_get rfl rfl (by first | exact lod_int | exact lod_str | exact lod_fcs | exact lod_err) rfl hM.at1 rfl ?_) | (refine v_load rfl rfl row_greeting rfl hM.at1 (Nat.le_refl _) (cut_all rfl) ?_) | (refine v_fill rfl rfl row_greeting rfl rfl hM.at0 (grl_vs _ hu) rfl ?_; intro u hv hc; replace hM := hM.put0 hc hv; clear hv hc)) | go_values | go_skip | go_guarded | go_step | go_upon | (simp only [Int.not_lt, Int.not_le] at *; go_simp))
  refine (H3.out _).mono ?_
  rintro e u1 ⟨rfl, hb⟩
  replace hM := hM.call hb
  repeat' (first | (go_big_may; first | (refine v_store rfl rfl row_device rfl rfl hM.at1 (dvl_vs _) (of_decide_eq_true rfl) (show _ = grl { g with d := rdD s } uv from rfl) ?_; intro u hv hc; replace hM := hM.put1 hc hv; clear hv hc) | (refine v_load rfl rfl row_greeting rfl hM.at1 (Nat.le_refl _) (cut_all rfl) ?_) | (refine v_fill rfl rfl row_greeting rfl rfl hM.at0 (grl_vs _ hu) rfl ?_; intro u hv hc; replace hM := hM.put0 hc hv; clear hv hc)) | go_values | go_skip | go_guarded | go_step | go_upon | (simp only [Int.not_lt, Int.not_le] at *; go_simp))
  have h7 := H7.out
  refine bodyPost_ret (ret_2 rfl rfl (ld_var row_greeting hM.at0 rfl) rfl) rfl ⟨{ g with d := rdD s }, uv, nilS, [], ?_, hu, ?_, hM.own, hM.below⟩
  ·rw [show (keepV g s).isSome = okD s g.m0 by rw [k3 h7]; cases okD s g.m0 <;> rfl]; rfl
  ·intro k' hk
   rw [k3 h7] at hk
   by_cases q : okD s g.m0 = true
   ·rw [if_pos q] at hk; injection hk with hk; subst hk; exact ⟨rfl, .inl ⟨rfl, rfl⟩⟩
   ·rw [if_neg q] at hk; cases hk
 rcases h7 with h7 | h7
 ·clear H1 H3 H5 H6
  have H7 : Hid (g.st = 4) := h7
  clear h7
  go_enter Tryz.func30, Tryz.ntmps30
  repeat' (first | (go_big_may; first | (refine v_box rfl rfl rfl ?_; intro u zg hN; replace hM := hM.new hN; clear hN) | (refine v_alloc rfl zer_greeting rfl ?_; intro u za hN; replace hM := hM.new hN; clear hN) | (refine v_get rfl rfl lod_int rfl hM.at1 (v := .int .i64 4) (by rw [← H7.out]; rfl) ?_) | (refine v_get rfl rfl (by first | exact lod_int | exact lod_str | exact lod_fcs | exact lod_err) rfl hM.at1 rfl ?_) | (refine v_load rfl rfl row_greeting rfl hM.at1 (Nat.le_refl _) (cut_all rfl) ?_) | (refine v_fill rfl rfl row_greeting rfl rfl hM.at0 (grl_vs _ hu) rfl ?_; intro u hv hc; replace hM := hM.put0 hc hv; clear hv hc)) | go_values | go_skip | go_guarded | go_step | go_upon | (simp only [Int.not_lt, Int.not_le] at *; go_simp))
  refine (H4.out _).mono ?_
  rintro e u1 ⟨⟨x, hx, rfl⟩, hb⟩
  replace hM := hM.call hb
  repeat' (first | (go_big_may; first | (refine v_putx rfl rfl (one_int x) rfl rfl hM.at1 (of_decide_eq_true rfl) (show _ = grl { g with tot := x } uv from rfl) ?_; intro u hv hc; replace hM := hM.put1 hc hv; clear hv hc) | (refine v_load rfl rfl row_greeting rfl hM.at1 (Nat.le_refl _) (cut_all rfl) ?_) | (refine v_fill rfl rfl row_greeting rfl rfl hM.at0 (grl_vs _ hu) rfl ?_; intro u hv hc; replace hM := hM.put0 hc hv; clear hv hc)) | go_values | go_skip | go_guarded | go_step | go_upon | (simp only [Int.not_lt, Int.not_le] at *; go_simp))
  have h7 := H7.out
  refine bodyPost_ret (ret_2 rfl rfl (ld_var row_greeting hM.at0 rfl) rfl) rfl ⟨{ g with tot := x }, uv, nilS, [], ?_, hu, ?_, hM.own, hM.below⟩
  ·rw [show (keepV g s).isSome = hdC s by rw [k4 h7]; cases hdC s <;> rfl]; rfl
  ·intro k' hk
   rw [k4 h7] at hk
   by_cases q : hdC s = true
   ·rw [if_pos q] at hk; injection hk with hk; subst hk; exact ⟨by rw [hx q], .inl ⟨rfl, rfl⟩⟩
   ·rw [if_neg q] at hk; cases hk
 rcases h7 with h7 | h7
 ·clear H1 H3 H4 H6
  have H7 : Hid (g.st = 5) := h7
  clear h7
  go_enter Tryz.func30, Tryz.ntmps30
  repeat' (first | (go_big_may; first | (refine v_box rfl rfl rfl ?_; intro u zg hN; replace hM := hM.new hN; clear hN) | (refine v_alloc rfl zer_greeting rfl ?_; intro u za hN; replace hM := hM.new hN; clear hN) | (refine v_get rfl rfl lod_int rfl hM.at1 (v := .int .i64 5) (by rw [← H7.out]; rfl) ?_) | (refine v_get rfl rfl (by first | exact lod_int | exact lod_str | exact lod_fcs | exact lod_err) rfl hM.at1 rfl ?_) | (refine v_load rfl rfl row_greeting rfl hM.at1 (Nat.le_refl _) (cut_all rfl) ?_) | (refine v_fill rfl rfl row_greeting rfl rfl hM.at0 (grl_vs _ hu) rfl ?_; intro u hv hc; replace hM := hM.put0 hc hv; clear hv hc)) | go_values | go_skip | go_guarded | go_step | go_upon | (simp only [Int.not_lt, Int.not_le] at *; go_simp))
  refine (H5.out _).mono ?_
  rintro e u1 ⟨c, vf, L, rfl, ho, he, hq, hb⟩
  have h1 := ho.one
  replace hM := hM.take hb ho
  clear hb ho
  repeat' (first | (go_big_may; first | (refine v_store rfl rfl row_config rfl rfl hM.at1 (cfl_vs c h1) (of_decide_eq_true rfl) (show _ = grl { g with c := c } vf from rfl) ?_; intro u hv hc; replace hM := hM.put1 hc hv; clear hv hc) | (refine v_load rfl rfl row_greeting rfl hM.at1 (Nat.le_refl _) (cut_all rfl) ?_) | (refine v_fill rfl rfl row_greeting rfl rfl hM.at0 (grl_vs _ h1) rfl ?_; intro u hv hc; replace hM := hM.put0 hc hv; clear hv hc)) | go_values | go_skip | go_guarded | go_step | go_upon | (simp only [Int.not_lt, Int.not_le] at *; go_simp))
  have h7 := H7.out
  refine bodyPost_ret (ret_2 rfl rfl (ld_var row_greeting hM.at0 rfl) rfl) rfl ⟨{ g with c := c }, vf, vf, L, ?_, h1, ?_, hM.own, hM.below⟩
  ·rw [k5_some h7]; rfl
  ·intro k' hk
   have hs : (keepV g s).isSome = true := by rw [hk]; rfl
   rw [k5_some h7] at hs
   have hc := hq hs
   rw [rgB_some hc, decide_eq_true_eq] at hs
   rw [k5 h7, hc] at hk
   simp only [hs, if_true] at hk
   injection hk with hk; subst hk
   exact ⟨rfl, .inr ⟨rfl, he⟩⟩
 rcases h7 with h7 | h7
 ·clear H1 H3 H4 H5
  have H7 : Hid (g.st = 6) := h7
  clear h7
  go_enter Tryz.func30, Tryz.ntmps30
  repeat' (first | (go_big_may; first | (refine v_box rfl rfl rfl ?_; intro u zg hN; replace hM := hM.new hN; clear hN) | (refine v_alloc rfl zer_greeting rfl ?_; intro u za hN; replace hM := hM.new hN; clear hN) | (refine v_get rfl rfl lod_int rfl hM.at1 (v := .int .i64 6) (by rw [← H7.out]; rfl) ?_) | (refine v_get rfl rfl (by first | exact lod_int | exact lod_str | exact lod_fcs | exact lod_err) rfl hM.at1 rfl ?_) | (refine v_load rfl rfl row_greeting rfl hM.at1 (Nat.le_refl _) (cut_all rfl) ?_) | (refine v_fill rfl rfl row_greeting rfl rfl hM.at0 (grl_vs _ hu) rfl ?_; intro u hv hc; replace hM := hM.put0 hc hv; clear hv hc)) | go_values | go_skip | go_guarded | go_step | go_upon | (simp only [Int.not_lt, Int.not_le] at *; go_simp))
  refine (H6.out _).mono ?_
  rintro e u1 ⟨rfl, hb⟩
  replace hM := hM.call hb
  repeat' (first | (go_big_may; first | (refine v_putx rfl rfl (one_str (rdT s)) rfl rfl hM.at1 (of_decide_eq_true rfl) (show _ = grl { g with sr := rdT s } uv from rfl) ?_; intro u hv hc; replace hM := hM.put1 hc hv; clear hv hc) | (refine v_load rfl rfl row_greeting rfl hM.at1 (Nat.le_refl _) (cut_all rfl) ?_) | (refine v_fill rfl rfl row_greeting rfl rfl hM.at0 (grl_vs _ hu) rfl ?_; intro u hv hc; replace hM := hM.put0 hc hv; clear hv hc)) | go_values | go_skip | go_guarded | go_step | go_upon | (simp only [Int.not_lt, Int.not_le] at *; go_simp))
  have h7 := H7.out
  refine bodyPost_ret (ret_2 rfl rfl (ld_var row_greeting hM.at0 rfl) rfl) rfl ⟨{ g with sr := rdT s }, uv, nilS, [], ?_, hu, ?_, hM.own, hM.below⟩
  ·rw [show (keepV g s).isSome = (rdC s == 0) by rw [k6 h7]; by_cases q : rdC s = 0 <;> simp [q]]; rfl
  ·intro k' hk
   rw [k6 h7] at hk
   by_cases q : rdC s = 0
   ·rw [if_pos q] at hk; injection hk with hk; subst hk; exact ⟨rfl, .inl ⟨rfl, rfl⟩⟩
   ·rw [if_neg q] at hk; cases hk
 skip
 ·clear H1 H3 H4 H5 H6
  have H7 : Hid (g.st = 7) := h7
  clear h7
  go_enter Tryz.func30, Tryz.ntmps30
  repeat' (first | (go_big_may; first | (refine v_box rfl rfl rfl ?_; intro u zg hN; replace hM := hM.new hN; clear hN) | (refine v_alloc rfl zer_greeting rfl ?_; intro u za hN; replace hM := hM.new hN; clear hN) | (refine v_get rfl rfl lod_int rfl hM.at1 (v := .int .i64 7) (by rw [← H7.out]; rfl) ?_) | (refine v_get rfl rfl (by first | exact lod_int | exact lod_str | exact lod_fcs | exact lod_err) rfl hM.at1 rfl ?_) | (refine v_load rfl rfl row_greeting rfl hM.at1 (Nat.le_refl _) (cut_all rfl) ?_) | (refine v_fill rfl rfl row_greeting rfl rfl hM.at0 (grl_vs _ hu) rfl ?_; intro u hv hc; replace hM := hM.put0 hc hv; clear hv hc)) | go_values | go_skip | go_guarded | go_step | go_upon | (simp only [Int.not_lt, Int.not_le] at *; go_simp))
  have h7 := H7.out
  refine bodyPost_ret (ret_2 rfl rfl (ld_var row_greeting hM.at0 rfl) rfl) rfl ⟨g, uv, nilS, [], ?_, hu, ?_, hM.own, hM.below⟩
  ·rw [show (keepV g s).isSome = decide (s.size = 0) by rw [k27 (by omega)]; by_cases q : s.size = 0 <;> simp [q], ← HES.out]; rfl
  ·intro k' hk
   rw [k27 (by omega)] at hk
   by_cases q : s.size = 0
   ·rw [if_pos q] at hk; injection hk with hk; subst hk; exact ⟨rfl, .inl ⟨rfl, rfl⟩⟩
   ·rw [if_neg q] at hk; cases hk
end Go.Proofs.YtonheibhbilhhaaGreat.greet
