/- regions that draw their order, step by step, guarded ones, too. No program is named here. -/
import Derived.Test.YtdnmjeiljpdmcaaHubF
import Derived.OrdersHeld
import Derived.RegionTactic
import Derived.Deep.CutRange
import Derived.Test.YtdnmjeiljpdmcaaRegE
namespace Go.Proofs.Ytdnmjeiljpdmcaa.hub
open Go Go.RowKit
set_option linter.unusedVariables false
set_option linter.unusedSimpArgs false
set_option maxRecDepth 100000

section
variable {P : Program} {md : Region.Mode} {ops : Array Oper} {Q : Exit → Act → World → Prop} {S : World → Prop}
theorem h_take {i : Nat} {o : Oper} (v : Value) {fuel : Nat} {L : Array Bool} {a : Act} {w : World} (hi : ops[i]? = some o) (hs : Region.noSelect ops = true) (hf : Region.free md ops L i = true) (hr : (Region.ready md ops L).contains i = true)
    (hQ : ∀ c a w, Q (.panic c) (a.put o.dst v) w → Q (.panic c) a w) (hg : o.guard = none) (hS : S w) (hy : ∀ W, S W → (execOp a.eval o).run P W = .ok (.value v) W)
    (h : wpAnyH P md ops Q S fuel (L.setIfInBounds i true) (a.put o.dst v) w) : wpAnyH P md ops Q S (fuel + 1) L a w :=
  wpAnyH_take hi hs hf hr hQ (.inl ⟨by simp [Region.wanted, hg], hy⟩) hS h
theorem h_value {i : Nat} {o : Oper} (v : Value) {fuel : Nat} {L : Array Bool} {a : Act} {w w' : World} (hi : ops[i]? = some o) (hr : Region.ready md ops L = [i]) (hg : o.guard = none)
    (hx : (execOp a.eval o).run P w = .ok (.value v) w') (hS : S w') (h : wpAnyH P md ops Q S fuel (L.setIfInBounds i true) (a.put o.dst v) w') : wpAnyH P md ops Q S (fuel + 1) L a w := by
  refine wpAnyH_all hr (by simp) fun j hj => ?_
  obtain rfl : j = i := by simpa using hj
  refine wpOp_step hi fun K' hK => ?_
  rw [if_pos (by simp [Region.wanted, hg])]
  unfold Oper.wp
  rw [hx]
  exact hK _ _ ⟨hS, h⟩
theorem h_skip {i : Nat} {o : Oper} {fuel : Nat} {L : Array Bool} {a : Act} {w w' : World} (hi : ops[i]? = some o) (hr : Region.ready md ops L = [i]) (hg : o.guard = none)
    (hx : (execOp a.eval o).run P w = .ok .skip w') (hS : S w') (h : wpAnyH P md ops Q S fuel (L.setIfInBounds i true) (a.put o.dst undef) w') : wpAnyH P md ops Q S (fuel + 1) L a w := by
  refine wpAnyH_all hr (by simp) fun j hj => ?_
  obtain rfl : j = i := by simpa using hj
  refine wpOp_step hi fun K' hK => ?_
  rw [if_pos (by simp [Region.wanted, hg])]
  unfold Oper.wp
  rw [hx]
  exact hK _ _ ⟨hS, h⟩
/-- a call that comes up alone -/
theorem h_call {i : Nat} {o : Oper} (f : FuncId) (args : Array Value) {fuel : Nat} {L : Array Bool} {a : Act} {w : World} (hi : ops[i]? = some o) (hr : Region.ready md ops L = [i]) (hg : o.guard = none)
    (hx : (execOp a.eval o).run P w = .ok (.enter f args) w) (hc : Calls P f args w fun e w' => ∃ v, e = .returned v ∧ S w' ∧ wpAnyH P md ops Q S fuel (L.setIfInBounds i true) (a.put o.dst v) w') : wpAnyH P md ops Q S (fuel + 1) L a w := by
  refine wpAnyH_all hr (by simp) fun j hj => ?_
  obtain rfl : j = i := by simpa using hj
  refine wpOp_step hi fun K' hK => ?_
  rw [if_pos (by simp [Region.wanted, hg])]
  unfold Oper.wp
  rw [hx]
  simp only [Oper.upon]
  refine hc.mono ?_
  rintro e w' ⟨v, rfl, h1⟩
  exact hK _ _ h1
theorem o_call {i : Nat} {o : Oper} (f : FuncId) (args : Array Value) {K : Act → World → Prop} {a : Act} {w : World} (hi : ops[i]? = some o) (hg : o.guard = none)
    (hx : (execOp a.eval o).run P w = .ok (.enter f args) w) (hc : Calls P f args w fun e w' => ∃ v, e = .returned v ∧ K (a.put o.dst v) w') : wpOp P ops Q i K a w := by
  refine wpOp_step hi fun K' hK => ?_
  rw [if_pos (by simp [Region.wanted, hg])]
  unfold Oper.wp
  rw [hx]
  simp only [Oper.upon]
  refine hc.mono ?_
  rintro e w' ⟨v, rfl, h1⟩
  exact hK _ _ h1
theorem o_value {i : Nat} {o : Oper} (v : Value) {K : Act → World → Prop} {a : Act} {w w' : World} (hi : ops[i]? = some o) (hg : o.guard = none)
    (hx : (execOp a.eval o).run P w = .ok (.value v) w') (h : K (a.put o.dst v) w') : wpOp P ops Q i K a w := by
  refine wpOp_step hi fun K' hK => ?_
  rw [if_pos (by simp [Region.wanted, hg])]
  unfold Oper.wp
  rw [hx]
  exact hK _ _ h
theorem o_skip {i : Nat} {o : Oper} {K : Act → World → Prop} {a : Act} {w w' : World} (hi : ops[i]? = some o) (hg : o.guard = none)
    (hx : (execOp a.eval o).run P w = .ok .skip w') (h : K (a.put o.dst undef) w') : wpOp P ops Q i K a w := by
  refine wpOp_step hi fun K' hK => ?_
  rw [if_pos (by simp [Region.wanted, hg])]
  unfold Oper.wp
  rw [hx]
  exact hK _ _ h
theorem h_two (i j : Nat) {fuel : Nat} {L : Array Bool} {a : Act} {w : World} (hr : Region.ready md ops L = [i, j])
    (h1 : wpOp P ops Q i (fun a' w' => S w' ∧ wpAnyH P md ops Q S fuel (L.setIfInBounds i true) a' w') a w)
    (h2 : wpOp P ops Q j (fun a' w' => S w' ∧ wpAnyH P md ops Q S fuel (L.setIfInBounds j true) a' w') a w) : wpAnyH P md ops Q S (fuel + 1) L a w := by
  refine wpAnyH_all hr (by simp) fun k hk => ?_
  rcases List.mem_cons.1 hk with rfl | hk
  · exact h1
  · obtain rfl : k = j := by simpa using hk
    exact h2
theorem g_take {i : Nat} {o : Oper} (v : Value) {fuel : Nat} {L : Array Bool} {a : Act} {w : World} (hi : ops[i]? = some o) (hs : Region.noSelect ops = true) (hf : Region.free md ops L i = true) (hr : (Region.ready md ops L).contains i = true)
    (hQ : ∀ c a w, Q (.panic c) (a.put o.dst v) w → Q (.panic c) a w) (hw : Region.wanted o (yielded ops a.tmps) = true) (hS : S w) (hy : ∀ W, S W → (execOp a.eval o).run P W = .ok (.value v) W)
    (h : wpAnyH P md ops Q S fuel (L.setIfInBounds i true) (a.put o.dst v) w) : wpAnyH P md ops Q S (fuel + 1) L a w :=
  wpAnyH_take hi hs hf hr hQ (.inl ⟨hw, hy⟩) hS h
theorem g_pass {i : Nat} {o : Oper} {fuel : Nat} {L : Array Bool} {a : Act} {w : World} (hi : ops[i]? = some o) (hs : Region.noSelect ops = true) (hf : Region.free md ops L i = true) (hr : (Region.ready md ops L).contains i = true)
    (hQ : ∀ c a w, Q (.panic c) (a.put o.dst undef) w → Q (.panic c) a w) (hw : Region.wanted o (yielded ops a.tmps) = false) (hS : S w)
    (h : wpAnyH P md ops Q S fuel (L.setIfInBounds i true) (a.put o.dst undef) w) : wpAnyH P md ops Q S (fuel + 1) L a w :=
  wpAnyH_take hi hs hf hr hQ (.inr ⟨hw, rfl⟩) hS h
theorem g_call {i : Nat} {o : Oper} (f : FuncId) (args : Array Value) {fuel : Nat} {L : Array Bool} {a : Act} {w : World} (hi : ops[i]? = some o) (hr : Region.ready md ops L = [i]) (hw : Region.wanted o (yielded ops a.tmps) = true)
    (hx : (execOp a.eval o).run P w = .ok (.enter f args) w) (hc : Calls P f args w fun e w' => ∃ v, e = .returned v ∧ S w' ∧ wpAnyH P md ops Q S fuel (L.setIfInBounds i true) (a.put o.dst v) w') : wpAnyH P md ops Q S (fuel + 1) L a w := by
  refine wpAnyH_all hr (by simp) fun j hj => ?_
  obtain rfl : j = i := by simpa using hj
  refine wpOp_step hi fun K' hK => ?_
  rw [if_pos hw]
  unfold Oper.wp
  rw [hx]
  simp only [Oper.upon]
  refine hc.mono ?_
  rintro e w' ⟨v, rfl, h1⟩
  exact hK _ _ h1
theorem g_none {i : Nat} {o : Oper} {fuel : Nat} {L : Array Bool} {a : Act} {w : World} (hi : ops[i]? = some o) (hr : Region.ready md ops L = [i]) (hw : Region.wanted o (yielded ops a.tmps) = false) (hS : S w)
    (h : wpAnyH P md ops Q S fuel (L.setIfInBounds i true) (a.put o.dst undef) w) : wpAnyH P md ops Q S (fuel + 1) L a w := by
  refine wpAnyH_all hr (by simp) fun j hj => ?_
  obtain rfl : j = i := by simpa using hj
  refine wpOp_step hi fun K' hK => ?_
  rw [if_neg (by rw [hw]; decide)]
  exact hK _ _ ⟨hS, h⟩
end
theorem wp_abs {P : Program} {c : Code} {Q : Exit → Act → World → Prop} {a : Act} {w : World} (H : Act → Prop) (ha : H a) (h : ∀ a0, H a0 → a0 = a → c.wp P Q a0 w) : c.wp P Q a w := h a ha rfl
theorem abs_any {P : Program} {md : Region.Mode} {ops : Array Oper} {Q : Exit → Act → World → Prop} {S : World → Prop} {fuel : Nat} {L : Array Bool} {a : Act} {w : World} (H : Act → Prop) (ha : H a) (h : ∀ a0, H a0 → wpAnyH P md ops Q S fuel L a0 w) : wpAnyH P md ops Q S fuel L a w := h a ha
theorem wanted_none {o : Oper} {y : Nat → Option Bool} (h : o.guard = none) : Region.wanted o y = true := by simp [Region.wanted, h]
theorem wanted_of {o : Oper} {ops : Array Oper} {a : Act} (j : Nat) (want : Bool) (dj : Nat) (hgd : o.guard = some (j, want)) (hj : ((ops[j]?).bind (·.dst)) = some dj) (ht : a.tmps[dj]? = some (.bool want)) : Region.wanted o (yielded ops a.tmps) = true := by
  simp [Region.wanted, hgd, yielded, hj, ht]
theorem unwanted_of {o : Oper} {ops : Array Oper} {a : Act} (j : Nat) (want : Bool) (dj : Nat) (hgd : o.guard = some (j, want)) (hj : ((ops[j]?).bind (·.dst)) = some dj) (ht : a.tmps[dj]? = some (.bool (!want))) : Region.wanted o (yielded ops a.tmps) = false := by
  cases want <;> simp [Region.wanted, hgd, yielded, hj, ht]
theorem at_of {t : Array Value} {j : Nat} {v : Value} (h : t[j]? = some v) : ∀ (hq : j < t.size), t[j]'hq = v := fun hq => by
  rw [Array.getElem?_eq_getElem hq] at h
  injection h
theorem put_size (a : Act) (d : Option Nat) (v : Value) : (a.put d v).tmps.size = a.tmps.size := by
  cases d <;> simp [Act.put]
theorem put_defers (a : Act) (d : Option Nat) (v : Value) : (a.put d v).defers = a.defers := by
  cases d <;> rfl
theorem ex_load {o : Oper} {a : Act} {W : World} {t : TypeId} {x : Operand} (ho : o.op = .load t x) {B k n : Nat} (hT : Row t n) (hx : a.eval x = .pointer (some ⟨B, k, none⟩)) {T : TypeId} {l r : List Int} (hB : W.heap[B]? = some (bx T l)) (hle : k + n ≤ l.length) (hr : cut l k n = r) :
    (execOp a.eval o).run Try.prog W = .ok (.value (ag r)) W := by
  subst hr
  unfold execOp
  simp only [ho, hx, Sem.run_bind, run_load hT hB hle, Result.andThen_ok, Sem.run_pure]
theorem ex_get {o : Oper} {a : Act} {W : World} {x : Operand} (ho : o.op = .load 3 x) {B j : Nat} (hx : a.eval x = .pointer (some ⟨B, j, none⟩)) {T : TypeId} {l : List Int} {v : Int} (hB : W.heap[B]? = some (bx T l)) (hv : l[j]? = some v) :
    (execOp a.eval o).run Try.prog W = .ok (.value (.int .i64 v)) W := by
  have hc := bx_cell hB hv
  have hs : (Instr.loadAt 3 (.pointer (some ⟨B, j, none⟩))).run Try.prog W = .ok (.int .i64 v) W := by
    simp [go_sem, hc]
  unfold execOp
  simp only [ho, hx, Sem.run_bind, hs, Result.andThen_ok, Sem.run_pure]
theorem ex_fill {o : Oper} {a : Act} {W : World} {t : TypeId} {x y : Operand} (ho : o.op = .store t x y) {B n : Nat} (hT : Row t n) {T : TypeId} {l r : List Int} (hx : a.eval x = .pointer (some ⟨B, 0, none⟩)) (hy : a.eval y = ag r) (hB : W.heap[B]? = some (bx T l)) (hr : r.length = n) (hl : l.length = n) :
    ∃ u, (execOp a.eval o).run Try.prog W = .ok .skip u ∧ u.heap[B]? = some (bx T r) ∧ Chg B W u := by
  have hs := run_store_row (k := 0) hT hB hr (by omega)
  rw [putL_all (by omega)] at hs
  refine ⟨_, ?_, setRow_heap W B _ _ T _ hB, Chg.setRow _ hB⟩
  unfold execOp
  simp only [ho, hx, hy, Sem.run_bind, hs, Result.andThen_ok, Sem.run_pure]
theorem h_fill {md : Region.Mode} {ops : Array Oper} {Q : Exit → Act → World → Prop} {S : World → Prop} {i : Nat} {o : Oper} {fuel : Nat} {L : Array Bool} {a : Act} {W : World} (hi : ops[i]? = some o) (hrd : Region.ready md ops L = [i]) (hg : o.guard = none)
    {t : TypeId} {x y : Operand} (ho : o.op = .store t x y) {B n : Nat} (hT : Row t n) {T : TypeId} {l r : List Int} (hx : a.eval x = .pointer (some ⟨B, 0, none⟩)) (hy : a.eval y = ag r) (hB : W.heap[B]? = some (bx T l)) (hr : r.length = n) (hl : l.length = n)
    (h : ∀ u, u.heap[B]? = some (bx T r) → Chg B W u → S u ∧ wpAnyH Try.prog md ops Q S fuel (L.setIfInBounds i true) (a.put o.dst undef) u) : wpAnyH Try.prog md ops Q S (fuel + 1) L a W := by
  obtain ⟨u, h1, h2, h3⟩ := ex_fill (a := a) ho hT hx hy hB hr hl
  exact h_skip hi hrd hg h1 (h u h2 h3).1 (h u h2 h3).2
theorem ex_eql {o : Oper} {a : Act} {W : World} {t ty : TypeId} {x y : Operand} (ho : o.op = .binOp .eql t x y ty) {n : Nat} (hc : Cmp t n) {l m : List Int} (hx : a.eval x = ag l) (hy : a.eval y = ag m) (h1 : l.length = n) (h2 : m.length = n) {b : Bool} (hb : decide (l = m) = b) :
    (execOp a.eval o).run Try.prog W = .ok (.value (.bool b)) W := by
  subst hb
  unfold execOp
  have hr := (run_cmp hc h1 h2 x y W).1
  rw [Sem.run_bind] at hr
  simp only [ho, hx, hy, Sem.run_bind, hr, Result.andThen_ok, Sem.run_pure]
theorem ex_neq {o : Oper} {a : Act} {W : World} {t ty : TypeId} {x y : Operand} (ho : o.op = .binOp .neq t x y ty) {n : Nat} (hc : Cmp t n) {l m : List Int} (hx : a.eval x = ag l) (hy : a.eval y = ag m) (h1 : l.length = n) (h2 : m.length = n) {b : Bool} (hb : (!decide (l = m)) = b) :
    (execOp a.eval o).run Try.prog W = .ok (.value (.bool b)) W := by
  subst hb
  unfold execOp
  have hr := (run_cmp hc h1 h2 x y W).2
  rw [Sem.run_bind] at hr
  simp only [ho, hx, hy, Sem.run_bind, hr, Result.andThen_ok, Sem.run_pure]
theorem ex_alloc {o : Oper} {a : Act} {W : World} {t : TypeId} {n : Nat} (ho : o.op = .alloc t) (hz : Zer t n) : ∃ u B, (execOp a.eval o).run Try.prog W = .ok (.value (.pointer (some ⟨B, 0, none⟩))) u ∧ New W u B t (List.replicate n 0) := by
  refine ⟨W.alloc (bx t (List.replicate n 0)), W.heap.size, ?_, New.alloc W t _⟩
  unfold execOp
  simp only [ho]
  cases hq : Try.prog.info? t with
  | none => have := hz.eq; simp [hq] at this
  | some i =>
    have hz' : i.zero = some (ag (List.replicate n 0)) ∧ i.size = n := by simpa [hq] using hz.eq
    simp [go_sem, zeroValue, typeInfo, hq, hz'.1, ag]
    rfl
theorem r_fill {ops : Array Oper} {Q : Exit → Act → World → Prop} {i : Nat} {o : Oper} {K : Act → World → Prop} {a : Act} {W : World} (hi : ops[i]? = some o) (hg : Region.wanted o (yielded ops a.tmps) = true)
    {t : TypeId} {x y : Operand} (ho : o.op = .store t x y) {B n : Nat} (hT : Row t n) {T : TypeId} {l r : List Int} (hx : a.eval x = .pointer (some ⟨B, 0, none⟩)) (hy : a.eval y = ag r) (hB : W.heap[B]? = some (bx T l)) (hr : r.length = n) (hl : l.length = n)
    (h : ∀ u, u.heap[B]? = some (bx T r) → Chg B W u → K (a.put o.dst undef) u) : wpOp Try.prog ops Q i K a W := by
  obtain ⟨u, h1, h2, h3⟩ := ex_fill (a := a) ho hT hx hy hB hr hl
  exact reg.r_skip hi hg h1 (h u h2 h3)
theorem r_alloc {ops : Array Oper} {Q : Exit → Act → World → Prop} {i : Nat} {o : Oper} {K : Act → World → Prop} {a : Act} {W : World} (hi : ops[i]? = some o) (hg : Region.wanted o (yielded ops a.tmps) = true)
    {t : TypeId} {n : Nat} (ho : o.op = .alloc t) (hz : Zer t n) (h : ∀ u B, New W u B t (List.replicate n 0) → K (a.put o.dst (.pointer (some ⟨B, 0, none⟩))) u) : wpOp Try.prog ops Q i K a W := by
  obtain ⟨u, B, h1, h2⟩ := ex_alloc (W := W) (a := a) ho hz
  exact reg.r_value _ hi hg h1 (h u B h2)
end Go.Proofs.Ytdnmjeiljpdmcaa.hub
