/- bulk: regions that draw their order, over boxes of values. -/
import Derived.Test.YtecknicmonhcaabDoorBulA
import Derived.Test.YtecknicmonhcaabDoorRegE
import Derived.OrdersHeld
import Derived.RegionTactic
import Derived.Deep.CutRange
namespace Go.Proofs.YtecknicmonhcaabDoor.bulk
open Go Go.RowKit
set_option linter.unusedVariables false
set_option linter.unusedSimpArgs false
set_option maxRecDepth 100000

theorem ex_load {o : Oper} {a : Act} {W : World} {t : TypeId} {x : Operand} (ho : o.op = .load t x) {B k n : Nat} (hT : Row t n) (hx : a.eval x = .pointer (some ⟨B, k, none⟩)) {T : TypeId} {l r : List Value} (hB : W.heap[B]? = some (bx T l)) (hle : k + n ≤ l.length) (hr : cut l k n = r) :
    (execOp a.eval o).run Tryd.prog W = .ok (.value (ag r)) W := by
  subst hr
  unfold execOp
  simp only [ho, hx, Sem.run_bind, run_loadv hT hB hle, Result.andThen_ok, Sem.run_pure]
theorem ex_get {o : Oper} {a : Act} {W : World} {t : TypeId} {x : Operand} (ho : o.op = .load t x) {B j : Nat} (hx : a.eval x = .pointer (some ⟨B, j, none⟩)) {T : TypeId} {l : List Value} {v : Value} (hB : W.heap[B]? = some (bx T l)) (hv : l[j]? = some v) (ht : Lod t := by first | exact lod_int | exact lod_str | exact lod_bool | exact lod_txs) :
    (execOp a.eval o).run Tryd.prog W = .ok (.value v) W := by
  have hs := ht.ld W ⟨B, j, none⟩ v (bx_cell hB hv)
  unfold execOp
  simp only [ho, hx, Sem.run_bind, hs, Result.andThen_ok, Sem.run_pure]
theorem ex_fill {o : Oper} {a : Act} {W : World} {t : TypeId} {x y : Operand} (ho : o.op = .store t x y) {B n : Nat} (hT : Row t n) {T : TypeId} {l r : List Value} (hx : a.eval x = .pointer (some ⟨B, 0, none⟩)) (hy : a.eval y = ag r) (hB : W.heap[B]? = some (bx T l)) (hr : Vs r n) (hl : l.length = n) :
    ∃ u, (execOp a.eval o).run Tryd.prog W = .ok .skip u ∧ u.heap[B]? = some (bx T r) ∧ Chg B W u := by
  have hs := run_storev (k := 0) hT hB hr (by omega)
  rw [putL_all (by rw [hr.len]; omega)] at hs
  refine ⟨_, ?_, setRow_heap W B _ _ T _ hB, setRow_chg _ hB⟩
  unfold execOp
  simp only [ho, hx, hy, Sem.run_bind, hs, Result.andThen_ok, Sem.run_pure]
theorem ex_alloc {o : Oper} {a : Act} {W : World} {t : TypeId} {l : List Value} (ho : o.op = .alloc t) (hz : Zer t l) : ∃ u B, (execOp a.eval o).run Tryd.prog W = .ok (.value (.pointer (some ⟨B, 0, none⟩))) u ∧ New W u B t l := by
  refine ⟨W.alloc (bx t l), W.heap.size, ?_, New.alloc W t _⟩
  unfold execOp
  simp only [ho]
  cases hq : Tryd.prog.info? t with
  | none => have := hz.eq; simp [hq] at this
  | some i =>
    have hz' : i.zero = some (ag l) := by simpa [hq] using hz.eq
    simp [go_sem, zeroValue, typeInfo, hq, hz', ag]
    rfl
theorem r_fill {ops : Array Oper} {Q : Exit → Act → World → Prop} {i : Nat} {o : Oper} {K : Act → World → Prop} {a : Act} {W : World} (hi : ops[i]? = some o) (hg : Region.wanted o (yielded ops a.tmps) = true)
    {t : TypeId} {x y : Operand} (ho : o.op = .store t x y) {B n : Nat} (hT : Row t n) {T : TypeId} {l r : List Value} (hx : a.eval x = .pointer (some ⟨B, 0, none⟩)) (hy : a.eval y = ag r) (hB : W.heap[B]? = some (bx T l)) (hr : Vs r n) (hl : l.length = n)
    (h : ∀ u, u.heap[B]? = some (bx T r) → Chg B W u → K (a.put o.dst undef) u) : wpOp Tryd.prog ops Q i K a W := by
  obtain ⟨u, h1, h2, h3⟩ := ex_fill (a := a) ho hT hx hy hB hr hl
  exact reg.r_skip hi hg h1 (h u h2 h3)
theorem r_alloc {ops : Array Oper} {Q : Exit → Act → World → Prop} {i : Nat} {o : Oper} {K : Act → World → Prop} {a : Act} {W : World} (hi : ops[i]? = some o) (hg : Region.wanted o (yielded ops a.tmps) = true)
    {t : TypeId} {l : List Value} (ho : o.op = .alloc t) (hz : Zer t l) (h : ∀ u B, New W u B t l → K (a.put o.dst (.pointer (some ⟨B, 0, none⟩))) u) : wpOp Tryd.prog ops Q i K a W := by
  obtain ⟨u, B, h1, h2⟩ := ex_alloc (W := W) (a := a) ho hz
  exact reg.r_value _ hi hg h1 (h u B h2)
theorem ex_st {o : Oper} {a : Act} {W : World} {t : TypeId} {x y : Operand} (ho : o.op = .store t x y) {v z : Value} (ht : One t v) {p : Addr} (hx : a.eval x = .pointer (some p)) (hy : a.eval y = v) (hc : W.cell? p = some z) (hf : W.frozen? p = false) {u : World} (hu : W.setCell p v = u) :
    (execOp a.eval o).run Tryd.prog W = .ok .skip u := by
  subst hu
  have hs := ht.st W p z hc hf
  unfold execOp
  simp only [ho, hx, hy, Sem.run_bind, hs, Result.andThen_ok, Sem.run_pure]
theorem r_bs {ops : Array Oper} {Q : Exit → Act → World → Prop} {i : Nat} {o : Oper} {K : Act → World → Prop} {a : Act} {W : World} (hi : ops[i]? = some o) (hg : Region.wanted o (yielded ops a.tmps) = true)
    {t e : TypeId} {n : Nat} {ps : Array (Nat × Operand)} (ho : o.op = .buildSlice t n ps) {vs : Array (Nat × Value)} {V : List Value}
    (hb : ∀ w, (Instr.buildSlice t n vs).run Tryd.prog w = .ok (.slice (some ⟨w.heap.size, 0, none⟩) n n) (w.alloc (bx e V))) (hv : ps.map (fun q => (q.1, a.eval q.2)) = vs)
    (h : ∀ u B, New W u B e V → K (a.put o.dst (.slice (some ⟨B, 0, none⟩) n n)) u) : wpOp Tryd.prog ops Q i K a W := by
  subst hv
  refine reg.r_value _ hi hg ?_ (h _ _ (New.alloc W e V))
  unfold execOp
  simp only [ho, Sem.run_bind, hb, Result.andThen_ok, Sem.run_pure]
theorem r_put {ops : Array Oper} {Q : Exit → Act → World → Prop} {i : Nat} {o : Oper} {K : Act → World → Prop} {a : Act} {W : World} (hi : ops[i]? = some o) (hg : Region.wanted o (yielded ops a.tmps) = true)
    {t : TypeId} {x y : Operand} (ho : o.op = .store t x y) {v : Value} (ht : One t v) {B j : Nat} {T : TypeId} {l l' : List Value} (hx : a.eval x = .pointer (some ⟨B, j, none⟩)) (hy : a.eval y = v) (hB : W.heap[B]? = some (bx T l)) (hle : j < l.length) (hl : l.set j v = l')
    (h : ∀ u, u.heap[B]? = some (bx T l') → Chg B W u → K (a.put o.dst undef) u) : wpOp Tryd.prog ops Q i K a W := by
  subst hl
  exact reg.r_skip hi hg (ex_st ho ht hx hy (bx_cell hB (List.getElem?_eq_getElem hle)) (bx_free hB j) rfl) (h _ (set_bx hB).1 (set_bx hB).2)
end Go.Proofs.YtecknicmonhcaabDoor.bulk
