/- slots: what == answers of slots and boards; values that are built. -/
import Derived.Test.YthjmcopknkemnaaSltA
import Derived.Laws.StructEq
import Derived.ChangeKeysEq
namespace Go.Proofs.Ythjmcopknkemnaa.slots
open Go Go.RowKit
set_option linter.unusedVariables false
set_option linter.unusedSimpArgs false
set_option maxRecDepth 100000

theorem eq_items {d c : Nat} {e : TypeId} {xs ys : Array Value} (p : Nat → Bool) (w : World) : ∀ (is : List Nat), (∀ i ∈ is, ∃ a b, (part e xs (i * c)).run Try.prog w = .ok a w ∧ (part e ys (i * c)).run Try.prog w = .ok b w ∧ (Op.equalIn d e a b).run Try.prog w = .ok (p i) w) →
    (Op.eqItems d e c xs ys is).run Try.prog w = .ok (is.all p) w
  | [], _ => by simp [Op.eqItems]
  | i :: is, h => by
    obtain ⟨a, b, h1, h2, h3⟩ := h i (by simp)
    have ih := eq_items p w is (fun j hj => h j (by simp [hj]))
    simp only [Op.eqItems, Sem.run_bind, h1, h2, h3, Result.andThen_ok, List.all_cons]
    cases p i
    · simp
    · simpa using ih
theorem agg_ends : ∀ w, (isAgg 36).run Try.prog w = .ok true w := fun w => by
  unfold isAgg; rw [Sem.run_bind, run_underlying Try.underlying36 w]; rfl
theorem agg_slots : ∀ w, (isAgg 39).run Try.prog w = .ok true w := fun w => by
  unfold isAgg; rw [Sem.run_bind, run_underlying Try.underlying39 w]; rfl
theorem part_int {l : List Int} {j : Nat} (h : j < l.length) (w : World) : (part 3 (ics l) j).run Try.prog w = .ok (.int .i64 (cl l j)) w := by
  have h2 : (ics l)[j]? = some (.int .i64 (cl l j)) := by rw [ics_at, cl_at h]; rfl
  simp [part, agg_int, h2]
theorem part_ends (l : List Int) (j : Nat) (w : World) : (part 36 (ics l) j).run Try.prog w = .ok (ag (cut l j 32)) w := by
  simp [part, agg_ends, size_ends, ics_cut, ag]
theorem part_slot (l : List Int) (j : Nat) (w : World) : (part 38 (ics l) j).run Try.prog w = .ok (ag (cut l j 66)) w := by
  simp [part, agg_slot, size_slot, ics_cut, ag]
theorem part_slots (l : List Int) (j : Nat) (w : World) : (part 39 (ics l) j).run Try.prog w = .ok (ag (cut l j 594)) w := by
  simp [part, agg_slots, size_slots, ics_cut, ag]
theorem cells_int : Try.prog.cellsOf 3 = 1 := by kernel_rfl
theorem cells_slot : Try.prog.cellsOf 38 = 66 := by kernel_rfl
theorem info_int : ∃ i, Try.prog.info? 3 = some i := by
  cases h : Try.prog.info? 3 with
  | none => have : (Try.prog.info? 3).isSome = true := by kernel_rfl
            rw [h] at this; cases this
  | some i => exact ⟨i, rfl⟩
theorem info_slot : ∃ i, Try.prog.info? 38 = some i := by
  cases h : Try.prog.info? 38 with
  | none => have : (Try.prog.info? 38).isSome = true := by kernel_rfl
            rw [h] at this; cases this
  | some i => exact ⟨i, rfl⟩
theorem bool_dec {b : Bool} {p : Prop} [Decidable p] (h : b = true ↔ p) : b = decide p := by
  rw [Bool.eq_iff_iff, h]; simp
theorem eq_ends {l m : List Int} (h1 : l.length = 32) (h2 : m.length = 32) (d : Nat) (w : World) : (Op.equalIn (d + 2) 36 (ag l) (ag m)).run Try.prog w = .ok (decide (l = m)) w := by
  obtain ⟨i, hi⟩ := info_int
  unfold ag
  rw [run_equalIn_array w (d + 1) (ics l) (ics m) Try.underlying36 hi, cells_int, eq_items (fun i => cl l i == cl m i) w _ (fun i hi => ?_)]
  · congr 1
    refine bool_dec ?_
    rw [List.all_eq_true]
    constructor
    · intro h
      exact cl_ext h1 h2 (fun j hj => by simpa using h j (List.mem_range.2 hj))
    · rintro rfl; simp
  · have := List.mem_range.1 hi
    rw [Nat.mul_one]
    exact ⟨_, _, part_int (by omega) w, part_int (by omega) w, run_equalIn_int w d 3 .i64 .i64 _ _ Try.underlying3⟩
theorem und_slot : Try.prog.underlying 38 = some (.struct (Try.prog.fieldsOf 38)) := by kernel_rfl
theorem und_board : Try.prog.underlying 41 = some (.struct (Try.prog.fieldsOf 41)) := by kernel_rfl
theorem stood_slot : Try.prog.stoodInHeld 38 = false := by kernel_rfl
theorem stood_board : Try.prog.stoodInHeld 41 = false := by kernel_rfl
theorem cl_cut {l : List Int} {k n j : Nat} (hj : j < n) : cl (cut l k n) j = cl l (k + j) := by
  unfold cl cut
  rw [List.getD_eq_getElem?_getD, List.getD_eq_getElem?_getD, List.getElem?_take, if_pos hj, List.getElem?_drop]
theorem eq_slot {l m : List Int} (h1 : l.length = 66) (h2 : m.length = 66) (d : Nat) (w : World) : (Op.equalIn (d + 3) 38 (ag l) (ag m)).run Try.prog w = .ok (decide (l = m)) w := by
  unfold ag
  rw [run_equalIn_struct w (d + 2) 38 _ _ und_slot stood_slot]
  have e1 := eq_ends (l := cut l 2 32) (m := cut m 2 32) (cut_length (by omega)) (cut_length (by omega)) d w
  have e2 := eq_ends (l := cut l 34 32) (m := cut m 34 32) (cut_length (by omega)) (cut_length (by omega)) d w
  have i0 := run_equalIn_int w (d + 1) 3 .i64 .i64 (cl l 0) (cl m 0) Try.underlying3
  have i1 := run_equalIn_int w (d + 1) 3 .i64 .i64 (cl l 1) (cl m 1) Try.underlying3
  have p0 := part_int (l := l) (j := 0) (by omega) w
  have p1 := part_int (l := l) (j := 1) (by omega) w
  have q0 := part_int (l := m) (j := 0) (by omega) w
  have q1 := part_int (l := m) (j := 1) (by omega) w
  have hfi : l = m ↔ (cl l 0 = cl m 0 ∧ cl l 1 = cl m 1) ∧ cut l 2 32 = cut m 2 32 ∧ cut l 34 32 = cut m 34 32 := by
    constructor
    · rintro rfl; exact ⟨⟨rfl, rfl⟩, rfl, rfl⟩
    · rintro ⟨⟨a0, a1⟩, a2, a3⟩
      refine cl_ext h1 h2 fun j hj => ?_
      by_cases j0 : j = 0
      · rw [j0]; exact a0
      by_cases j1 : j = 1
      · rw [j1]; exact a1
      by_cases j2 : j < 34
      · have : cl (cut l 2 32) (j - 2) = cl (cut m 2 32) (j - 2) := by rw [a2]
        rw [cl_cut (by omega), cl_cut (by omega), show 2 + (j - 2) = j by omega] at this
        exact this
      · have : cl (cut l 34 32) (j - 34) = cl (cut m 34 32) (j - 34) := by rw [a3]
        rw [cl_cut (by omega), cl_cut (by omega), show 34 + (j - 34) = j by omega] at this
        exact this
  have hdec : decide (l = m) = ((cl l 0 == cl m 0 && cl l 1 == cl m 1) && (decide (cut l 2 32 = cut m 2 32) && decide (cut l 34 32 = cut m 34 32))) := by
    rw [Bool.eq_iff_iff]
    simp [hfi]
  rw [hdec]
  simp only [Program.fieldsOf, Try.underlying38, Op.eqFields, Sem.run_bind, Sem.run_ite, p0, p1, q0, q1, part_ends, e1, e2, i0, i1, Result.andThen_ok]
  by_cases c0 : cl l 0 = cl m 0 <;> by_cases c1 : cl l 1 = cl m 1 <;> cases decide (cut l 2 32 = cut m 2 32) <;> cases decide (cut l 34 32 = cut m 34 32) <;> simp [c0, c1]
theorem eq_board {l m : List Int} (h1 : l.length = 594) (h2 : m.length = 594) (d : Nat) (w : World) : (Op.equalIn (d + 5) 41 (ag l) (ag m)).run Try.prog w = .ok (decide (l = m)) w := by
  obtain ⟨i, hi⟩ := info_slot
  unfold ag
  rw [run_equalIn_struct w (d + 4) 41 _ _ und_board stood_board]
  have e1 : (Op.equalIn (d + 4) 39 (ag l) (ag m)).run Try.prog w = .ok (decide (l = m)) w := by
    unfold ag
    rw [run_equalIn_array w (d + 3) (ics l) (ics m) Try.underlying39 hi, cells_slot, eq_items (fun i => decide (cut l (i * 66) 66 = cut m (i * 66) 66)) w _ (fun i hi => ?_)]
    · congr 1
      refine bool_dec ?_
      rw [List.all_eq_true]
      constructor
      · intro h
        exact fl_ext h1 h2 (fun j hj => of_decide_eq_true (h j (List.mem_range.2 hj)))
      · rintro rfl; simp
    · have := List.mem_range.1 hi
      exact ⟨_, _, part_slot _ _ w, part_slot _ _ w, eq_slot (cut_length (by omega)) (cut_length (by omega)) d w⟩
  have p0 := part_slots l 0 w
  have q0 := part_slots m 0 w
  rw [cut_all h1] at p0
  rw [cut_all h2] at q0
  simp only [Program.fieldsOf, Try.underlying41, Op.eqFields, Sem.run_bind, Sem.run_ite, p0, q0, e1, Result.andThen_ok]
  cases decide (l = m) <;> simp
/-- a type of n numbers whose values are compared -/
structure Cmp (t : TypeId) (n : Nat) : Prop where
  guard : Try.prog.eqGuardType Try.prog.depth t = false
  eq : ∀ (l m : List Int) (w : World), l.length = n → m.length = n → (Op.equalIn 10000 t (ag l) (ag m)).run Try.prog w = .ok (decide (l = m)) w
theorem cmp_slot : Cmp 38 66 := ⟨by kernel_rfl, fun l m w h1 h2 => eq_slot h1 h2 9997 w⟩
theorem cmp_board : Cmp 41 594 := ⟨by kernel_rfl, fun l m w h1 h2 => eq_board h1 h2 9995 w⟩
theorem run_cmp {t : TypeId} {n : Nat} (hc : Cmp t n) {l m : List Int} (h1 : l.length = n) (h2 : m.length = n) (x y : Operand) (w : World) :
    ((do eqGuard .eql t x y (ag l) (ag m); binOp .eql t (ag l) (ag m)) : Sem Value).run Try.prog w = .ok (.bool (decide (l = m))) w ∧ ((do eqGuard .neq t x y (ag l) (ag m); binOp .neq t (ag l) (ag m)) : Sem Value).run Try.prog w = .ok (.bool (!decide (l = m))) w := by
  have := hc.eq l m w h1 h2
  unfold ag at *
  constructor
  · rw [Sem.run_bind, run_eqGuard_agg w _ _ _ _ _ _ hc.guard, Result.andThen_ok, run_eql_struct, this]; rfl
  · rw [Sem.run_bind, run_eqGuard_agg w _ _ _ _ _ _ hc.guard, Result.andThen_ok, run_neq_struct, this]; rfl
/-- == of rows, guarded or not -/
theorem a_eql {ops : Array Oper} {rest : List Oper} {o : Oper} {a : Act} {w : World} {Q : Exit → Act → World → Prop} (hgd : Region.wanted o (yielded ops a.tmps) = true) {t ty : TypeId} {x y : Operand} (ho : o.op = .binOp .eql t x y ty)
    {n : Nat} (hc : Cmp t n) {l m : List Int} (hx : a.eval x = ag l) (hy : a.eval y = ag m) (h1 : l.length = n) (h2 : m.length = n)
    (h : wpList Try.prog ops Q rest (a.put o.dst (.bool (decide (l = m)))) w) : wpList Try.prog ops Q (o :: rest) a w := by
  refine wpList_step fun K hK' => ?_
  rw [if_pos hgd]
  unfold Oper.wp execOp
  have hr := (run_cmp hc h1 h2 x y w).1
  rw [Sem.run_bind] at hr
  simp only [ho, hx, hy, Sem.run_bind, hr, Result.andThen_ok, Sem.run_pure]
  exact hK' _ _ h
theorem a_neq {ops : Array Oper} {rest : List Oper} {o : Oper} {a : Act} {w : World} {Q : Exit → Act → World → Prop} (hgd : Region.wanted o (yielded ops a.tmps) = true) {t ty : TypeId} {x y : Operand} (ho : o.op = .binOp .neq t x y ty)
    {n : Nat} (hc : Cmp t n) {l m : List Int} (hx : a.eval x = ag l) (hy : a.eval y = ag m) (h1 : l.length = n) (h2 : m.length = n)
    (h : wpList Try.prog ops Q rest (a.put o.dst (.bool (!decide (l = m)))) w) : wpList Try.prog ops Q (o :: rest) a w := by
  refine wpList_step fun K hK' => ?_
  rw [if_pos hgd]
  unfold Oper.wp execOp
  have hr := (run_cmp hc h1 h2 x y w).2
  rw [Sem.run_bind] at hr
  simp only [ho, hx, hy, Sem.run_bind, hr, Result.andThen_ok, Sem.run_pure]
  exact hK' _ _ h
/-- a value is built -/
theorem a_build {ops : Array Oper} {rest : List Oper} {o : Oper} {a : Act} {w : World} {Q : Exit → Act → World → Prop} (hgd : Region.wanted o (yielded ops a.tmps) = true) {t : TypeId} {ps : Array (Nat × Operand)} (ho : o.op = .build t ps)
    {vs : Array (Nat × Value)} {v : Value} (hb : ∀ w, (Instr.build t vs).run Try.prog w = .ok v w) (hv : ps.map (fun q => (q.1, a.eval q.2)) = vs)
    (h : wpList Try.prog ops Q rest (a.put o.dst v) w) : wpList Try.prog ops Q (o :: rest) a w := by
  subst hv
  refine wpList_step fun K hK' => ?_
  rw [if_pos hgd]
  unfold Oper.wp execOp
  simp only [ho, Sem.run_bind, hb, Result.andThen_ok, Sem.run_pure]
  exact hK' _ _ h
theorem bld_0 (w : World) : (Instr.build 38 #[]).run Try.prog w = .ok (ag z66) w := by kernel_rfl
theorem bld_1 (x : Int) (w : World) : (Instr.build 38 #[(0, .int .i64 x)]).run Try.prog w = .ok (ag (one x)) w := by kernel_rfl
theorem bld_B (w : World) : (Instr.build 41 #[]).run Try.prog w = .ok (ag (List.replicate 594 0)) w := by kernel_rfl
end Go.Proofs.Ythjmcopknkemnaa.slots
