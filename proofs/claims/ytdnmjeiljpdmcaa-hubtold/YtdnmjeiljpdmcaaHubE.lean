/- hub: what == answers of ports and hubs; values that are built. -/
import Derived.Test.YtdnmjeiljpdmcaaHubA
import Derived.Laws.StructEq
import Derived.ChangeKeysEq
namespace Go.Proofs.Ytdnmjeiljpdmcaa.hub
open Go Go.RowKit
open Go.Proofs.Ytdnmjeiljpdmcaa.slots (cl cl_at cl_set cl_ext allF allF_step allF_end allF_iff anyF)
set_option linter.unusedVariables false
set_option linter.unusedSimpArgs false
set_option maxRecDepth 100000

theorem eq_items {d c : Nat} {e : TypeId} {xs ys : Array Value} (p : Nat → Bool) (w : World) : ∀ (is : List Nat), (∀ i ∈ is, ∃ a b, (part e xs (i * c)).run Try.prog w = .ok a w ∧ (part e ys (i * c)).run Try.prog w = .ok b w ∧ (Op.equalIn d e a b).run Try.prog w = .ok (p i) w) →
    (Op.eqItems d e c xs ys is).run Try.prog w = .ok (is.all p) w
  | [], _ => by simp [Op.eqItems]
  | i :: is, h => by
    obtain ⟨a, b, h1, h2, h3⟩ := h i (by simp)
    have ih := eq_items p w is (fun j hj => h j (by simp [hj]))
    simp only [Op.eqItems, Sem.run_bind, h1, h2, h3, Result.andThen_ok, List.all_cons]
    cases p i
    · simp
    · simpa using ih
theorem agg_ports : ∀ w, (isAgg 24).run Try.prog w = .ok true w := fun w => by
  unfold isAgg; rw [Sem.run_bind, run_underlying Try.underlying24 w]; rfl
theorem part_int {l : List Int} {j : Nat} (h : j < l.length) (w : World) : (part 3 (ics l) j).run Try.prog w = .ok (.int .i64 (cl l j)) w := by
  have h2 : (ics l)[j]? = some (.int .i64 (cl l j)) := by rw [ics_at, cl_at h]; rfl
  simp [part, agg_int, h2]
theorem part_port (l : List Int) (j : Nat) (w : World) : (part 23 (ics l) j).run Try.prog w = .ok (ag (cut l j 2)) w := by
  simp [part, agg_port, size_port, ics_cut, ag]
theorem part_ports (l : List Int) (j : Nat) (w : World) : (part 24 (ics l) j).run Try.prog w = .ok (ag (cut l j 32)) w := by
  simp [part, agg_ports, size_ports, ics_cut, ag]
theorem cells_port : Try.prog.cellsOf 23 = 2 := by kernel_rfl
theorem info_port : ∃ i, Try.prog.info? 23 = some i := by
  cases h : Try.prog.info? 23 with
  | none => have : (Try.prog.info? 23).isSome = true := by kernel_rfl
            rw [h] at this; cases this
  | some i => exact ⟨i, rfl⟩
theorem bool_dec {b : Bool} {p : Prop} [Decidable p] (h : b = true ↔ p) : b = decide p := by
  rw [Bool.eq_iff_iff, h]; simp
theorem und_port : Try.prog.underlying 23 = some (.struct (Try.prog.fieldsOf 23)) := by kernel_rfl
theorem und_hub : Try.prog.underlying 26 = some (.struct (Try.prog.fieldsOf 26)) := by kernel_rfl
theorem stood_port : Try.prog.stoodInHeld 23 = false := by kernel_rfl
theorem stood_hub : Try.prog.stoodInHeld 26 = false := by kernel_rfl
theorem eq_port {l m : List Int} (h1 : l.length = 2) (h2 : m.length = 2) (d : Nat) (w : World) : (Op.equalIn (d + 2) 23 (ag l) (ag m)).run Try.prog w = .ok (decide (l = m)) w := by
  unfold ag
  rw [run_equalIn_struct w (d + 1) 23 _ _ und_port stood_port]
  have i0 := run_equalIn_int w d 3 .i64 .i64 (cl l 0) (cl m 0) Try.underlying3
  have i1 := run_equalIn_int w d 3 .i64 .i64 (cl l 1) (cl m 1) Try.underlying3
  have p0 := part_int (l := l) (j := 0) (by omega) w
  have p1 := part_int (l := l) (j := 1) (by omega) w
  have q0 := part_int (l := m) (j := 0) (by omega) w
  have q1 := part_int (l := m) (j := 1) (by omega) w
  have hfi : l = m ↔ cl l 0 = cl m 0 ∧ cl l 1 = cl m 1 := by
    constructor
    · rintro rfl; exact ⟨rfl, rfl⟩
    · rintro ⟨a0, a1⟩; rw [two_list h1, two_list h2, a0, a1]
  have hdec : decide (l = m) = (cl l 0 == cl m 0 && cl l 1 == cl m 1) := by
    rw [Bool.eq_iff_iff]
    simp [hfi]
  rw [hdec]
  simp only [Program.fieldsOf, Try.underlying23, Op.eqFields, Sem.run_bind, Sem.run_ite, p0, p1, q0, q1, i0, i1, Result.andThen_ok]
  by_cases c0 : cl l 0 = cl m 0 <;> by_cases c1 : cl l 1 = cl m 1 <;> simp [c0, c1]
theorem cut2_ext {l m : List Int} (h1 : l.length = 32) (h2 : m.length = 32) (h : ∀ i, i < 16 → cut l (i * 2) 2 = cut m (i * 2) 2) : l = m := by
  refine cl_ext h1 h2 fun j hj => ?_
  have q := h (j / 2) (by omega)
  have e : cl (cut l (j / 2 * 2) 2) (j % 2) = cl (cut m (j / 2 * 2) 2) (j % 2) := by rw [q]
  rw [cl_cut (by omega), cl_cut (by omega), show j / 2 * 2 + j % 2 = j by omega] at e
  exact e
theorem eq_hub {l m : List Int} (h1 : l.length = 33) (h2 : m.length = 33) (d : Nat) (w : World) : (Op.equalIn (d + 4) 26 (ag l) (ag m)).run Try.prog w = .ok (decide (l = m)) w := by
  obtain ⟨i, hi⟩ := info_port
  unfold ag
  rw [run_equalIn_struct w (d + 3) 26 _ _ und_hub stood_hub]
  have e1 : (Op.equalIn (d + 3) 24 (ag (cut l 1 32)) (ag (cut m 1 32))).run Try.prog w = .ok (decide (cut l 1 32 = cut m 1 32)) w := by
    unfold ag
    rw [run_equalIn_array w (d + 2) (ics (cut l 1 32)) (ics (cut m 1 32)) Try.underlying24 hi, cells_port, eq_items (fun i => decide (cut (cut l 1 32) (i * 2) 2 = cut (cut m 1 32) (i * 2) 2)) w _ (fun i hi => ?_)]
    · congr 1
      refine bool_dec ?_
      rw [List.all_eq_true]
      constructor
      · intro h
        exact cut2_ext (cut_length (by omega)) (cut_length (by omega)) (fun j hj => of_decide_eq_true (h j (List.mem_range.2 hj)))
      · intro h; rw [h]; simp
    · have := List.mem_range.1 hi
      exact ⟨_, _, part_port _ _ w, part_port _ _ w, eq_port (cut_length (by rw [cut_length (by omega)]; omega)) (cut_length (by rw [cut_length (by omega)]; omega)) d w⟩
  have i0 := run_equalIn_int w (d + 2) 3 .i64 .i64 (cl l 0) (cl m 0) Try.underlying3
  have p0 := part_int (l := l) (j := 0) (by omega) w
  have q0 := part_int (l := m) (j := 0) (by omega) w
  have hfi : l = m ↔ cl l 0 = cl m 0 ∧ cut l 1 32 = cut m 1 32 := by
    constructor
    · rintro rfl; exact ⟨rfl, rfl⟩
    · rintro ⟨a0, a1⟩
      refine cl_ext h1 h2 fun j hj => ?_
      by_cases j0 : j = 0
      · rw [j0]; exact a0
      · have : cl (cut l 1 32) (j - 1) = cl (cut m 1 32) (j - 1) := by rw [a1]
        rw [cl_cut (by omega), cl_cut (by omega), show 1 + (j - 1) = j by omega] at this
        exact this
  have hdec : decide (l = m) = (cl l 0 == cl m 0 && decide (cut l 1 32 = cut m 1 32)) := by
    rw [Bool.eq_iff_iff]
    simp [hfi]
  rw [hdec]
  simp only [Program.fieldsOf, Try.underlying26, Op.eqFields, Sem.run_bind, Sem.run_ite, p0, q0, part_ports, i0, e1, Result.andThen_ok]
  by_cases c0 : cl l 0 = cl m 0 <;> cases decide (cut l 1 32 = cut m 1 32) <;> simp [c0]
/-- a type of n numbers whose values are compared -/
structure Cmp (t : TypeId) (n : Nat) : Prop where
  guard : Try.prog.eqGuardType Try.prog.depth t = false
  eq : ∀ (l m : List Int) (w : World), l.length = n → m.length = n → (Op.equalIn 10000 t (ag l) (ag m)).run Try.prog w = .ok (decide (l = m)) w
theorem cmp_port : Cmp 23 2 := ⟨by kernel_rfl, fun l m w h1 h2 => eq_port h1 h2 9998 w⟩
theorem cmp_hub : Cmp 26 33 := ⟨by kernel_rfl, fun l m w h1 h2 => eq_hub h1 h2 9996 w⟩
theorem run_cmp {t : TypeId} {n : Nat} (hc : Cmp t n) {l m : List Int} (h1 : l.length = n) (h2 : m.length = n) (x y : Operand) (w : World) :
    ((do eqGuard .eql t x y (ag l) (ag m); binOp .eql t (ag l) (ag m)) : Sem Value).run Try.prog w = .ok (.bool (decide (l = m))) w ∧ ((do eqGuard .neq t x y (ag l) (ag m); binOp .neq t (ag l) (ag m)) : Sem Value).run Try.prog w = .ok (.bool (!decide (l = m))) w := by
  have := hc.eq l m w h1 h2
  unfold ag at *
  constructor
  · rw [Sem.run_bind, run_eqGuard_agg w _ _ _ _ _ _ hc.guard, Result.andThen_ok, run_eql_struct, this]; rfl
  · rw [Sem.run_bind, run_eqGuard_agg w _ _ _ _ _ _ hc.guard, Result.andThen_ok, run_neq_struct, this]; rfl
/-- == of rows, guarded or not -/
theorem a_eql {ops : Array Oper} {rest : List Oper} {o : Oper} {a : Act} {w : World} {Q : Exit → Act → World → Prop} (hgd : Region.wanted o (yielded ops a.tmps) = true) {t ty : TypeId} {x y : Operand} (ho : o.op = .binOp .eql t x y ty)
    {n : Nat} (hc : Cmp t n) {l m : List Int} (hx : a.eval x = ag l) (hy : a.eval y = ag m) (h1 : l.length = n) (h2 : m.length = n)
    (h : wpList Try.prog ops Q rest (a.put o.dst (.bool (decide (l = m)))) w) : wpList Try.prog ops Q (o :: rest) a w := by
  refine wpList_step fun K hK' => ?_
  rw [if_pos hgd]
  unfold Oper.wp execOp
  have hr := (run_cmp hc h1 h2 x y w).1
  rw [Sem.run_bind] at hr
  simp only [ho, hx, hy, Sem.run_bind, hr, Result.andThen_ok, Sem.run_pure]
  exact hK' _ _ h
theorem a_neq {ops : Array Oper} {rest : List Oper} {o : Oper} {a : Act} {w : World} {Q : Exit → Act → World → Prop} (hgd : Region.wanted o (yielded ops a.tmps) = true) {t ty : TypeId} {x y : Operand} (ho : o.op = .binOp .neq t x y ty)
    {n : Nat} (hc : Cmp t n) {l m : List Int} (hx : a.eval x = ag l) (hy : a.eval y = ag m) (h1 : l.length = n) (h2 : m.length = n)
    (h : wpList Try.prog ops Q rest (a.put o.dst (.bool (!decide (l = m)))) w) : wpList Try.prog ops Q (o :: rest) a w := by
  refine wpList_step fun K hK' => ?_
  rw [if_pos hgd]
  unfold Oper.wp execOp
  have hr := (run_cmp hc h1 h2 x y w).2
  rw [Sem.run_bind] at hr
  simp only [ho, hx, hy, Sem.run_bind, hr, Result.andThen_ok, Sem.run_pure]
  exact hK' _ _ h
/-- a value is built -/
theorem a_build {ops : Array Oper} {rest : List Oper} {o : Oper} {a : Act} {w : World} {Q : Exit → Act → World → Prop} (hgd : Region.wanted o (yielded ops a.tmps) = true) {t : TypeId} {ps : Array (Nat × Operand)} (ho : o.op = .build t ps)
    {vs : Array (Nat × Value)} {v : Value} (hb : ∀ w, (Instr.build t vs).run Try.prog w = .ok v w) (hv : ps.map (fun q => (q.1, a.eval q.2)) = vs)
    (h : wpList Try.prog ops Q rest (a.put o.dst v) w) : wpList Try.prog ops Q (o :: rest) a w := by
  subst hv
  refine wpList_step fun K hK' => ?_
  rw [if_pos hgd]
  unfold Oper.wp execOp
  simp only [ho, Sem.run_bind, hb, Result.andThen_ok, Sem.run_pure]
  exact hK' _ _ h
theorem bld_P0 (w : World) : (Instr.build 23 #[]).run Try.prog w = .ok (ag [0, 0]) w := by kernel_rfl
theorem bld_P (s c : Int) (w : World) : (Instr.build 23 #[(0, .int .i64 s), (1, .int .i64 c)]).run Try.prog w = .ok (ag [s, c]) w := by kernel_rfl
/-- a hub of n ports that have nothing -/
def hub0 (n : Int) : List Int := n :: List.replicate 32 0
theorem hub0_len (n : Int) : (hub0 n).length = 33 := by simp [hub0]
theorem bld_H (n : Int) (w : World) : (Instr.build 26 #[(0, .int .i64 n)]).run Try.prog w = .ok (ag (hub0 n)) w := by kernel_rfl
end Go.Proofs.Ytdnmjeiljpdmcaa.hub
