/- plugref: greetings that are alike; is a greeting right; what is asked of it. -/
import Derived.Test.YtonheibhbilhhaaGreN
import Derived.Test.YtonheibhbilhhaaGreK
import Derived.Test.YtonheibhbilhhaaGreH
import Derived.Test.YtonheibhbilhhaaZBd
import Derived.Laws.StructEq
namespace Go.Proofs.Ytonheibhbilhhaa.greet
open Go Go.RowKit Go.PlainAid Go.Proofs.Ytonheibhbilhhaa.lane Go.Proofs.Ytonheibhbilhhaa.desc
open Go.Proofs.Ytonheibhbilhhaa.setup (inS inS_iff wrT wrC good txt)
set_option linter.unusedVariables false
set_option linter.unusedSimpArgs false
set_option maxRecDepth 100000

theorem und_dev : Try.prog.underlying 23 = some (.struct (Try.prog.fieldsOf 23)) := by kernel_rfl
theorem stood_dev : Try.prog.stoodInHeld 23 = false := by kernel_rfl
theorem und_gad : Try.prog.underlying 52 = some (.struct (Try.prog.fieldsOf 52)) := by kernel_rfl
theorem stood_gad : Try.prog.stoodInHeld 52 = false := by kernel_rfl
/-- a row that is held against itself -/
structure Sam (t : TypeId) (l : List Value) : Prop where
  guard : Try.prog.eqGuardType Try.prog.depth t = false
  eq : ∀ w, (Op.equalIn 10000 t (ag l) (ag l)).run Try.prog w = .ok true w
theorem sam_dev (d : Dv) : Sam 23 (dvl d) := ⟨by kernel_rfl, fun w => by
  unfold ag dvl
  rw [run_equalIn_struct w 9999 23 _ _ und_dev stood_dev]
  simp [go_sem]⟩
theorem sam_gad (s a h : Int) : Sam 52 (gdl s a h) := ⟨by kernel_rfl, fun w => by
  unfold ag gdl
  rw [run_equalIn_struct w 9999 52 _ _ und_gad stood_gad]
  simp [go_sem]⟩
theorem run_sam {t : TypeId} {l : List Value} (hc : Sam t l) (x y : Operand) (w : World) :
    ((do eqGuard .eql t x y (ag l) (ag l); binOp .eql t (ag l) (ag l)) : Sem Value).run Try.prog w = .ok (.bool true) w := by
  have := hc.eq w
  unfold ag at *
  rw [Sem.run_bind, run_eqGuard_agg w _ _ _ _ _ _ hc.guard, Result.andThen_ok, run_eql_struct, this]; rfl
theorem v_sam {ops : Array Oper} {rest : List Oper} {o : Oper} {a : Act} {w : World} {Q : Exit → Act → World → Prop} (hgd : Region.wanted o (yielded ops a.tmps) = true) {t ty : TypeId} {x y : Operand} (ho : o.op = .binOp .eql t x y ty)
    {l : List Value} (hc : Sam t l) (hx : a.eval x = ag l) (hy : a.eval y = ag l)
    (h : wpList Try.prog ops Q rest (a.put o.dst (.bool true)) w) : wpList Try.prog ops Q (o :: rest) a w := by
  refine wpList_step fun K hK' => ?_
  rw [if_pos hgd]
  unfold Oper.wp execOp
  have hr := run_sam hc x y w
  rw [Sem.run_bind] at hr
  simp only [ho, hx, hy, Sem.run_bind, hr, Result.andThen_ok, Sem.run_pure]
  exact hK' _ _ h
theorem v_bsN {ops : Array Oper} {rest : List Oper} {o : Oper} {a : Act} {w : World} {Q : Exit → Act → World → Prop} (hgd : Region.wanted o (yielded ops a.tmps) = true) {t e : TypeId} {n : Nat} {ps : Array (Nat × Operand)} (ho : o.op = .buildSlice t n ps) {vs : Array (Nat × Value)} {V : List Value}
    (hb : ∀ w, (Instr.buildSlice t n vs).run Try.prog w = .ok (.slice (some ⟨w.heap.size, 0, none⟩) n n) (w.alloc (bx e V))) (hv : ps.map (fun q => (q.1, a.eval q.2)) = vs)
    (h : ∀ u B, New w u B e V → wpList Try.prog ops Q rest (a.put o.dst (.slice (some ⟨B, 0, none⟩) n n)) u) : wpList Try.prog ops Q (o :: rest) a w := by
  subst hv
  refine wpList_step fun K hK' => ?_
  rw [if_pos hgd]
  unfold Oper.wp execOp
  simp only [ho, Sem.run_bind, hb, Result.andThen_ok, Sem.run_pure]
  exact hK' _ _ (h _ _ (New.alloc w e V))
theorem r_put {ops : Array Oper} {Q : Exit → Act → World → Prop} {i : Nat} {o : Oper} {K : Act → World → Prop} {a : Act} {W : World} (hi : ops[i]? = some o) (hg : Region.wanted o (yielded ops a.tmps) = true)
    {t : TypeId} {x y : Operand} (ho : o.op = .store t x y) {v : Value} (ht : One t v) {B j : Nat} {T : TypeId} {l l' : List Value} (hx : a.eval x = .pointer (some ⟨B, j, none⟩)) (hy : a.eval y = v) (hB : W.heap[B]? = some (bx T l)) (hle : j < l.length) (hl : l.set j v = l')
    (h : ∀ u, u.heap[B]? = some (bx T l') → Chg B W u → K (a.put o.dst undef) u) : wpOp Try.prog ops Q i K a W := by
  subst hl
  exact reg.r_skip hi hg (ex_st ho ht hx hy (bx_cell hB (List.getElem?_eq_getElem hle)) (bx_free hB j) rfl) (h _ (set_bx hB).1 (set_bx hB).2)
set_option maxHeartbeats 4000000 in
theorem sameGr_any (g : Gr) (u1 u2 : Value) (L1 L2 : FL) (w : World) (h1 : Rc w u1 g.c L1) (h2 : Rc w u2 g.c L2) : Calls Try.prog 13 #[grV g u1, grV g u2] w fun e w' => e = .returned (.bool true) ∧ Below w.heap.size w w' := by
  have HS : Hid (∀ u, Below w.heap.size w u → Calls Try.prog 20 #[ag (cfl g.c u1), ag (cfl g.c u2)] u fun e w' => e = .returned (.bool true) ∧ Below u.heap.size u w') := fun u hu => sameConfig_same g.c u1 u2 L1 L2 u (h1.below hu) (h2.below hu)
  have hM := Mm.nil w
  clear h1 h2
  go_enter Try.func13, Try.ntmps13
  repeat' (first | (go_big_may; first | (refine v_box rfl rfl rfl ?_; intro u za hN; replace hM := hM.new hN; clear hN) | (refine v_box rfl rfl rfl ?_; intro u zb hN; replace hM := hM.new hN; clear hN) | (refine v_get rfl rfl (by first | exact lod_int | exact lod_str | exact lod_fcs | exact lod_err) rfl hM.at1 rfl ?_) | (refine v_get rfl rfl (by first | exact lod_int | exact lod_str | exact lod_fcs | exact lod_err) rfl hM.at0 rfl ?_) | (refine v_load rfl rfl row_device rfl hM.at1 (of_decide_eq_true rfl) (show _ = dvl g.d from rfl) ?_) | (refine v_load rfl rfl row_device rfl hM.at0 (of_decide_eq_true rfl) (show _ = dvl g.d from rfl) ?_) | (refine v_sam rfl rfl (sam_dev g.d) rfl rfl ?_) | (refine v_load rfl rfl row_config rfl hM.at1 (of_decide_eq_true rfl) (show _ = cfl g.c u1 from rfl) ?_) | (refine v_load rfl rfl row_config rfl hM.at0 (of_decide_eq_true rfl) (show _ = cfl g.c u2 from rfl) ?_)) | go_values | go_skip | go_guarded | go_step | go_upon | (simp only [Int.not_lt, Int.not_le] at *; go_simp))
  refine (HS.out _ hM.below).mono ?_
  rintro e u3 ⟨rfl, hb⟩
  replace hM := hM.call hb
  clear hb
  repeat' (first | go_values | go_skip | go_guarded | go_step | go_upon | (simp only [Int.not_lt, Int.not_le] at *; go_simp))
  go_ret
  exact ⟨rfl, hM.below⟩
theorem rbetween_any (x lo hi : Int) (w : World) : Calls Try.prog 9 #[.int .i64 x, .int .i64 lo, .int .i64 hi] w fun e w' => e = .returned (.bool (inS lo hi x)) ∧ w = w' := between_any x lo hi w
set_option maxHeartbeats 4000000 in
theorem rGreeting_any (g : Gr) (u : Value) (w : World) : Calls Try.prog 11 #[grV g u] w fun e w' => e = .returned (.bool (okG g)) ∧ Below w.heap.size w w' := by
  have H0 : Hid (∀ w, Calls Try.prog 9 #[.int .i64 g.st, .int .i64 1, .int .i64 9] w fun e w' => e = .returned (.bool (inS 1 9 g.st)) ∧ w = w') := fun w => rbetween_any _ _ _ w
  have H1 : Hid (∀ w, Calls Try.prog 9 #[.int .i64 g.tr, .int .i64 0, .int .i64 2] w fun e w' => e = .returned (.bool (inS 0 2 g.tr)) ∧ w = w') := fun w => rbetween_any _ _ _ w
  have H2 : Hid (∀ w, Calls Try.prog 9 #[.int .i64 g.ad, .int .i64 1, .int .i64 127] w fun e w' => e = .returned (.bool (inS 1 127 g.ad)) ∧ w = w') := fun w => rbetween_any _ _ _ w
  have H3 : Hid (∀ w, Calls Try.prog 9 #[.int .i64 g.tot, .int .i64 0, .int .i64 512] w fun e w' => e = .returned (.bool (inS 0 512 g.tot)) ∧ w = w') := fun w => rbetween_any _ _ _ w
  have H4 : Hid (∀ w, Calls Try.prog 9 #[.int .i64 g.d.se, .int .i64 0, .int .i64 255] w fun e w' => e = .returned (.bool (inS 0 255 g.d.se)) ∧ w = w') := fun w => rbetween_any _ _ _ w
  have H5 : Hid (∀ w, Calls Try.prog 9 #[.int .i64 g.c.va, .int .i64 0, .int .i64 255] w fun e w' => e = .returned (.bool (inS 0 255 g.c.va)) ∧ w = w') := fun w => rbetween_any _ _ _ w
  have hM := Mm.nil w
  unfold okG
  cases z0 : inS 1 9 g.st
  case false =>
    rw [z0] at H0
    rw [Bool.false_and]
    go_enter Try.func11, Try.ntmps11
    repeat' (first | (go_big_may; first | (refine v_box rfl rfl rfl ?_; intro u zg hN; replace hM := hM.new hN; clear hN) | (refine v_get rfl rfl (by first | exact lod_int | exact lod_str | exact lod_fcs | exact lod_err) rfl hM.at0 rfl ?_)) | go_values | go_skip | go_guarded | go_step | go_upon | (simp only [Int.not_lt, Int.not_le] at *; go_simp))
    refine (H0.out _).mono ?_
    rintro e u1 ⟨rfl, rfl⟩
    repeat' (first | (go_big_may; first | (refine v_get rfl rfl (by first | exact lod_int | exact lod_str | exact lod_fcs | exact lod_err) rfl hM.at0 rfl ?_)) | go_values | go_skip | go_guarded | go_step | go_upon | (simp only [Int.not_lt, Int.not_le] at *; go_simp))
    go_ret
    exact ⟨rfl, hM.below⟩
  rw [z0] at H0
  rw [Bool.true_and]
  cases z1 : inS 0 2 g.tr
  case false =>
    rw [z1] at H1
    rw [Bool.false_and]
    go_enter Try.func11, Try.ntmps11
    repeat' (first | (go_big_may; first | (refine v_box rfl rfl rfl ?_; intro u zg hN; replace hM := hM.new hN; clear hN) | (refine v_get rfl rfl (by first | exact lod_int | exact lod_str | exact lod_fcs | exact lod_err) rfl hM.at0 rfl ?_)) | go_values | go_skip | go_guarded | go_step | go_upon | (simp only [Int.not_lt, Int.not_le] at *; go_simp))
    refine (H0.out _).mono ?_
    rintro e u1 ⟨rfl, rfl⟩
    repeat' (first | (go_big_may; first | (refine v_get rfl rfl (by first | exact lod_int | exact lod_str | exact lod_fcs | exact lod_err) rfl hM.at0 rfl ?_)) | go_values | go_skip | go_guarded | go_step | go_upon | (simp only [Int.not_lt, Int.not_le] at *; go_simp))
    refine (H1.out _).mono ?_
    rintro e u1 ⟨rfl, rfl⟩
    repeat' (first | (go_big_may; first | (refine v_get rfl rfl (by first | exact lod_int | exact lod_str | exact lod_fcs | exact lod_err) rfl hM.at0 rfl ?_)) | go_values | go_skip | go_guarded | go_step | go_upon | (simp only [Int.not_lt, Int.not_le] at *; go_simp))
    go_ret
    exact ⟨rfl, hM.below⟩
  rw [z1] at H1
  rw [Bool.true_and]
  cases z2 : inS 1 127 g.ad
  case false =>
    rw [z2] at H2
    rw [Bool.false_and]
    go_enter Try.func11, Try.ntmps11
    repeat' (first | (go_big_may; first | (refine v_box rfl rfl rfl ?_; intro u zg hN; replace hM := hM.new hN; clear hN) | (refine v_get rfl rfl (by first | exact lod_int | exact lod_str | exact lod_fcs | exact lod_err) rfl hM.at0 rfl ?_)) | go_values | go_skip | go_guarded | go_step | go_upon | (simp only [Int.not_lt, Int.not_le] at *; go_simp))
    refine (H0.out _).mono ?_
    rintro e u1 ⟨rfl, rfl⟩
    repeat' (first | (go_big_may; first | (refine v_get rfl rfl (by first | exact lod_int | exact lod_str | exact lod_fcs | exact lod_err) rfl hM.at0 rfl ?_)) | go_values | go_skip | go_guarded | go_step | go_upon | (simp only [Int.not_lt, Int.not_le] at *; go_simp))
    refine (H1.out _).mono ?_
    rintro e u1 ⟨rfl, rfl⟩
    repeat' (first | (go_big_may; first | (refine v_get rfl rfl (by first | exact lod_int | exact lod_str | exact lod_fcs | exact lod_err) rfl hM.at0 rfl ?_)) | go_values | go_skip | go_guarded | go_step | go_upon | (simp only [Int.not_lt, Int.not_le] at *; go_simp))
    refine (H2.out _).mono ?_
    rintro e u1 ⟨rfl, rfl⟩
    repeat' (first | (go_big_may; first | (refine v_get rfl rfl (by first | exact lod_int | exact lod_str | exact lod_fcs | exact lod_err) rfl hM.at0 rfl ?_)) | go_values | go_skip | go_guarded | go_step | go_upon | (simp only [Int.not_lt, Int.not_le] at *; go_simp))
    go_ret
    exact ⟨rfl, hM.below⟩
  rw [z2] at H2
  rw [Bool.true_and]
  cases z3 : inS 0 512 g.tot
  case false =>
    rw [z3] at H3
    rw [Bool.false_and]
    go_enter Try.func11, Try.ntmps11
    repeat' (first | (go_big_may; first | (refine v_box rfl rfl rfl ?_; intro u zg hN; replace hM := hM.new hN; clear hN) | (refine v_get rfl rfl (by first | exact lod_int | exact lod_str | exact lod_fcs | exact lod_err) rfl hM.at0 rfl ?_)) | go_values | go_skip | go_guarded | go_step | go_upon | (simp only [Int.not_lt, Int.not_le] at *; go_simp))
    refine (H0.out _).mono ?_
    rintro e u1 ⟨rfl, rfl⟩
    repeat' (first | (go_big_may; first | (refine v_get rfl rfl (by first | exact lod_int | exact lod_str | exact lod_fcs | exact lod_err) rfl hM.at0 rfl ?_)) | go_values | go_skip | go_guarded | go_step | go_upon | (simp only [Int.not_lt, Int.not_le] at *; go_simp))
    refine (H1.out _).mono ?_
    rintro e u1 ⟨rfl, rfl⟩
    repeat' (first | (go_big_may; first | (refine v_get rfl rfl (by first | exact lod_int | exact lod_str | exact lod_fcs | exact lod_err) rfl hM.at0 rfl ?_)) | go_values | go_skip | go_guarded | go_step | go_upon | (simp only [Int.not_lt, Int.not_le] at *; go_simp))
    refine (H2.out _).mono ?_
    rintro e u1 ⟨rfl, rfl⟩
    repeat' (first | (go_big_may; first | (refine v_get rfl rfl (by first | exact lod_int | exact lod_str | exact lod_fcs | exact lod_err) rfl hM.at0 rfl ?_)) | go_values | go_skip | go_guarded | go_step | go_upon | (simp only [Int.not_lt, Int.not_le] at *; go_simp))
    refine (H3.out _).mono ?_
    rintro e u1 ⟨rfl, rfl⟩
    repeat' (first | (go_big_may; first | (refine v_get rfl rfl (by first | exact lod_int | exact lod_str | exact lod_fcs | exact lod_err) rfl hM.at0 rfl ?_)) | go_values | go_skip | go_guarded | go_step | go_upon | (simp only [Int.not_lt, Int.not_le] at *; go_simp))
    go_ret
    exact ⟨rfl, hM.below⟩
  rw [z3] at H3
  rw [Bool.true_and]
  cases z4 : inS 0 255 g.d.se
  case false =>
    rw [z4] at H4
    rw [Bool.false_and]
    go_enter Try.func11, Try.ntmps11
    repeat' (first | (go_big_may; first | (refine v_box rfl rfl rfl ?_; intro u zg hN; replace hM := hM.new hN; clear hN) | (refine v_get rfl rfl (by first | exact lod_int | exact lod_str | exact lod_fcs | exact lod_err) rfl hM.at0 rfl ?_)) | go_values | go_skip | go_guarded | go_step | go_upon | (simp only [Int.not_lt, Int.not_le] at *; go_simp))
    refine (H0.out _).mono ?_
    rintro e u1 ⟨rfl, rfl⟩
    repeat' (first | (go_big_may; first | (refine v_get rfl rfl (by first | exact lod_int | exact lod_str | exact lod_fcs | exact lod_err) rfl hM.at0 rfl ?_)) | go_values | go_skip | go_guarded | go_step | go_upon | (simp only [Int.not_lt, Int.not_le] at *; go_simp))
    refine (H1.out _).mono ?_
    rintro e u1 ⟨rfl, rfl⟩
    repeat' (first | (go_big_may; first | (refine v_get rfl rfl (by first | exact lod_int | exact lod_str | exact lod_fcs | exact lod_err) rfl hM.at0 rfl ?_)) | go_values | go_skip | go_guarded | go_step | go_upon | (simp only [Int.not_lt, Int.not_le] at *; go_simp))
    refine (H2.out _).mono ?_
    rintro e u1 ⟨rfl, rfl⟩
    repeat' (first | (go_big_may; first | (refine v_get rfl rfl (by first | exact lod_int | exact lod_str | exact lod_fcs | exact lod_err) rfl hM.at0 rfl ?_)) | go_values | go_skip | go_guarded | go_step | go_upon | (simp only [Int.not_lt, Int.not_le] at *; go_simp))
    refine (H3.out _).mono ?_
    rintro e u1 ⟨rfl, rfl⟩
    repeat' (first | (go_big_may; first | (refine v_get rfl rfl (by first | exact lod_int | exact lod_str | exact lod_fcs | exact lod_err) rfl hM.at0 rfl ?_)) | go_values | go_skip | go_guarded | go_step | go_upon | (simp only [Int.not_lt, Int.not_le] at *; go_simp))
    refine (H4.out _).mono ?_
    rintro e u1 ⟨rfl, rfl⟩
    repeat' (first | (go_big_may; first | (refine v_get rfl rfl (by first | exact lod_int | exact lod_str | exact lod_fcs | exact lod_err) rfl hM.at0 rfl ?_)) | go_values | go_skip | go_guarded | go_step | go_upon | (simp only [Int.not_lt, Int.not_le] at *; go_simp))
    go_ret
    exact ⟨rfl, hM.below⟩
  rw [z4] at H4
  rw [Bool.true_and]
  cases z5 : inS 0 255 g.c.va
  case false =>
    rw [z5] at H5
    skip
    go_enter Try.func11, Try.ntmps11
    repeat' (first | (go_big_may; first | (refine v_box rfl rfl rfl ?_; intro u zg hN; replace hM := hM.new hN; clear hN) | (refine v_get rfl rfl (by first | exact lod_int | exact lod_str | exact lod_fcs | exact lod_err) rfl hM.at0 rfl ?_)) | go_values | go_skip | go_guarded | go_step | go_upon | (simp only [Int.not_lt, Int.not_le] at *; go_simp))
    refine (H0.out _).mono ?_
    rintro e u1 ⟨rfl, rfl⟩
    repeat' (first | (go_big_may; first | (refine v_get rfl rfl (by first | exact lod_int | exact lod_str | exact lod_fcs | exact lod_err) rfl hM.at0 rfl ?_)) | go_values | go_skip | go_guarded | go_step | go_upon | (simp only [Int.not_lt, Int.not_le] at *; go_simp))
    refine (H1.out _).mono ?_
    rintro e u1 ⟨rfl, rfl⟩
    repeat' (first | (go_big_may; first | (refine v_get rfl rfl (by first | exact lod_int | exact lod_str | exact lod_fcs | exact lod_err) rfl hM.at0 rfl ?_)) | go_values | go_skip | go_guarded | go_step | go_upon | (simp only [Int.not_lt, Int.not_le] at *; go_simp))
    refine (H2.out _).mono ?_
    rintro e u1 ⟨rfl, rfl⟩
    repeat' (first | (go_big_may; first | (refine v_get rfl rfl (by first | exact lod_int | exact lod_str | exact lod_fcs | exact lod_err) rfl hM.at0 rfl ?_)) | go_values | go_skip | go_guarded | go_step | go_upon | (simp only [Int.not_lt, Int.not_le] at *; go_simp))
    refine (H3.out _).mono ?_
    rintro e u1 ⟨rfl, rfl⟩
    repeat' (first | (go_big_may; first | (refine v_get rfl rfl (by first | exact lod_int | exact lod_str | exact lod_fcs | exact lod_err) rfl hM.at0 rfl ?_)) | go_values | go_skip | go_guarded | go_step | go_upon | (simp only [Int.not_lt, Int.not_le] at *; go_simp))
    refine (H4.out _).mono ?_
    rintro e u1 ⟨rfl, rfl⟩
    repeat' (first | (go_big_may; first | (refine v_get rfl rfl (by first | exact lod_int | exact lod_str | exact lod_fcs | exact lod_err) rfl hM.at0 rfl ?_)) | go_values | go_skip | go_guarded | go_step | go_upon | (simp only [Int.not_lt, Int.not_le] at *; go_simp))
    refine (H5.out _).mono ?_
    rintro e u1 ⟨rfl, rfl⟩
    repeat' (first | (go_big_may; first | (refine v_get rfl rfl (by first | exact lod_int | exact lod_str | exact lod_fcs | exact lod_err) rfl hM.at0 rfl ?_)) | go_values | go_skip | go_guarded | go_step | go_upon | (simp only [Int.not_lt, Int.not_le] at *; go_simp))
    go_ret
    exact ⟨rfl, hM.below⟩
  rw [z5] at H5
  go_enter Try.func11, Try.ntmps11
  repeat' (first | (go_big_may; first | (refine v_box rfl rfl rfl ?_; intro u zg hN; replace hM := hM.new hN; clear hN) | (refine v_get rfl rfl (by first | exact lod_int | exact lod_str | exact lod_fcs | exact lod_err) rfl hM.at0 rfl ?_)) | go_values | go_skip | go_guarded | go_step | go_upon | (simp only [Int.not_lt, Int.not_le] at *; go_simp))
  refine (H0.out _).mono ?_
  rintro e u1 ⟨rfl, rfl⟩
  repeat' (first | (go_big_may; first | (refine v_get rfl rfl (by first | exact lod_int | exact lod_str | exact lod_fcs | exact lod_err) rfl hM.at0 rfl ?_)) | go_values | go_skip | go_guarded | go_step | go_upon | (simp only [Int.not_lt, Int.not_le] at *; go_simp))
  refine (H1.out _).mono ?_
  rintro e u1 ⟨rfl, rfl⟩
  repeat' (first | (go_big_may; first | (refine v_get rfl rfl (by first | exact lod_int | exact lod_str | exact lod_fcs | exact lod_err) rfl hM.at0 rfl ?_)) | go_values | go_skip | go_guarded | go_step | go_upon | (simp only [Int.not_lt, Int.not_le] at *; go_simp))
  refine (H2.out _).mono ?_
  rintro e u1 ⟨rfl, rfl⟩
  repeat' (first | (go_big_may; first | (refine v_get rfl rfl (by first | exact lod_int | exact lod_str | exact lod_fcs | exact lod_err) rfl hM.at0 rfl ?_)) | go_values | go_skip | go_guarded | go_step | go_upon | (simp only [Int.not_lt, Int.not_le] at *; go_simp))
  refine (H3.out _).mono ?_
  rintro e u1 ⟨rfl, rfl⟩
  repeat' (first | (go_big_may; first | (refine v_get rfl rfl (by first | exact lod_int | exact lod_str | exact lod_fcs | exact lod_err) rfl hM.at0 rfl ?_)) | go_values | go_skip | go_guarded | go_step | go_upon | (simp only [Int.not_lt, Int.not_le] at *; go_simp))
  refine (H4.out _).mono ?_
  rintro e u1 ⟨rfl, rfl⟩
  repeat' (first | (go_big_may; first | (refine v_get rfl rfl (by first | exact lod_int | exact lod_str | exact lod_fcs | exact lod_err) rfl hM.at0 rfl ?_)) | go_values | go_skip | go_guarded | go_step | go_upon | (simp only [Int.not_lt, Int.not_le] at *; go_simp))
  refine (H5.out _).mono ?_
  rintro e u1 ⟨rfl, rfl⟩
  repeat' (first | (go_big_may; first | (refine v_get rfl rfl (by first | exact lod_int | exact lod_str | exact lod_fcs | exact lod_err) rfl hM.at0 rfl ?_)) | go_values | go_skip | go_guarded | go_step | go_upon | (simp only [Int.not_lt, Int.not_le] at *; go_simp))
  go_ret
  exact ⟨rfl, hM.below⟩
end Go.Proofs.Ytonheibhbilhhaa.greet
