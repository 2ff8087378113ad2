/- plugref: greetings that are alike; is a greeting right; what is asked of it. -/
import Derived.Test.YtonheibhbilhhaaGreatGreN
import Derived.Test.YtonheibhbilhhaaGreatZGb
import Derived.Test.YtonheibhbilhhaaGreatZMa
import Derived.Test.YtonheibhbilhhaaGreatZBd
import Derived.Laws.StructEq
import Derived.Test.YtonheibhbilhhaaGreatZBi
namespace Go.Proofs.YtonheibhbilhhaaGreat.greet
open Go Go.RowKit Go.PlainAid Go.Proofs.YtonheibhbilhhaaGreat.lane Go.Proofs.YtonheibhbilhhaaGreat.desc
open Go.Proofs.YtonheibhbilhhaaGreat.setup (inS inS_iff wrT wrC good txt)
set_option linter.unusedVariables false
set_option linter.unusedSimpArgs false
set_option maxRecDepth 100000
theorem und_dev : Tryz.prog.underlying 23 = some (.struct (Tryz.prog.fieldsOf 23)) := by kernel_rfl
theorem stood_dev : Tryz.prog.stoodInHeld 23 = false := by kernel_rfl
theorem und_gad : Tryz.prog.underlying 35 = some (.struct (Tryz.prog.fieldsOf 35)) := by kernel_rfl
theorem stood_gad : Tryz.prog.stoodInHeld 35 = false := by kernel_rfl
structure Sam (t : TypeId) (l : List Value) : Prop where
 guard : Tryz.prog.eqGuardType Tryz.prog.depth t = false
 eq : ∀ w, (Op.equalIn 10000 t (ag l) (ag l)).run Tryz.prog w = .ok true w
theorem sam_dev (d : Dv) : Sam 23 (dvl d) := ⟨by kernel_rfl, fun w => by
 unfold ag dvl
 rw [run_equalIn_struct w 9999 23 _ _ und_dev stood_dev]
 simp [go_sem]⟩
theorem sam_gad (s a h : Int) : Sam 35 (gdl s a h) := ⟨by kernel_rfl, fun w => by
 unfold ag gdl
 rw [run_equalIn_struct w 9999 35 _ _ und_gad stood_gad]
 simp [go_sem]⟩
theorem run_sam {t : TypeId} {l : List Value} (hc : Sam t l) (x y : Operand) (w : World) :
  ((do eqGuard .eql t x y (ag l) (ag l); binOp .eql t (ag l) (ag l)) : Sem Value).run Tryz.prog w = .ok (.bool true) w := by
 have := hc.eq w
 unfold ag at *
 rw [Sem.run_bind, run_eqGuard_agg w _ _ _ _ _ _ hc.guard, Result.andThen_ok, run_eql_struct, this]; rfl
theorem v_sam {ops : Array Oper} {rest : List Oper} {o : Oper} {a : Act} {w : World} {Q : Exit → Act → World → Prop} (hgd : Region.wanted o (yielded ops a.tmps) = true) {t ty : TypeId} {x y : Operand} (ho : o.op = .binOp .eql t x y ty)
  {l : List Value} (hc : Sam t l) (hx : a.eval x = ag l) (hy : a.eval y = ag l)
  (h : wpList Tryz.prog ops Q rest (a.put o.dst (.bool true)) w) : wpList Tryz.prog ops Q (o :: rest) a w := by
 refine wpList_step fun K hK' => ?_
 rw [if_pos hgd]
 unfold Oper.wp execOp
 have hr := run_sam hc x y w
 rw [Sem.run_bind] at hr
 simp only [ho, hx, hy, Sem.run_bind, hr, Result.andThen_ok, Sem.run_pure]
 exact hK' _ _ h
theorem v_bsN {ops : Array Oper} {rest : List Oper} {o : Oper} {a : Act} {w : World} {Q : Exit → Act → World → Prop} (hgd : Region.wanted o (yielded ops a.tmps) = true) {t e : TypeId} {n : Nat} {ps : Array (Nat × Operand)} (ho : o.op = .buildSlice t n ps) {vs : Array (Nat × Value)} {V : List Value}
  (hb : ∀ w, (Instr.buildSlice t n vs).run Tryz.prog w = .ok (.slice (some ⟨w.heap.size, 0, none⟩) n n) (w.alloc (bx e V))) (hv : ps.map (fun q => (q.1, a.eval q.2)) = vs)
  (h : ∀ u B, New w u B e V → wpList Tryz.prog ops Q rest (a.put o.dst (.slice (some ⟨B, 0, none⟩) n n)) u) : wpList Tryz.prog ops Q (o :: rest) a w := by
 subst hv
 refine wpList_step fun K hK' => ?_
 rw [if_pos hgd]
 unfold Oper.wp execOp
 simp only [ho, Sem.run_bind, hb, Result.andThen_ok, Sem.run_pure]
 exact hK' _ _ (h _ _ (New.alloc w e V))
set_option maxHeartbeats 4000000 in
theorem sameGr_any (g : Gr) (u1 u2 : Value) (L1 L2 : FL) (w : World) (h1 : Rc w u1 g.c L1) (h2 : Rc w u2 g.c L2) : Calls Tryz.prog 6 #[grV g u1, grV g u2] w fun e w' => e = .returned (.bool true) ∧ Below w.heap.size w w' := by
 have HS : Hid (∀ u, Below w.heap.size w u → Calls Tryz.prog 20 #[ag (cfl g.c u1), ag (cfl g.c u2)] u fun e w' => e = .returned (.bool true) ∧ Below u.heap.size u w') := fun u hu => sameConfig_same g.c u1 u2 L1 L2 u (h1.below hu) (h2.below hu)
 have hM := Mm.nil w
 clear h1 h2
 go_enter Tryz.func6, Tryz.ntmps6
 repeat' (first | (go_big_may; first | (refine v_box rfl rfl rfl ?_; intro u za hN; replace hM := hM.new hN; clear hN) | (refine v_box rfl rfl rfl ?_; intro u zb hN; replace hM := hM.new hN; clear hN) | (refine v_get rfl rfl (by first | exact lod_int | exact lod_str | exact lod_fcs | exact lod_err) rfl hM.at1 rfl ?_) | (refine v_get rfl rfl (by first | exact lod_int | exact lod_str | exact lod_fcs | exact lod_err) rfl hM.at0 rfl ?_) | (refine v_load rfl rfl row_device rfl hM.at1 (of_decide_eq_true rfl) (show _ = dvl g.d from rfl) ?_) | (refine v_load rfl rfl row_device rfl hM.at0 (of_decide_eq_true rfl) (show _ = dvl g.d from rfl) ?_) | (refine v_sam rfl rfl (sam_dev g.d) rfl rfl ?_) | (refine v_load rfl rfl row_config rfl hM.at1 (of_decide_eq_true rfl) (show _ = cfl g.c u1 from rfl) ?_) | (refine v_load rfl rfl row_config rfl hM.at0 (of_decide_eq_true rfl) (show _ = cfl g.c u2 from rfl) ?_)) | go_values | go_skip | go_guarded | go_step | go_upon | (simp only [Int.not_lt, Int.not_le] at *; go_simp))
 refine (HS.out _ hM.below).mono ?_
 rintro e u3 ⟨rfl, hb⟩
 replace hM := hM.call hb
 clear hb
 repeat' (first | go_values | go_skip | go_guarded | go_step | go_upon | (simp only [Int.not_lt, Int.not_le] at *; go_simp))
 go_ret
 exact ⟨rfl, hM.below⟩
theorem rbetween_any (x lo hi : Int) (w : World) : Calls Tryz.prog 13 #[.int .i64 x, .int .i64 lo, .int .i64 hi] w fun e w' => e = .returned (.bool (inS lo hi x)) ∧ w = w' := between_any x lo hi w
set_option maxHeartbeats 4000000 in
theorem rGreeting_any (g : Gr) (u : Value) (w : World) : Calls Tryz.prog 43 #[grV g u] w fun e w' => e = .returned (.bool (okG g)) ∧ Below w.heap.size w w' := by
 have H0 : Hid (∀ w, Calls Tryz.prog 13 #[.int .i64 g.st, .int .i64 1, .int .i64 9] w fun e w' => e = .returned (.bool (inS 1 9 g.st)) ∧ w = w') := fun w => rbetween_any _ _ _ w
 have H1 : Hid (∀ w, Calls Tryz.prog 13 #[.int .i64 g.tr, .int .i64 0, .int .i64 2] w fun e w' => e = .returned (.bool (inS 0 2 g.tr)) ∧ w = w') := fun w => rbetween_any _ _ _ w
 have H2 : Hid (∀ w, Calls Tryz.prog 13 #[.int .i64 g.ad, .int .i64 1, .int .i64 127] w fun e w' => e = .returned (.bool (inS 1 127 g.ad)) ∧ w = w') := fun w => rbetween_any _ _ _ w
 have H3 : Hid (∀ w, Calls Tryz.prog 13 #[.int .i64 g.tot, .int .i64 0, .int .i64 512] w fun e w' => e = .returned (.bool (inS 0 512 g.tot)) ∧ w = w') := fun w => rbetween_any _ _ _ w
 have H4 : Hid (∀ w, Calls Tryz.prog 13 #[.int .i64 g.d.se, .int .i64 0, .int .i64 255] w fun e w' => e = .returned (.bool (inS 0 255 g.d.se)) ∧ w = w') := fun w => rbetween_any _ _ _ w
 have H5 : Hid (∀ w, Calls Tryz.prog 13 #[.int .i64 g.c.va, .int .i64 0, .int .i64 255] w fun e w' => e = .returned (.bool (inS 0 255 g.c.va)) ∧ w = w') := fun w => rbetween_any _ _ _ w
 have hM := Mm.nil w
 unfold okG
 cases z0 : inS 1 9 g.st
 case false =>
  rw [z0] at H0
  rw [Bool.false_and]
  go_enter Tryz.func43, Tryz.ntmps43
  repeat' (first | (go_big_may; first | (refine v_box rfl rfl rfl ?_; intro u zg hN; replace hM := hM.new hN; clear hN) | (refine v_get rfl rfl (by first | exact lod_int | exact lod_str | exact lod_fcs | exact lod_err) rfl hM.at0 rfl ?_)) | go_values | go_skip | go_guarded | go_step | go_upon | (simp only [Int.not_lt, Int.not_le] at *; go_simp))
  refine (H0.out _).mono ?_
  rintro e u1 ⟨rfl, rfl⟩
  repeat' (first | (go_big_may; first | (refine v_get rfl rfl (by first | exact lod_int | exact lod_str | exact lod_fcs | exact lod_err) rfl hM.at0 rfl ?_)) | go_values | go_skip | go_guarded | go_step | go_upon | (simp only [Int.not_lt, Int.not_le] at *; go_simp))
  go_ret
  exact ⟨rfl, hM.below⟩
 rw [z0] at H0
 rw [Bool.true_and]
 cases z1 : inS 0 2 g.tr
 case false =>
  rw [z1] at H1
  rw [Bool.false_and]
  go_enter Tryz.func43, Tryz.ntmps43
  repeat' (first | (go_big_may; first | (refine v_box rfl rfl rfl ?_; intro u zg hN; replace hM := hM.new hN; clear hN) | (refine v_get rfl rfl (by first | exact lod_int | exact lod_str | exact lod_fcs | exact lod_err) rfl hM.at0 rfl ?_)) | go_values | go_skip | go_guarded | go_step | go_upon | (simp only [Int.not_lt, Int.not_le] at *; go_simp))
  refine (H0.out _).mono ?_
  rintro e u1 ⟨rfl, rfl⟩
  repeat' (first | (go_big_may; first | (refine v_get rfl rfl (by first | exact lod_int | exact lod_str | exact lod_fcs | exact lod_err) rfl hM.at0 rfl ?_)) | go_values | go_skip | go_guarded | go_step | go_upon | (simp only [Int.not_lt, Int.not_le] at *; go_simp))
  refine (H1.out _).mono ?_
  rintro e u1 ⟨rfl, rfl⟩
  repeat' (first | (go_big_may; first | (refine v_get rfl rfl (by first | exact lod_int | exact lod_str | exact lod_fcs | exact lod_err) rfl hM.at0 rfl ?_)) | go_values | go_skip | go_guarded | go_step | go_upon | (simp only [Int.not_lt, Int.not_le] at *; go_simp))
  go_ret
  exact ⟨rfl, hM.below⟩
 rw [z1] at H1
 rw [Bool.true_and]
 cases z2 : inS 1 127 g.ad
 case false =>
  rw [z2] at H2
  rw [Bool.false_and]
  go_enter Tryz.func43, Tryz.ntmps43
  repeat' (first | (go_big_may; first | (refine v_box rfl rfl rfl ?_; intro u zg hN; replace hM := hM.new hN; clear hN) | (refine v_get rfl rfl (by first | exact lod_int | exact lod_str | exact lod_fcs | exact lod_err) rfl hM.at0 rfl ?_)) | go_values | go_skip | go_guarded | go_step | go_upon | (simp only [Int.not_lt, Int.not_le] at *; go_simp))
  refine (H0.out _).mono ?_
  rintro e u1 ⟨rfl, rfl⟩
  repeat' (first | (go_big_may; first | (refine v_get rfl rfl (by first | exact lod_int | exact lod_str | exact lod_fcs | exact lod_err) rfl hM.at0 rfl ?_)) | go_values | go_skip | go_guarded | go_step | go_upon | (simp only [Int.not_lt, Int.not_le] at *; go_simp))
  refine (H1.out _).mono ?_
  rintro e u1 ⟨rfl, rfl⟩
  repeat' (first | (go_big_may; first | (refine v_get rfl rfl (by first | exact lod_int | exact lod_str | exact lod_fcs | exact lod_err) rfl hM.at0 rfl ?_)) | go_values | go_skip | go_guarded | go_step | go_upon | (simp only [Int.not_lt, Int.not_le] at *; go_simp))
  refine (H2.out _).mono ?_
  rintro e u1 ⟨rfl, rfl⟩
  repeat' (first | (go_big_may; first | (refine v_get rfl rfl (by first | exact lod_int | exact lod_str | exact lod_fcs | exact lod_err) rfl hM.at0 rfl ?_)) | go_values | go_skip | go_guarded | go_step | go_upon | (simp only [Int.not_lt, Int.not_le] at *; go_simp))
  go_ret
  exact ⟨rfl, hM.below⟩
 rw [z2] at H2
 rw [Bool.true_and]
 cases z3 : inS 0 512 g.tot
 case false =>
  rw [z3] at H3
  rw [Bool.false_and]
  go_enter Tryz.func43, Tryz.ntmps43
  repeat' (first | (go_big_may; first | (refine v_box rfl rfl rfl ?_; intro u zg hN; replace hM := hM.new hN; clear hN) | (refine v_get rfl rfl (by first | exact lod_int | exact lod_str | exact lod_fcs | exact lod_err) rfl hM.at0 rfl ?_)) | go_values | go_skip | go_guarded | go_step | go_upon | (simp only [Int.not_lt, Int.not_le] at *; go_simp))
  refine (H0.out _).mono ?_
  rintro e u1 ⟨rfl, rfl⟩
  repeat' (first | (go_big_may; first | (refine v_get rfl rfl (by first | exact lod_int | exact lod_str | exact lod_fcs | exact lod_err) rfl hM.at0 rfl ?_)) | go_values | go_skip | go_guarded | go_step | go_upon | (simp only [Int.not_lt, Int.not_le] at *; go_simp))
  refine (H1.out _).mono ?_
  rintro e u1 ⟨rfl, rfl⟩
  repeat' (first | (go_big_may; first | (refine v_get rfl rfl (by first | exact lod_int | exact lod_str | exact lod_fcs | exact lod_err) rfl hM.at0 rfl ?_)) | go_values | go_skip | go_guarded | go_step | go_upon | (simp only [Int.not_lt, Int.not_le] at *; go_simp))
  refine (H2.out _).mono ?_
  rintro e u1 ⟨rfl, rfl⟩
  repeat' (first | (go_big_may; first | (refine v_get rfl rfl (by first | exact lod_int | exact lod_str | exact lod_fcs | exact lod_err) rfl hM.at0 rfl ?_)) | go_values | go_skip | go_guarded | go_step | go_upon | (simp only [Int.not_lt, Int.not_le] at *; go_simp))
  refine (H3.out _).mono ?_
  rintro e u1 ⟨rfl, rfl⟩
  repeat' (first | (go_big_may; first | (refine v_get rfl rfl (by first | exact lod_int | exact lod_str | exact lod_fcs | exact lod_err) rfl hM.at0 rfl ?_)) | go_values | go_skip | go_guarded | go_step | go_upon | (simp only [Int.not_lt, Int.not_le] at *; go_simp))
  go_ret
  exact ⟨rfl, hM.below⟩
 rw [z3] at H3
 rw [Bool.true_and]
 cases z4 : inS 0 255 g.d.se
 case false =>
  rw [z4] at H4
  rw [Bool.false_and]
  go_enter Tryz.func43, Tryz.ntmps43
  repeat' (first | (go_big_may; first | (refine v_box rfl rfl rfl ?_; intro u zg hN; replace hM := hM.new hN; clear hN) | (refine v_get rfl rfl (by first | exact lod_int | exact lod_str | exact lod_fcs | exact lod_err) rfl hM.at0 rfl ?_)) | go_values | go_skip | go_guarded | go_step | go_upon | (simp only [Int.not_lt, Int.not_le] at *; go_simp))
  refine (H0.out _).mono ?_
  rintro e u1 ⟨rfl, rfl⟩
  repeat' (first | (go_big_may; first | (refine v_get rfl rfl (by first | exact lod_int | exact lod_str | exact lod_fcs | exact lod_err) rfl hM.at0 rfl ?_)) | go_values | go_skip | go_guarded | go_step | go_upon | (simp only [Int.not_lt, Int.not_le] at *; go_simp))
  refine (H1.out _).mono ?_
  rintro e u1 ⟨rfl, rfl⟩
  repeat' (first | (go_big_may; first | (refine v_get rfl rfl (by first | exact lod_int | exact lod_str | exact lod_fcs | exact lod_err) rfl hM.at0 rfl ?_)) | go_values | go_skip | go_guarded | go_step | go_upon | (simp only [Int.not_lt, Int.not_le] at *; go_simp))
  refine (H2.out _).mono ?_
  rintro e u1 ⟨rfl, rfl⟩
  repeat' (first | (go_big_may; first | (refine v_get rfl rfl (by first | exact lod_int | exact lod_str | exact lod_fcs | exact lod_err) rfl hM.at0 rfl ?_)) | go_values | go_skip | go_guarded | go_step | go_upon | (simp only [Int.not_lt, Int.not_le] at *; go_simp))
  refine (H3.out _).mono ?_
  rintro e u1 ⟨rfl, rfl⟩
  repeat' (first | (go_big_may; first | (refine v_get rfl rfl (by first | exact lod_int | exact lod_str | exact lod_fcs | exact lod_err) rfl hM.at0 rfl ?_)) | go_values | go_skip | go_guarded | go_step | go_upon | (simp only [Int.not_lt, Int.not_le] at *; go_simp))
  refine (H4.out _).mono ?_
  rintro e u1 ⟨rfl, rfl⟩
  repeat' (first | (go_big_may; first | (refine v_get rfl rfl (by first | exact lod_int | exact lod_str | exact lod_fcs | exact lod_err) rfl hM.at0 rfl ?_)) | go_values | go_skip | go_guarded | go_step | go_upon | (simp only [Int.not_lt, Int.not_le] at *; go_simp))
  go_ret
  exact ⟨rfl, hM.below⟩
 rw [z4] at H4
 rw [Bool.true_and]
 cases z5 : inS 0 255 g.c.va
 case false =>
  rw [z5] at H5
  skip
  go_enter Tryz.func43, Tryz.ntmps43
  repeat' (first | (go_big_may; first | (refine v_box rfl rfl rfl ?_; intro u zg hN; replace hM := hM.new hN; clear hN) | (refine v_get rfl rfl (by first | exact lod_int | exact lod_str | exact lod_fcs | exact lod_err) rfl hM.at0 rfl ?_)) | go_values | go_skip | go_guarded | go_step | go_upon | (simp only [Int.not_lt, Int.not_le] at *; go_simp))
  refine (H0.out _).mono ?_
  rintro e u1 ⟨rfl, rfl⟩
  repeat' (first | (go_big_may; first | (refine v_get rfl rfl (by first | exact lod_int | exact lod_str | exact lod_fcs | exact lod_err) rfl hM.at0 rfl ?_)) | go_values | go_skip | go_guarded | go_step | go_upon | (simp only [Int.not_lt, Int.not_le] at *; go_simp))
  refine (H1.out _).mono ?_
  rintro e u1 ⟨rfl, rfl⟩
  repeat' (first | (go_big_may; first | (refine v_get rfl rfl (by first | exact lod_int | exact lod_str | exact lod_fcs | exact lod_err) rfl hM.at0 rfl ?_)) | go_values | go_skip | go_guarded | go_step | go_upon | (simp only [Int.not_lt, Int.not_le] at *; go_simp))
  refine (H2.out _).mono ?_
  rintro e u1 ⟨rfl, rfl⟩
  repeat' (first | (go_big_may; first | (refine v_get rfl rfl (by first | exact lod_int | exact lod_str | exact lod_fcs | exact lod_err) rfl hM.at0 rfl ?_)) | go_values | go_skip | go_guarded | go_step | go_upon | (simp only [Int.not_lt, Int.not_le] at *; go_simp))
  refine (H3.out _).mono ?_
  rintro e u1 ⟨rfl, rfl⟩
  repeat' (first | (go_big_may; first | (refine v_get rfl rfl (by first | exact lod_int | exact lod_str | exact lod_fcs | exact lod_err) rfl hM.at0 rfl ?_)) | go_values | go_skip | go_guarded | go_step | go_upon | (simp only [Int.not_lt, Int.not_le] at *; go_simp))
  refine (H4.out _).mono ?_
  rintro e u1 ⟨rfl, rfl⟩
  repeat' (first | (go_big_may; first | (refine v_get rfl rfl (by first | exact lod_int | exact lod_str | exact lod_fcs | exact lod_err) rfl hM.at0 rfl ?_)) | go_values | go_skip | go_guarded | go_step | go_upon | (simp only [Int.not_lt, Int.not_le] at *; go_simp))
  refine (H5.out _).mono ?_
  rintro e u1 ⟨rfl, rfl⟩
  repeat' (first | (go_big_may; first | (refine v_get rfl rfl (by first | exact lod_int | exact lod_str | exact lod_fcs | exact lod_err) rfl hM.at0 rfl ?_)) | go_values | go_skip | go_guarded | go_step | go_upon | (simp only [Int.not_lt, Int.not_le] at *; go_simp))
  go_ret
  exact ⟨rfl, hM.below⟩
 rw [z5] at H5
 go_enter Tryz.func43, Tryz.ntmps43
 repeat' (first | (go_big_may; first | (refine v_box rfl rfl rfl ?_; intro u zg hN; replace hM := hM.new hN; clear hN) | (refine v_get rfl rfl (by first | exact lod_int | exact lod_str | exact lod_fcs | exact lod_err) rfl hM.at0 rfl ?_)) | go_values | go_skip | go_guarded | go_step | go_upon | (simp only [Int.not_lt, Int.not_le] at *; go_simp))
 refine (H0.out _).mono ?_
 rintro e u1 ⟨rfl, rfl⟩
 repeat' (first | (go_big_may; first | (refine v_get rfl rfl (by first | exact lod_int | exact lod_str | exact lod_fcs | exact lod_err) rfl hM.at0 rfl ?_)) | go_values | go_skip | go_guarded | go_step | go_upon | (simp only [Int.not_lt, Int.not_le] at *; go_simp))
 refine (H1.out _).mono ?_
 rintro e u1 ⟨rfl, rfl⟩
 repeat' (first | (go_big_may; first | (refine v_get rfl rfl (by first | exact lod_int | exact lod_str | exact lod_fcs | exact lod_err) rfl hM.at0 rfl ?_)) | go_values | go_skip | go_guarded | go_step | go_upon | (simp only [Int.not_lt, Int.not_le] at *; go_simp))
 refine (H2.out _).mono ?_
 rintro e u1 ⟨rfl, rfl⟩
 repeat' (first | (go_big_may; first | (refine v_get rfl rfl (by first | exact lod_int | exact lod_str | exact lod_fcs | exact lod_err) rfl hM.at0 rfl ?_)) | go_values | go_skip | go_guarded | go_step | go_upon | (simp only [Int.not_lt, Int.not_le] at *; go_simp))
 refine (H3.out _).mono ?_
 rintro e u1 ⟨rfl, rfl⟩
 repeat' (first | (go_big_may; first | (refine v_get rfl rfl (by first | exact lod_int | exact lod_str | exact lod_fcs | exact lod_err) rfl hM.at0 rfl ?_)) | go_values | go_skip | go_guarded | go_step | go_upon | (simp only [Int.not_lt, Int.not_le] at *; go_simp))
 refine (H4.out _).mono ?_
 rintro e u1 ⟨rfl, rfl⟩
 repeat' (first | (go_big_may; first | (refine v_get rfl rfl (by first | exact lod_int | exact lod_str | exact lod_fcs | exact lod_err) rfl hM.at0 rfl ?_)) | go_values | go_skip | go_guarded | go_step | go_upon | (simp only [Int.not_lt, Int.not_le] at *; go_simp))
 refine (H5.out _).mono ?_
 rintro e u1 ⟨rfl, rfl⟩
 repeat' (first | (go_big_may; first | (refine v_get rfl rfl (by first | exact lod_int | exact lod_str | exact lod_fcs | exact lod_err) rfl hM.at0 rfl ?_)) | go_values | go_skip | go_guarded | go_step | go_upon | (simp only [Int.not_lt, Int.not_le] at *; go_simp))
 go_ret
 exact ⟨rfl, hM.below⟩
end Go.Proofs.YtonheibhbilhhaaGreat.greet
namespace Go.Proofs.YtonheibhbilhhaaGreat.greet
open Go Go.RowKit Go.PlainAid Go.Proofs.YtonheibhbilhhaaGreat.lane Go.Proofs.YtonheibhbilhhaaGreat.desc
open Go.Proofs.YtonheibhbilhhaaGreat.setup (inS inS_iff wrT wrC good txt)
set_option linter.unusedVariables false
set_option linter.unusedSimpArgs false
set_option maxRecDepth 100000
def asks (g : Gr) : List Value := akl 0 0 0 0 ++ (akl 5 256 0 8 ++ (akl 4 g.ad 0 0 ++ (akl 5 256 0 18 ++ (akl 5 512 0 9 ++ (akl 5 512 0 g.tot ++ (akl 5 (768 + g.d.se) 0 255 ++ akl 6 g.c.va 0 0))))))
theorem bs_asks (a t s v : Int) (w : World) : (Instr.buildSlice 76 8 #[(0, ag (akl 0 0 0 0)), (1, ag (akl 5 256 0 8)), (2, ag (akl 4 a 0 0)), (3, ag (akl 5 256 0 18)), (4, ag (akl 5 512 0 9)), (5, ag (akl 5 512 0 t)), (6, ag (akl 5 s 0 255)), (7, ag (akl 6 v 0 0))]).run Tryz.prog w = .ok (.slice (some ⟨w.heap.size, 0, none⟩) 8 8) (w.alloc (bx 62 (akl 0 0 0 0 ++ (akl 5 256 0 8 ++ (akl 4 a 0 0 ++ (akl 5 256 0 18 ++ (akl 5 512 0 9 ++ (akl 5 512 0 t ++ (akl 5 s 0 255 ++ akl 6 v 0 0))))))))) := by kernel_rfl
theorem bld_ask0 (w : World) : (Instr.build 62 #[]).run Tryz.prog w = .ok (ag (akl 0 0 0 0)) w := by kernel_rfl
theorem asks_at {g : Gr} (h : okG g = true) (h8 : ¬ 8 ≤ g.st) : cut (akl 0 0 0 0 ++ (akl 5 256 0 8 ++ (akl 4 g.ad 0 0 ++ (akl 5 256 0 18 ++ (akl 5 512 0 9 ++ (akl 5 512 0 g.tot ++ (akl 5 (768 + g.d.se) 0 255 ++ akl 6 g.c.va 0 0))))))) (g.st.toNat * 4) 4 = akl (askK g) (askV g) 0 (askL g) := by
 have h7 := st_seven h h8
 clear h h8
 obtain ⟨st, tr, ad, m0, tot, d, c, sr, er⟩ := g
 simp only at h7 ⊢
 rcases h7 with h7 | h7 | h7 | h7 | h7 | h7 | h7 <;> (subst h7; rfl)
set_option maxHeartbeats 8000000 in
theorem rAskAt_any (g : Gr) (u : Value) (w : World) (h : okG g = true) : Calls Tryz.prog 17 #[grV g u] w fun e w' => e = .returned (.tuple #[.string (nxT g), .bool (decide (g.st < 8))]) ∧ Below w.heap.size w w' := by
 have hse := ((okG_iff g).1 h).2.2.2.2.1
 have hwr : IntKind.i64.wrap (768 + g.d.se) = 768 + g.d.se := by rw [IntKind.wrap_i64]; omega
 have hst := ((okG_iff g).1 h).1
 have hM := Mm.nil w
 by_cases h8 : 8 ≤ g.st
 ·have hn : nxT g = ⟨#[]⟩ := by unfold nxT; rw [if_neg (by rw [h]; decide), if_pos h8]
  rw [hn, show decide (g.st < 8) = false by simp; omega]
  clear h hse hst hn
  go_enter Tryz.func17, Tryz.ntmps17
  repeat' (first | (go_big_may; first | (refine v_box rfl rfl rfl ?_; intro u zg hN; replace hM := hM.new hN; clear hN) | (refine v_build rfl rfl bld_ask0 ?hbv ?_; (case hbv => simp [Act.eval, Act.put])) | (refine v_build rfl rfl (bld_ask2 4 g.ad) ?hbv ?_; (case hbv => simp [Act.eval, Act.put])) | (refine v_build rfl rfl (bld_ask2 6 g.c.va) ?hbv ?_; (case hbv => simp [Act.eval, Act.put])) | (refine v_build rfl rfl (bld_ask3 5 256 8) ?hbv ?_; (case hbv => simp [Act.eval, Act.put])) | (refine v_build rfl rfl (bld_ask3 5 256 18) ?hbv ?_; (case hbv => simp [Act.eval, Act.put])) | (refine v_build rfl rfl (bld_ask3 5 512 9) ?hbv ?_; (case hbv => simp [Act.eval, Act.put])) | (refine v_build rfl rfl (bld_ask3 5 512 g.tot) ?hbv ?_; (case hbv => simp [Act.eval, Act.put])) | (refine v_build rfl rfl (bld_ask3 5 (768 + g.d.se) 255) ?hbv ?_; (case hbv => simp [Act.eval, Act.put])) | (refine v_bsN rfl rfl (bs_asks g.ad g.tot (768 + g.d.se) g.c.va) ?hbv ?_; (case hbv => simp [Act.eval, Act.put]); intro u zl hN; replace hM := hM.new hN; clear hN) | (refine v_get rfl rfl lod_int rfl hM.at0 rfl ?_) | (refine v_get rfl rfl lod_int rfl hM.at1 (j := 2) rfl ?_) | (refine v_get rfl rfl lod_int rfl hM.at1 (j := 0) rfl ?_)) | go_values | go_skip | go_guarded | go_step | go_upon | (simp only [Int.not_lt, Int.not_le] at *; go_simp))
  go_ret2
  exact ⟨rfl, hM.below⟩
 ·have hn : nxT g = wrT (askK g) (askV g) 0 (askL g) := by unfold nxT; rw [if_neg (by rw [h]; decide), if_neg h8]
  rw [hn, show decide (g.st < 8) = true by simp; omega]
  have HAT : Hid (∀ w, Calls Tryz.prog 36 #[ag (akl (askK g) (askV g) 0 (askL g))] w fun e w' => e = .returned (.tuple #[.string (wrT (askK g) (askV g) 0 (askL g)), .int .i64 (wrC (askK g) (askV g) 0 (askL g))]) ∧ Below w.heap.size w w') := fun w => setup.askText_any (askK g) (askV g) 0 (askL g) w
  have HA : Hid (cut (akl 0 0 0 0 ++ (akl 5 256 0 8 ++ (akl 4 g.ad 0 0 ++ (akl 5 256 0 18 ++ (akl 5 512 0 9 ++ (akl 5 512 0 g.tot ++ (akl 5 (768 + g.d.se) 0 255 ++ akl 6 g.c.va 0 0))))))) (g.st.toNat * 4) 4 = akl (askK g) (askV g) 0 (askL g)) := asks_at h h8
  have HL : Hid (g.st.toNat * 4 + 4 ≤ (akl 0 0 0 0 ++ (akl 5 256 0 8 ++ (akl 4 g.ad 0 0 ++ (akl 5 256 0 18 ++ (akl 5 512 0 9 ++ (akl 5 512 0 g.tot ++ (akl 5 (768 + g.d.se) 0 255 ++ akl 6 g.c.va 0 0))))))).length) := by show _ ≤ 32; omega
  have h0 : 0 ≤ g.st := by omega
  have h9 : g.st < 8 := by omega
  clear h hse hst hn
  go_enter Tryz.func17, Tryz.ntmps17
  repeat' (first | (go_big_may; first | (refine v_box rfl rfl rfl ?_; intro u zg hN; replace hM := hM.new hN; clear hN) | (refine v_build rfl rfl bld_ask0 ?hbv ?_; (case hbv => simp [Act.eval, Act.put])) | (refine v_build rfl rfl (bld_ask2 4 g.ad) ?hbv ?_; (case hbv => simp [Act.eval, Act.put])) | (refine v_build rfl rfl (bld_ask2 6 g.c.va) ?hbv ?_; (case hbv => simp [Act.eval, Act.put])) | (refine v_build rfl rfl (bld_ask3 5 256 8) ?hbv ?_; (case hbv => simp [Act.eval, Act.put])) | (refine v_build rfl rfl (bld_ask3 5 256 18) ?hbv ?_; (case hbv => simp [Act.eval, Act.put])) | (refine v_build rfl rfl (bld_ask3 5 512 9) ?hbv ?_; (case hbv => simp [Act.eval, Act.put])) | (refine v_build rfl rfl (bld_ask3 5 512 g.tot) ?hbv ?_; (case hbv => simp [Act.eval, Act.put])) | (refine v_build rfl rfl (bld_ask3 5 (768 + g.d.se) 255) ?hbv ?_; (case hbv => simp [Act.eval, Act.put])) | (refine v_bsN rfl rfl (bs_asks g.ad g.tot (768 + g.d.se) g.c.va) ?hbv ?_; (case hbv => simp [Act.eval, Act.put]); intro u zl hN; replace hM := hM.new hN; clear hN) | (refine v_get rfl rfl lod_int rfl hM.at0 rfl ?_) | (refine v_get rfl rfl lod_int rfl hM.at1 (j := 2) rfl ?_) | (refine v_get rfl rfl lod_int rfl hM.at1 (j := 0) rfl ?_) | (refine v_load rfl rfl row_ask rfl hM.at0 HL.out HA.out ?_)) | go_values | go_skip | go_guarded | go_step | go_upon | (simp only [Int.not_lt, Int.not_le] at *; go_simp))
  refine (HAT.out _).mono ?_
  rintro e u1 ⟨rfl, hb⟩
  replace hM := hM.call hb
  clear hb
  repeat' (first | go_values | go_skip | go_guarded | go_step | go_upon | (simp only [Int.not_lt, Int.not_le] at *; go_simp))
  go_ret2
  exact ⟨rfl, hM.below⟩
end Go.Proofs.YtonheibhbilhhaaGreat.greet
