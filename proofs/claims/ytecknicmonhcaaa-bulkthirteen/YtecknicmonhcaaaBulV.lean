/- plugref: Move and Judged; == of moves, verdicts, statuses, wraps. -/
import Derived.Test.YtecknicmonhcaaaBulF
import Derived.Test.YtecknicmonhcaaaBulR
import Derived.Test.YtecknicmonhcaaaRegK
import Derived.Laws.StructEq
import Derived.Laws.Externs
namespace Go.Proofs.Ytecknicmonhcaaa.bulk
open Go Go.RowKit Go.PlainAid Go.Proofs.Ytecknicmonhcaaa.lane Go.Proofs.Ytecknicmonhcaaa.pipe Go.Proofs.Ytecknicmonhcaaa.strike
open Go.Proofs.Ytecknicmonhcaaa.scsi (between_any two_any)
set_option linter.unusedVariables false
set_option linter.unusedSimpArgs false
set_option maxRecDepth 100000

/-- structs that are compared -/
structure Eqs (t : TypeId) (l m : List Value) (b : Bool) : Prop where
  guard : Try.prog.eqGuardType Try.prog.depth t = false
  eq : ∀ w : World, (Op.equalIn 10000 t (ag l) (ag m)).run Try.prog w = .ok b w
def sameM (x y : Mv) : Bool := x.dir == y.dir && x.len == y.len
def sameV (x y : Vd) : Bool := x.cas == y.cas && (x.moved == y.moved && (x.res == y.res && x.code == y.code))
def sameS (x y : Sp) : Bool := x.tag == y.tag && (x.res == y.res && x.code == y.code)
def sameW (x y : Wp) : Bool := x.tag == y.tag && (x.len == y.len && (x.inn == y.inn && (x.unit == y.unit && x.cmd.toList == y.cmd.toList)))
theorem und_m : Try.prog.underlying 37 = some (.struct (Try.prog.fieldsOf 37)) := by kernel_rfl
theorem und_v : Try.prog.underlying 39 = some (.struct (Try.prog.fieldsOf 39)) := by kernel_rfl
theorem und_s : Try.prog.underlying 31 = some (.struct (Try.prog.fieldsOf 31)) := by kernel_rfl
theorem und_w : Try.prog.underlying 23 = some (.struct (Try.prog.fieldsOf 23)) := by kernel_rfl
theorem eqs_move (x y : Mv) : Eqs 37 (mvl x) (mvl y) (sameM x y) := ⟨by kernel_rfl, fun w => by
  unfold ag mvl
  rw [run_equalIn_struct w 9999 37 _ _ und_m (by kernel_rfl)]
  simp [go_sem]
  unfold sameM
  by_cases h1 : x.dir = y.dir <;> by_cases h2 : x.len = y.len <;> simp [h1, h2]⟩
theorem eqs_verdict (x y : Vd) : Eqs 39 (vdl x) (vdl y) (sameV x y) := ⟨by kernel_rfl, fun w => by
  unfold ag vdl
  rw [run_equalIn_struct w 9999 39 _ _ und_v (by kernel_rfl)]
  simp [go_sem]
  unfold sameV
  by_cases h1 : x.cas = y.cas <;> by_cases h2 : x.moved = y.moved <;> by_cases h3 : x.res = y.res <;> by_cases h4 : x.code = y.code <;> simp [h1, h2, h3, h4]⟩
theorem eqs_status (x y : Sp) : Eqs 31 (spl x) (spl y) (sameS x y) := ⟨by kernel_rfl, fun w => by
  unfold ag spl
  rw [run_equalIn_struct w 9999 31 _ _ und_s (by kernel_rfl)]
  simp [go_sem]
  unfold sameS
  by_cases h1 : x.tag = y.tag <;> by_cases h2 : x.res = y.res <;> by_cases h3 : x.code = y.code <;> simp [h1, h2, h3]⟩
theorem eqs_wrap (x y : Wp) : Eqs 23 (wpl x) (wpl y) (sameW x y) := ⟨by kernel_rfl, fun w => by
  unfold ag wpl
  rw [run_equalIn_struct w 9999 23 _ _ und_w (by kernel_rfl)]
  simp [go_sem]
  unfold sameW
  by_cases h1 : x.tag = y.tag <;> by_cases h2 : x.len = y.len <;> by_cases h3 : x.inn = y.inn <;> by_cases h4 : x.unit = y.unit <;> by_cases h5 : x.cmd.toList = y.cmd.toList <;> simp [h1, h2, h3, h4, h5]⟩
theorem ex_eqs {o : Oper} {a : Act} {W : World} {t ty : TypeId} {x y : Operand} (ho : o.op = .binOp .eql t x y ty) {l m : List Value} {b : Bool} (hx : a.eval x = ag l) (hy : a.eval y = ag m) (he : Eqs t l m b) :
    (execOp a.eval o).run Try.prog W = .ok (.value (.bool b)) W := by
  have h := he.eq W
  unfold execOp
  unfold ag at *
  simp only [ho, hx, hy, Sem.run_bind, run_eqGuard_agg W _ _ _ _ _ _ he.guard, Result.andThen_ok, run_eql_struct, h, Sem.run_pure]
theorem ex_neqst {o : Oper} {a : Act} {W : World} {t ty : TypeId} {x y : Operand} (ho : o.op = .binOp .neq t x y ty) {l m : List Value} {b : Bool} (hx : a.eval x = ag l) (hy : a.eval y = ag m) (he : Eqs t l m b) :
    (execOp a.eval o).run Try.prog W = .ok (.value (.bool (!b))) W := by
  have h := he.eq W
  unfold execOp
  unfold ag at *
  simp only [ho, hx, hy, Sem.run_bind, run_eqGuard_agg W _ _ _ _ _ _ he.guard, Result.andThen_ok, run_neq_struct, h, Sem.run_pure]
section
variable {ops : Array Oper} {rest : List Oper} {o : Oper} {a : Act} {w : World} {Q : Exit → Act → World → Prop} {t ty : TypeId} {x y : Operand} {l m : List Value} {b : Bool}
theorem v_eqs (hgd : Region.wanted o (yielded ops a.tmps) = true) (ho : o.op = .binOp .eql t x y ty) (he : Eqs t l m b) (hx : a.eval x = ag l) (hy : a.eval y = ag m)
    (h : wpList Try.prog ops Q rest (a.put o.dst (.bool b)) w) : wpList Try.prog ops Q (o :: rest) a w := by
  refine wpList_step fun K hK' => ?_
  rw [if_pos hgd]
  unfold Oper.wp
  rw [ex_eqs ho hx hy he]
  exact hK' _ _ h
theorem v_neqst (hgd : Region.wanted o (yielded ops a.tmps) = true) (ho : o.op = .binOp .neq t x y ty) (he : Eqs t l m b) (hx : a.eval x = ag l) (hy : a.eval y = ag m)
    (h : wpList Try.prog ops Q rest (a.put o.dst (.bool (!b))) w) : wpList Try.prog ops Q (o :: rest) a w := by
  refine wpList_step fun K hK' => ?_
  rw [if_pos hgd]
  unfold Oper.wp
  rw [ex_neqst ho hx hy he]
  exact hK' _ _ h
end
theorem eqs_v (x : Vd) : Eqs 39 (vdl x) (vdl x) true := by have := eqs_verdict x x; rwa [show sameV x x = true by simp [sameV]] at this
theorem eqs_s (x : Sp) : Eqs 31 (spl x) (spl x) true := by have := eqs_status x x; rwa [show sameS x x = true by simp [sameS]] at this
theorem eqs_w (x : Wp) : Eqs 23 (wpl x) (wpl x) true := by have := eqs_wrap x x; rwa [show sameW x x = true by simp [sameW]] at this
theorem mv_split (m : Mv) : mvB m = (sameM m mv0 || (decide (1 ≤ m.dir) && decide (m.dir ≤ 2)) && (decide (1 ≤ m.len) && decide (m.len ≤ 4294967295))) := by
  have e : (decide (m.dir = 1) || decide (m.dir = 2)) = (decide (1 ≤ m.dir) && decide (m.dir ≤ 2)) := by
    rw [Bool.eq_iff_iff]; simp; omega
  unfold mvB sameM
  rw [e]
  rfl
set_option maxHeartbeats 4000000 in
theorem move_any (m : Mv) (w : World) : Calls Try.prog 37 #[ag (mvl m)] w fun e w' => e = .returned (.bool (mvB m)) ∧ Below w.heap.size w w' := by
  have HB1 : Hid (∀ u, Calls Try.prog 28 #[.int .i64 m.dir, .int .i64 1, .int .i64 2] u fun e w' => e = .returned (.bool (decide (1 ≤ m.dir) && decide (m.dir ≤ 2))) ∧ Below u.heap.size u w') := fun u => (between_any _ _ _ u).mono fun e w' h => ⟨h.1, by rw [← h.2]; exact Below.refl _ _⟩
  have HB2 : Hid (∀ u, Calls Try.prog 28 #[.int .i64 m.len, .int .i64 1, .int .i64 4294967295] u fun e w' => e = .returned (.bool (decide (1 ≤ m.len) && decide (m.len ≤ 4294967295))) ∧ Below u.heap.size u w') := fun u => (between_any _ _ _ u).mono fun e w' h => ⟨h.1, by rw [← h.2]; exact Below.refl _ _⟩
  have HT : Hid (∀ u, Calls Try.prog 47 #[.int .i64 32] u fun e w' => e = .returned (.int .i64 4294967296) ∧ Below u.heap.size u w') := fun u => (two_any 32 (by omega) u).mono fun e w' h => ⟨h.1, by rw [← h.2]; exact Below.refl _ _⟩
  have HE := eqs_move m mv0
  have ew : Hid (IntKind.i64.wrap 4294967295 = 4294967295) := by show _ = _; rw [IntKind.wrap_i64]; decide
  rw [mv_split m]
  have hM := Mm.nil w
  generalize (decide (1 ≤ m.dir) && decide (m.dir ≤ 2)) = p at *
  generalize (decide (1 ≤ m.len) && decide (m.len ≤ 4294967295)) = y at *
  generalize sameM m mv0 = z at *
  cases z
  case true =>
    go_enter Try.func37, Try.ntmps37
    repeat' (first | (go_big_may; first | (refine v_box rfl rfl rfl ?_; intro u zm hN; replace hM := hM.new hN; clear hN)) | go_values | go_skip | go_guarded | go_step | go_upon | (simp only [Int.not_lt, Int.not_le] at *; go_simp))
    refine reg.wp_abs (fun a0 => a0.tmps.size = 18 ∧ (∀ h, a0.tmps[1]'h = .pointer (some ⟨zm, 0, none⟩))) ⟨rfl, fun _ => rfl⟩ ?_
    rintro a0 ⟨hsz, s1⟩ ha0
    refine reg.wp_region_E (S := fun W => Ls W [(zm, 37, (mvl m))]) (E := fun _ => false) (by kernel_rfl) ?_
    replace hM := hM.drew
    refine reg.any_q (fun _ _ _ _ _ h => h) ?_
    intro hQP
    refine reg.e_take (i := 0) (ag ((mvl m))) rfl (by kernel_rfl) (by kernel_rfl) (by kernel_rfl) (by kernel_rfl) (fun c a w h => hQP c _ _ w rfl h) (reg.wanted_none rfl) (hM.ls (by simp)) (fun W hW => ex_load rfl row_move (by simp [go_sem, Act.put, hsz, s1]) hW.at0 (Nat.le_refl 2) (cut_all rfl)) ?_
    refine reg.e_take (i := 1) (ag (mvl mv0)) rfl (by kernel_rfl) (by kernel_rfl) (by kernel_rfl) (by kernel_rfl) (fun c a w h => hQP c _ _ w rfl h) (reg.wanted_none rfl) (hM.ls (by simp)) (fun W hW => by simp [execOp, go_sem, Act.put, hsz, s1, mvl, mv0, ag]) ?_
    refine reg.e_take (i := 2) (.bool true) rfl (by kernel_rfl) (by kernel_rfl) (by kernel_rfl) (by kernel_rfl) (fun c a w h => hQP c _ _ w rfl h) (reg.wanted_none rfl) (hM.ls (by simp)) (fun W hW => ex_eqs rfl (by simp [go_sem, Act.put, hsz, s1]) (by simp [go_sem, Act.put, hsz, s1]) HE) ?_
    refine reg.any_list #[true, true, true, false, false, false, false, false, false, false, false, false, false, false, false, false] (by kernel_rfl) ?_
    refine reg.any_abs (fun q => q.tmps.size = 18 ∧ (∀ h, q.tmps[1]'h = .pointer (some ⟨zm, 0, none⟩)) ∧ (∀ h, q.tmps[5]'h = .bool true)) ⟨by simp [Act.put, hsz, s1], reg.at_of (by simp [Act.put, hsz, s1]), reg.at_of (by simp [Act.put, hsz, s1])⟩ ?_
    clear hsz s1
    rintro q1 ⟨q1z, q1s1, q1s5⟩ hq1
    have HQ1 : Hid (q1 = _) := hq1
    clear hq1
    refine reg.e_take (i := 3) (.bool true) rfl (by kernel_rfl) (by kernel_rfl) (by kernel_rfl) (by kernel_rfl) (fun c a w h => hQP c _ _ w rfl h) (reg.wanted_none rfl) (hM.ls (by simp)) (fun W hW => by simp [execOp, go_sem, Act.put, q1z, q1s1, q1s5]) ?_
    refine reg.e_pass (i := 4) rfl (by kernel_rfl) (by kernel_rfl) (by kernel_rfl) (by kernel_rfl) (fun c a w h => hQP c _ _ w rfl h) (reg.unwanted_of 3 false 6 rfl (by kernel_rfl) (by simp [Act.put, q1z, q1s1, q1s5])) (hM.ls (by simp)) ?_
    refine reg.e_pass (i := 5) rfl (by kernel_rfl) (by kernel_rfl) (by kernel_rfl) (by kernel_rfl) (fun c a w h => hQP c _ _ w rfl h) (reg.unwanted_of 3 false 6 rfl (by kernel_rfl) (by simp [Act.put, q1z, q1s1, q1s5])) (hM.ls (by simp)) ?_
    refine reg.any_list #[true, true, true, true, true, true, false, false, false, false, false, false, false, false, false, false] (by kernel_rfl) ?_
    refine reg.any_abs (fun q => q.tmps.size = 18 ∧ (∀ h, q.tmps[1]'h = .pointer (some ⟨zm, 0, none⟩)) ∧ (∀ h, q.tmps[6]'h = .bool true) ∧ (∀ h, q.tmps[8]'h = undef)) ⟨by simp [Act.put, q1z, q1s1, q1s5], reg.at_of (by simp [Act.put, q1z, q1s1, q1s5]), reg.at_of (by simp [Act.put, q1z, q1s1, q1s5]), reg.at_of (by simp [Act.put, q1z, q1s1, q1s5])⟩ ?_
    clear q1z q1s1 q1s5
    rintro q2 ⟨q2z, q2s1, q2s6, q2s8⟩ hq2
    have HQ2 : Hid (q2 = _) := hq2
    clear hq2
    refine reg.e_pass (i := 6) rfl (by kernel_rfl) (by kernel_rfl) (by kernel_rfl) (by kernel_rfl) (fun c a w h => hQP c _ _ w rfl h) (reg.unwanted_of 3 false 6 rfl (by kernel_rfl) (by simp [Act.put, q2z, q2s1, q2s6, q2s8])) (hM.ls (by simp)) ?_
    refine reg.e_pass (i := 7) rfl (by kernel_rfl) (by kernel_rfl) (by kernel_rfl) (by kernel_rfl) (fun c a w h => hQP c _ _ w rfl h) (reg.unwanted_of 3 false 6 rfl (by kernel_rfl) (by simp [Act.put, q2z, q2s1, q2s6, q2s8])) (hM.ls (by simp)) ?_
    refine reg.e_pass (i := 8) rfl (by kernel_rfl) (by kernel_rfl) (by kernel_rfl) (by kernel_rfl) (fun c a w h => hQP c _ _ w rfl h) (reg.unwanted_und 7 true 10 rfl (by kernel_rfl) (by simp [Act.put, q2z, q2s1, q2s6, q2s8])) (hM.ls (by simp)) ?_
    refine reg.any_list #[true, true, true, true, true, true, true, true, true, false, false, false, false, false, false, false] (by kernel_rfl) ?_
    refine reg.any_abs (fun q => q.tmps.size = 18 ∧ (∀ h, q.tmps[6]'h = .bool true) ∧ (∀ h, q.tmps[10]'h = undef) ∧ (∀ h, q.tmps[11]'h = undef)) ⟨by simp [Act.put, q2z, q2s1, q2s6, q2s8], reg.at_of (by simp [Act.put, q2z, q2s1, q2s6, q2s8]), reg.at_of (by simp [Act.put, q2z, q2s1, q2s6, q2s8]), reg.at_of (by simp [Act.put, q2z, q2s1, q2s6, q2s8])⟩ ?_
    clear q2z q2s1 q2s6 q2s8
    rintro q3 ⟨q3z, q3s6, q3s10, q3s11⟩ hq3
    have HQ3 : Hid (q3 = _) := hq3
    clear hq3
    refine reg.e_pass (i := 9) rfl (by kernel_rfl) (by kernel_rfl) (by kernel_rfl) (by kernel_rfl) (fun c a w h => hQP c _ _ w rfl h) (reg.unwanted_und 7 true 10 rfl (by kernel_rfl) (by simp [Act.put, q3z, q3s6, q3s10, q3s11])) (hM.ls (by simp)) ?_
    refine reg.e_pass (i := 10) rfl (by kernel_rfl) (by kernel_rfl) (by kernel_rfl) (by kernel_rfl) (fun c a w h => hQP c _ _ w rfl h) (reg.unwanted_und 7 true 10 rfl (by kernel_rfl) (by simp [Act.put, q3z, q3s6, q3s10, q3s11])) (hM.ls (by simp)) ?_
    refine reg.e_pass (i := 11) rfl (by kernel_rfl) (by kernel_rfl) (by kernel_rfl) (by kernel_rfl) (fun c a w h => hQP c _ _ w rfl h) (reg.unwanted_und 7 true 10 rfl (by kernel_rfl) (by simp [Act.put, q3z, q3s6, q3s10, q3s11])) (hM.ls (by simp)) ?_
    refine reg.any_list #[true, true, true, true, true, true, true, true, true, true, true, true, false, false, false, false] (by kernel_rfl) ?_
    refine reg.any_abs (fun q => q.tmps.size = 18 ∧ (∀ h, q.tmps[6]'h = .bool true) ∧ (∀ h, q.tmps[10]'h = undef) ∧ (∀ h, q.tmps[12]'h = undef) ∧ (∀ h, q.tmps[14]'h = undef)) ⟨by simp [Act.put, q3z, q3s6, q3s10, q3s11], reg.at_of (by simp [Act.put, q3z, q3s6, q3s10, q3s11]), reg.at_of (by simp [Act.put, q3z, q3s6, q3s10, q3s11]), reg.at_of (by simp [Act.put, q3z, q3s6, q3s10, q3s11]), reg.at_of (by simp [Act.put, q3z, q3s6, q3s10, q3s11])⟩ ?_
    clear q3z q3s6 q3s10 q3s11
    rintro q4 ⟨q4z, q4s6, q4s10, q4s12, q4s14⟩ hq4
    have HQ4 : Hid (q4 = _) := hq4
    clear hq4
    refine reg.e_pass (i := 12) rfl (by kernel_rfl) (by kernel_rfl) (by kernel_rfl) (by kernel_rfl) (fun c a w h => hQP c _ _ w rfl h) (reg.unwanted_und 7 true 10 rfl (by kernel_rfl) (by simp [Act.put, q4z, q4s6, q4s10, q4s12, q4s14])) (hM.ls (by simp)) ?_
    refine reg.e_pass (i := 13) rfl (by kernel_rfl) (by kernel_rfl) (by kernel_rfl) (by kernel_rfl) (fun c a w h => hQP c _ _ w rfl h) (reg.unwanted_of 3 false 6 rfl (by kernel_rfl) (by simp [Act.put, q4z, q4s6, q4s10, q4s12, q4s14])) (hM.ls (by simp)) ?_
    refine reg.e_take (i := 14) (.bool true) rfl (by kernel_rfl) (by kernel_rfl) (by kernel_rfl) (by kernel_rfl) (fun c a w h => hQP c _ _ w rfl h) (reg.wanted_none rfl) (hM.ls (by simp)) (fun W hW => by simp [execOp, go_sem, Act.put, q4z, q4s6, q4s10, q4s12, q4s14]) ?_
    refine reg.any_list #[true, true, true, true, true, true, true, true, true, true, true, true, true, true, true, false] (by kernel_rfl) ?_
    refine reg.any_abs (fun q => q.tmps.size = 18 ∧ (∀ h, q.tmps[17]'h = .bool true)) ⟨by simp [Act.put, q4z, q4s6, q4s10, q4s12, q4s14], reg.at_of (by simp [Act.put, q4z, q4s6, q4s10, q4s12, q4s14])⟩ ?_
    clear q4z q4s6 q4s10 q4s12 q4s14
    rintro q5 ⟨q5z, q5s17⟩ hq5
    have HQ5 : Hid (q5 = _) := hq5
    clear hq5
    refine reg.e_take (i := 15) (.bool true) rfl (by kernel_rfl) (by kernel_rfl) (by kernel_rfl) (by kernel_rfl) (fun c a w h => hQP c _ _ w rfl h) (reg.wanted_none rfl) (hM.ls (by simp)) (fun W hW => by simp [execOp, go_sem, Act.put, q5z, q5s17]) ?_
    clear hQP
    refine reg.e_done (by kernel_rfl) ?_ _
    clear q5z q5s17
    have hq5 := HQ5.out
    clear HQ5
    subst hq5
    have hq4 := HQ4.out
    clear HQ4
    subst hq4
    have hq3 := HQ3.out
    clear HQ3
    subst hq3
    have hq2 := HQ2.out
    clear HQ2
    subst hq2
    have hq1 := HQ1.out
    clear HQ1
    subst hq1
    subst ha0
    go_simp
    repeat' (first | go_values | go_skip | go_guarded | go_step | go_upon | (simp only [Int.not_lt, Int.not_le] at *; go_simp))
    go_ret
    exact ⟨rfl, hM.below⟩
  cases p
  case false =>
    go_enter Try.func37, Try.ntmps37
    repeat' (first | (go_big_may; first | (refine v_box rfl rfl rfl ?_; intro u zm hN; replace hM := hM.new hN; clear hN)) | go_values | go_skip | go_guarded | go_step | go_upon | (simp only [Int.not_lt, Int.not_le] at *; go_simp))
    refine reg.wp_abs (fun a0 => a0.tmps.size = 18 ∧ (∀ h, a0.tmps[1]'h = .pointer (some ⟨zm, 0, none⟩))) ⟨rfl, fun _ => rfl⟩ ?_
    rintro a0 ⟨hsz, s1⟩ ha0
    refine reg.wp_region_E (S := fun W => Ls W [(zm, 37, (mvl m))]) (E := fun _ => false) (by kernel_rfl) ?_
    replace hM := hM.drew
    refine reg.any_q (fun _ _ _ _ _ h => h) ?_
    intro hQP
    refine reg.e_take (i := 0) (ag ((mvl m))) rfl (by kernel_rfl) (by kernel_rfl) (by kernel_rfl) (by kernel_rfl) (fun c a w h => hQP c _ _ w rfl h) (reg.wanted_none rfl) (hM.ls (by simp)) (fun W hW => ex_load rfl row_move (by simp [go_sem, Act.put, hsz, s1]) hW.at0 (Nat.le_refl 2) (cut_all rfl)) ?_
    refine reg.e_take (i := 1) (ag (mvl mv0)) rfl (by kernel_rfl) (by kernel_rfl) (by kernel_rfl) (by kernel_rfl) (fun c a w h => hQP c _ _ w rfl h) (reg.wanted_none rfl) (hM.ls (by simp)) (fun W hW => by simp [execOp, go_sem, Act.put, hsz, s1, mvl, mv0, ag]) ?_
    refine reg.e_take (i := 2) (.bool false) rfl (by kernel_rfl) (by kernel_rfl) (by kernel_rfl) (by kernel_rfl) (fun c a w h => hQP c _ _ w rfl h) (reg.wanted_none rfl) (hM.ls (by simp)) (fun W hW => ex_eqs rfl (by simp [go_sem, Act.put, hsz, s1]) (by simp [go_sem, Act.put, hsz, s1]) HE) ?_
    refine reg.any_list #[true, true, true, false, false, false, false, false, false, false, false, false, false, false, false, false] (by kernel_rfl) ?_
    refine reg.any_abs (fun q => q.tmps.size = 18 ∧ (∀ h, q.tmps[1]'h = .pointer (some ⟨zm, 0, none⟩)) ∧ (∀ h, q.tmps[5]'h = .bool false)) ⟨by simp [Act.put, hsz, s1], reg.at_of (by simp [Act.put, hsz, s1]), reg.at_of (by simp [Act.put, hsz, s1])⟩ ?_
    clear hsz s1
    rintro q1 ⟨q1z, q1s1, q1s5⟩ hq1
    have HQ1 : Hid (q1 = _) := hq1
    clear hq1
    refine reg.e_take (i := 3) (.bool false) rfl (by kernel_rfl) (by kernel_rfl) (by kernel_rfl) (by kernel_rfl) (fun c a w h => hQP c _ _ w rfl h) (reg.wanted_none rfl) (hM.ls (by simp)) (fun W hW => by simp [execOp, go_sem, Act.put, q1z, q1s1, q1s5]) ?_
    refine reg.e_take (i := 4) (.pointer (some ⟨zm, 0, none⟩)) rfl (by kernel_rfl) (by kernel_rfl) (by kernel_rfl) (by kernel_rfl) (fun c a w h => hQP c _ _ w rfl h) (reg.wanted_of 3 false 6 rfl (by kernel_rfl) (by simp [Act.put, q1z, q1s1, q1s5])) (hM.ls (by simp)) (fun W hW => by simp [execOp, go_sem, Act.put, q1z, q1s1, q1s5]) ?_
    refine reg.e_take (i := 5) (.int .i64 m.dir) rfl (by kernel_rfl) (by kernel_rfl) (by kernel_rfl) (by kernel_rfl) (fun c a w h => hQP c _ _ w rfl h) (reg.wanted_of 3 false 6 rfl (by kernel_rfl) (by simp [Act.put, q1z, q1s1, q1s5])) (hM.ls (by simp)) (fun W hW => ex_get rfl (by simp [go_sem, Act.put, q1z, q1s1, q1s5]) hW.at0 (show (mvl m)[0]? = some _ from rfl)) ?_
    refine reg.any_list #[true, true, true, true, true, true, false, false, false, false, false, false, false, false, false, false] (by kernel_rfl) ?_
    refine reg.any_abs (fun q => q.tmps.size = 18 ∧ (∀ h, q.tmps[1]'h = .pointer (some ⟨zm, 0, none⟩)) ∧ (∀ h, q.tmps[6]'h = .bool false) ∧ (∀ h, q.tmps[8]'h = .int .i64 m.dir)) ⟨by simp [Act.put, q1z, q1s1, q1s5], reg.at_of (by simp [Act.put, q1z, q1s1, q1s5]), reg.at_of (by simp [Act.put, q1z, q1s1, q1s5]), reg.at_of (by simp [Act.put, q1z, q1s1, q1s5])⟩ ?_
    clear q1z q1s1 q1s5
    rintro q2 ⟨q2z, q2s1, q2s6, q2s8⟩ hq2
    have HQ2 : Hid (q2 = _) := hq2
    clear hq2
    refine reg.e_one 6 (by kernel_rfl) rfl ?_
    refine reg.r_call (i := 6) 28 #[.int .i64 m.dir, .int .i64 1, .int .i64 2] rfl (reg.wanted_of 3 false 6 rfl (by kernel_rfl) (by simp [Act.put, q2z, q2s1, q2s6, q2s8])) (by simp [execOp, go_sem, Act.put, q2z, q2s1, q2s6, q2s8]) ((HB1.out _).mono ?_)
    rintro re ru3 ⟨rfl, rhv⟩
    replace hM := hM.call rhv
    clear rhv
    refine ⟨_, rfl, hM.ls (by simp), ?_⟩
    refine reg.e_take (i := 7) (.bool false) rfl (by kernel_rfl) (by kernel_rfl) (by kernel_rfl) (by kernel_rfl) (fun c a w h => hQP c _ _ w rfl h) (reg.wanted_of 3 false 6 rfl (by kernel_rfl) (by simp [Act.put, q2z, q2s1, q2s6, q2s8])) (hM.ls (by simp)) (fun W hW => by simp [execOp, go_sem, Act.put, q2z, q2s1, q2s6, q2s8]) ?_
    refine reg.e_pass (i := 8) rfl (by kernel_rfl) (by kernel_rfl) (by kernel_rfl) (by kernel_rfl) (fun c a w h => hQP c _ _ w rfl h) (reg.unwanted_of 7 true 10 rfl (by kernel_rfl) (by simp [Act.put, q2z, q2s1, q2s6, q2s8])) (hM.ls (by simp)) ?_
    refine reg.e_pass (i := 9) rfl (by kernel_rfl) (by kernel_rfl) (by kernel_rfl) (by kernel_rfl) (fun c a w h => hQP c _ _ w rfl h) (reg.unwanted_of 7 true 10 rfl (by kernel_rfl) (by simp [Act.put, q2z, q2s1, q2s6, q2s8])) (hM.ls (by simp)) ?_
    refine reg.any_list #[true, true, true, true, true, true, true, true, true, true, false, false, false, false, false, false] (by kernel_rfl) ?_
    refine reg.any_abs (fun q => q.tmps.size = 18 ∧ (∀ h, q.tmps[6]'h = .bool false) ∧ (∀ h, q.tmps[10]'h = .bool false) ∧ (∀ h, q.tmps[12]'h = undef)) ⟨by simp [Act.put, q2z, q2s1, q2s6, q2s8], reg.at_of (by simp [Act.put, q2z, q2s1, q2s6, q2s8]), reg.at_of (by simp [Act.put, q2z, q2s1, q2s6, q2s8]), reg.at_of (by simp [Act.put, q2z, q2s1, q2s6, q2s8])⟩ ?_
    clear q2z q2s1 q2s6 q2s8
    rintro q4 ⟨q4z, q4s6, q4s10, q4s12⟩ hq4
    have HQ4 : Hid (q4 = _) := hq4
    clear hq4
    refine reg.e_pass (i := 10) rfl (by kernel_rfl) (by kernel_rfl) (by kernel_rfl) (by kernel_rfl) (fun c a w h => hQP c _ _ w rfl h) (reg.unwanted_of 7 true 10 rfl (by kernel_rfl) (by simp [Act.put, q4z, q4s6, q4s10, q4s12])) (hM.ls (by simp)) ?_
    refine reg.e_pass (i := 11) rfl (by kernel_rfl) (by kernel_rfl) (by kernel_rfl) (by kernel_rfl) (fun c a w h => hQP c _ _ w rfl h) (reg.unwanted_of 7 true 10 rfl (by kernel_rfl) (by simp [Act.put, q4z, q4s6, q4s10, q4s12])) (hM.ls (by simp)) ?_
    refine reg.e_pass (i := 12) rfl (by kernel_rfl) (by kernel_rfl) (by kernel_rfl) (by kernel_rfl) (fun c a w h => hQP c _ _ w rfl h) (reg.unwanted_of 7 true 10 rfl (by kernel_rfl) (by simp [Act.put, q4z, q4s6, q4s10, q4s12])) (hM.ls (by simp)) ?_
    refine reg.any_list #[true, true, true, true, true, true, true, true, true, true, true, true, true, false, false, false] (by kernel_rfl) ?_
    refine reg.any_abs (fun q => q.tmps.size = 18 ∧ (∀ h, q.tmps[6]'h = .bool false) ∧ (∀ h, q.tmps[10]'h = .bool false) ∧ (∀ h, q.tmps[15]'h = undef)) ⟨by simp [Act.put, q4z, q4s6, q4s10, q4s12], reg.at_of (by simp [Act.put, q4z, q4s6, q4s10, q4s12]), reg.at_of (by simp [Act.put, q4z, q4s6, q4s10, q4s12]), reg.at_of (by simp [Act.put, q4z, q4s6, q4s10, q4s12])⟩ ?_
    clear q4z q4s6 q4s10 q4s12
    rintro q5 ⟨q5z, q5s6, q5s10, q5s15⟩ hq5
    have HQ5 : Hid (q5 = _) := hq5
    clear hq5
    refine reg.e_take (i := 13) (.bool false) rfl (by kernel_rfl) (by kernel_rfl) (by kernel_rfl) (by kernel_rfl) (fun c a w h => hQP c _ _ w rfl h) (reg.wanted_of 3 false 6 rfl (by kernel_rfl) (by simp [Act.put, q5z, q5s6, q5s10, q5s15])) (hM.ls (by simp)) (fun W hW => by simp [execOp, go_sem, Act.put, q5z, q5s6, q5s10, q5s15]) ?_
    refine reg.e_take (i := 14) (.bool false) rfl (by kernel_rfl) (by kernel_rfl) (by kernel_rfl) (by kernel_rfl) (fun c a w h => hQP c _ _ w rfl h) (reg.wanted_none rfl) (hM.ls (by simp)) (fun W hW => by simp [execOp, go_sem, Act.put, q5z, q5s6, q5s10, q5s15]) ?_
    refine reg.e_take (i := 15) (.bool false) rfl (by kernel_rfl) (by kernel_rfl) (by kernel_rfl) (by kernel_rfl) (fun c a w h => hQP c _ _ w rfl h) (reg.wanted_none rfl) (hM.ls (by simp)) (fun W hW => by simp [execOp, go_sem, Act.put, q5z, q5s6, q5s10, q5s15]) ?_
    clear hQP
    refine reg.e_done (by kernel_rfl) ?_ _
    clear q5z q5s6 q5s10 q5s15
    have hq5 := HQ5.out
    clear HQ5
    subst hq5
    have hq4 := HQ4.out
    clear HQ4
    subst hq4
    have hq2 := HQ2.out
    clear HQ2
    subst hq2
    have hq1 := HQ1.out
    clear HQ1
    subst hq1
    subst ha0
    go_simp
    repeat' (first | go_values | go_skip | go_guarded | go_step | go_upon | (simp only [Int.not_lt, Int.not_le] at *; go_simp))
    go_ret
    exact ⟨rfl, hM.below⟩
  go_enter Try.func37, Try.ntmps37
  repeat' (first | (go_big_may; first | (refine v_box rfl rfl rfl ?_; intro u zm hN; replace hM := hM.new hN; clear hN)) | go_values | go_skip | go_guarded | go_step | go_upon | (simp only [Int.not_lt, Int.not_le] at *; go_simp))
  refine reg.wp_abs (fun a0 => a0.tmps.size = 18 ∧ (∀ h, a0.tmps[1]'h = .pointer (some ⟨zm, 0, none⟩))) ⟨rfl, fun _ => rfl⟩ ?_
  rintro a0 ⟨hsz, s1⟩ ha0
  refine reg.wp_region_E (S := fun W => Ls W [(zm, 37, (mvl m))]) (E := fun _ => false) (by kernel_rfl) ?_
  replace hM := hM.drew
  refine reg.any_q (fun _ _ _ _ _ h => h) ?_
  intro hQP
  refine reg.e_take (i := 0) (ag ((mvl m))) rfl (by kernel_rfl) (by kernel_rfl) (by kernel_rfl) (by kernel_rfl) (fun c a w h => hQP c _ _ w rfl h) (reg.wanted_none rfl) (hM.ls (by simp)) (fun W hW => ex_load rfl row_move (by simp [go_sem, Act.put, hsz, s1]) hW.at0 (Nat.le_refl 2) (cut_all rfl)) ?_
  refine reg.e_take (i := 1) (ag (mvl mv0)) rfl (by kernel_rfl) (by kernel_rfl) (by kernel_rfl) (by kernel_rfl) (fun c a w h => hQP c _ _ w rfl h) (reg.wanted_none rfl) (hM.ls (by simp)) (fun W hW => by simp [execOp, go_sem, Act.put, hsz, s1, mvl, mv0, ag]) ?_
  refine reg.e_take (i := 2) (.bool false) rfl (by kernel_rfl) (by kernel_rfl) (by kernel_rfl) (by kernel_rfl) (fun c a w h => hQP c _ _ w rfl h) (reg.wanted_none rfl) (hM.ls (by simp)) (fun W hW => ex_eqs rfl (by simp [go_sem, Act.put, hsz, s1]) (by simp [go_sem, Act.put, hsz, s1]) HE) ?_
  refine reg.any_list #[true, true, true, false, false, false, false, false, false, false, false, false, false, false, false, false] (by kernel_rfl) ?_
  refine reg.any_abs (fun q => q.tmps.size = 18 ∧ (∀ h, q.tmps[1]'h = .pointer (some ⟨zm, 0, none⟩)) ∧ (∀ h, q.tmps[5]'h = .bool false)) ⟨by simp [Act.put, hsz, s1], reg.at_of (by simp [Act.put, hsz, s1]), reg.at_of (by simp [Act.put, hsz, s1])⟩ ?_
  clear hsz s1
  rintro q1 ⟨q1z, q1s1, q1s5⟩ hq1
  have HQ1 : Hid (q1 = _) := hq1
  clear hq1
  refine reg.e_take (i := 3) (.bool false) rfl (by kernel_rfl) (by kernel_rfl) (by kernel_rfl) (by kernel_rfl) (fun c a w h => hQP c _ _ w rfl h) (reg.wanted_none rfl) (hM.ls (by simp)) (fun W hW => by simp [execOp, go_sem, Act.put, q1z, q1s1, q1s5]) ?_
  refine reg.e_take (i := 4) (.pointer (some ⟨zm, 0, none⟩)) rfl (by kernel_rfl) (by kernel_rfl) (by kernel_rfl) (by kernel_rfl) (fun c a w h => hQP c _ _ w rfl h) (reg.wanted_of 3 false 6 rfl (by kernel_rfl) (by simp [Act.put, q1z, q1s1, q1s5])) (hM.ls (by simp)) (fun W hW => by simp [execOp, go_sem, Act.put, q1z, q1s1, q1s5]) ?_
  refine reg.e_take (i := 5) (.int .i64 m.dir) rfl (by kernel_rfl) (by kernel_rfl) (by kernel_rfl) (by kernel_rfl) (fun c a w h => hQP c _ _ w rfl h) (reg.wanted_of 3 false 6 rfl (by kernel_rfl) (by simp [Act.put, q1z, q1s1, q1s5])) (hM.ls (by simp)) (fun W hW => ex_get rfl (by simp [go_sem, Act.put, q1z, q1s1, q1s5]) hW.at0 (show (mvl m)[0]? = some _ from rfl)) ?_
  refine reg.any_list #[true, true, true, true, true, true, false, false, false, false, false, false, false, false, false, false] (by kernel_rfl) ?_
  refine reg.any_abs (fun q => q.tmps.size = 18 ∧ (∀ h, q.tmps[1]'h = .pointer (some ⟨zm, 0, none⟩)) ∧ (∀ h, q.tmps[6]'h = .bool false) ∧ (∀ h, q.tmps[8]'h = .int .i64 m.dir)) ⟨by simp [Act.put, q1z, q1s1, q1s5], reg.at_of (by simp [Act.put, q1z, q1s1, q1s5]), reg.at_of (by simp [Act.put, q1z, q1s1, q1s5]), reg.at_of (by simp [Act.put, q1z, q1s1, q1s5])⟩ ?_
  clear q1z q1s1 q1s5
  rintro q2 ⟨q2z, q2s1, q2s6, q2s8⟩ hq2
  have HQ2 : Hid (q2 = _) := hq2
  clear hq2
  refine reg.e_one 6 (by kernel_rfl) rfl ?_
  refine reg.r_call (i := 6) 28 #[.int .i64 m.dir, .int .i64 1, .int .i64 2] rfl (reg.wanted_of 3 false 6 rfl (by kernel_rfl) (by simp [Act.put, q2z, q2s1, q2s6, q2s8])) (by simp [execOp, go_sem, Act.put, q2z, q2s1, q2s6, q2s8]) ((HB1.out _).mono ?_)
  rintro re ru3 ⟨rfl, rhv⟩
  replace hM := hM.call rhv
  clear rhv
  refine ⟨_, rfl, hM.ls (by simp), ?_⟩
  refine reg.e_take (i := 7) (.bool true) rfl (by kernel_rfl) (by kernel_rfl) (by kernel_rfl) (by kernel_rfl) (fun c a w h => hQP c _ _ w rfl h) (reg.wanted_of 3 false 6 rfl (by kernel_rfl) (by simp [Act.put, q2z, q2s1, q2s6, q2s8])) (hM.ls (by simp)) (fun W hW => by simp [execOp, go_sem, Act.put, q2z, q2s1, q2s6, q2s8]) ?_
  refine reg.e_take (i := 8) (.pointer (some ⟨zm, 1, none⟩)) rfl (by kernel_rfl) (by kernel_rfl) (by kernel_rfl) (by kernel_rfl) (fun c a w h => hQP c _ _ w rfl h) (reg.wanted_of 7 true 10 rfl (by kernel_rfl) (by simp [Act.put, q2z, q2s1, q2s6, q2s8])) (hM.ls (by simp)) (fun W hW => by simp [execOp, go_sem, Act.put, q2z, q2s1, q2s6, q2s8]) ?_
  refine reg.e_take (i := 9) (.int .i64 m.len) rfl (by kernel_rfl) (by kernel_rfl) (by kernel_rfl) (by kernel_rfl) (fun c a w h => hQP c _ _ w rfl h) (reg.wanted_of 7 true 10 rfl (by kernel_rfl) (by simp [Act.put, q2z, q2s1, q2s6, q2s8])) (hM.ls (by simp)) (fun W hW => ex_get rfl (by simp [go_sem, Act.put, q2z, q2s1, q2s6, q2s8]) hW.at0 (show (mvl m)[1]? = some _ from rfl)) ?_
  refine reg.any_list #[true, true, true, true, true, true, true, true, true, true, false, false, false, false, false, false] (by kernel_rfl) ?_
  refine reg.any_abs (fun q => q.tmps.size = 18 ∧ (∀ h, q.tmps[6]'h = .bool false) ∧ (∀ h, q.tmps[10]'h = .bool true) ∧ (∀ h, q.tmps[12]'h = .int .i64 m.len)) ⟨by simp [Act.put, q2z, q2s1, q2s6, q2s8], reg.at_of (by simp [Act.put, q2z, q2s1, q2s6, q2s8]), reg.at_of (by simp [Act.put, q2z, q2s1, q2s6, q2s8]), reg.at_of (by simp [Act.put, q2z, q2s1, q2s6, q2s8])⟩ ?_
  clear q2z q2s1 q2s6 q2s8
  rintro q4 ⟨q4z, q4s6, q4s10, q4s12⟩ hq4
  have HQ4 : Hid (q4 = _) := hq4
  clear hq4
  refine reg.e_one 10 (by kernel_rfl) rfl ?_
  refine reg.r_call (i := 10) 47 #[.int .i64 32] rfl (reg.wanted_of 7 true 10 rfl (by kernel_rfl) (by simp [Act.put, q4z, q4s6, q4s10, q4s12])) (by simp [execOp, go_sem, Act.put, q4z, q4s6, q4s10, q4s12]) ((HT.out _).mono ?_)
  rintro re ru5 ⟨rfl, rhv⟩
  replace hM := hM.call rhv
  clear rhv
  refine ⟨_, rfl, hM.ls (by simp), ?_⟩
  refine reg.e_take (i := 11) (.int .i64 4294967295) rfl (by kernel_rfl) (by kernel_rfl) (by kernel_rfl) (by kernel_rfl) (fun c a w h => hQP c _ _ w rfl h) (reg.wanted_of 7 true 10 rfl (by kernel_rfl) (by simp [Act.put, q4z, q4s6, q4s10, q4s12])) (hM.ls (by simp)) (fun W hW => by simp [execOp, go_sem, Act.put, q4z, q4s6, q4s10, q4s12, ew.out]) ?_
  refine reg.e_one 12 (by kernel_rfl) rfl ?_
  refine reg.r_call (i := 12) 28 #[.int .i64 m.len, .int .i64 1, .int .i64 4294967295] rfl (reg.wanted_of 7 true 10 rfl (by kernel_rfl) (by simp [Act.put, q4z, q4s6, q4s10, q4s12])) (by simp [execOp, go_sem, Act.put, q4z, q4s6, q4s10, q4s12]) ((HB2.out _).mono ?_)
  rintro re ru6 ⟨rfl, rhv⟩
  replace hM := hM.call rhv
  clear rhv
  refine ⟨_, rfl, hM.ls (by simp), ?_⟩
  refine reg.e_take (i := 13) (.bool y) rfl (by kernel_rfl) (by kernel_rfl) (by kernel_rfl) (by kernel_rfl) (fun c a w h => hQP c _ _ w rfl h) (reg.wanted_of 3 false 6 rfl (by kernel_rfl) (by simp [Act.put, q4z, q4s6, q4s10, q4s12])) (hM.ls (by simp)) (fun W hW => by simp [execOp, go_sem, Act.put, q4z, q4s6, q4s10, q4s12]) ?_
  refine reg.e_take (i := 14) (.bool y) rfl (by kernel_rfl) (by kernel_rfl) (by kernel_rfl) (by kernel_rfl) (fun c a w h => hQP c _ _ w rfl h) (reg.wanted_none rfl) (hM.ls (by simp)) (fun W hW => by simp [execOp, go_sem, Act.put, q4z, q4s6, q4s10, q4s12]) ?_
  refine reg.any_list #[true, true, true, true, true, true, true, true, true, true, true, true, true, true, true, false] (by kernel_rfl) ?_
  refine reg.any_abs (fun q => q.tmps.size = 18 ∧ (∀ h, q.tmps[17]'h = .bool y)) ⟨by simp [Act.put, q4z, q4s6, q4s10, q4s12], reg.at_of (by simp [Act.put, q4z, q4s6, q4s10, q4s12])⟩ ?_
  clear q4z q4s6 q4s10 q4s12
  rintro q7 ⟨q7z, q7s17⟩ hq7
  have HQ7 : Hid (q7 = _) := hq7
  clear hq7
  refine reg.e_take (i := 15) (.bool y) rfl (by kernel_rfl) (by kernel_rfl) (by kernel_rfl) (by kernel_rfl) (fun c a w h => hQP c _ _ w rfl h) (reg.wanted_none rfl) (hM.ls (by simp)) (fun W hW => by simp [execOp, go_sem, Act.put, q7z, q7s17]) ?_
  clear hQP
  refine reg.e_done (by kernel_rfl) ?_ _
  clear q7z q7s17
  have hq7 := HQ7.out
  clear HQ7
  subst hq7
  have hq4 := HQ4.out
  clear HQ4
  subst hq4
  have hq2 := HQ2.out
  clear HQ2
  subst hq2
  have hq1 := HQ1.out
  clear HQ1
  subst hq1
  subst ha0
  go_simp
  repeat' (first | go_values | go_skip | go_guarded | go_step | go_upon | (simp only [Int.not_lt, Int.not_le] at *; go_simp))
  go_ret
  exact ⟨rfl, hM.below⟩
/-- the document's case -/
def jc (hd dd m : Int) : Int := if hd = 0 then 1 + dd else if hd = 1 then (if dd = 0 then 4 else if dd = 1 then 5 + m else 8) else (if dd = 0 then 9 else if dd = 1 then 10 else 11 + m)
def tb27 : List Int := [1, 1, 1, 2, 2, 2, 3, 3, 3, 4, 4, 4, 5, 6, 7, 8, 8, 8, 9, 9, 9, 10, 10, 10, 11, 12, 13]
def tb9 (hd : Int) : List Int := if hd = 0 then [1, 1, 1, 2, 2, 2, 3, 3, 3] else if hd = 1 then [4, 4, 4, 5, 6, 7, 8, 8, 8] else [9, 9, 9, 10, 10, 10, 11, 12, 13]
def tb3 (hd dd : Int) : List Int := if hd = 0 then (if dd = 0 then [1, 1, 1] else if dd = 1 then [2, 2, 2] else [3, 3, 3]) else if hd = 1 then (if dd = 0 then [4, 4, 4] else if dd = 1 then [5, 6, 7] else [8, 8, 8]) else (if dd = 0 then [9, 9, 9] else if dd = 1 then [10, 10, 10] else [11, 12, 13])
theorem ix27 (hd : Int) (h : hd = 0 ∨ hd = 1 ∨ hd = 2) (w : World) : (Instr.index 67 (ag (ivs tb27)) (.int .i64 hd)).run Try.prog w = .ok (ag (ivs (tb9 hd))) w := by
  rcases h with rfl | rfl | rfl <;> kernel_rfl
theorem ix9 (hd dd : Int) (h : hd = 0 ∨ hd = 1 ∨ hd = 2) (h2 : dd = 0 ∨ dd = 1 ∨ dd = 2) (w : World) : (Instr.index 66 (ag (ivs (tb9 hd))) (.int .i64 dd)).run Try.prog w = .ok (ag (ivs (tb3 hd dd))) w := by
  rcases h with rfl | rfl | rfl <;> rcases h2 with rfl | rfl | rfl <;> kernel_rfl
theorem ix3 (hd dd m : Int) (h : hd = 0 ∨ hd = 1 ∨ hd = 2) (h2 : dd = 0 ∨ dd = 1 ∨ dd = 2) (h3 : m = 0 ∨ m = 1 ∨ m = 2) (h0 : hd = 0 → dd = 0 → True) (w : World) : (Instr.index 65 (ag (ivs (tb3 hd dd))) (.int .i64 m)).run Try.prog w = .ok (.int .i64 (jc hd dd m)) w := by
  rcases h with rfl | rfl | rfl <;> rcases h2 with rfl | rfl | rfl <;> rcases h3 with rfl | rfl | rfl <;> kernel_rfl
theorem jc_cs {h d : Mv} (h1 : mvB h = true) (h2 : mvB d = true) : jc h.dir d.dir (1 + cmpI d.len h.len) = csV h d := by
  have a1 := (mv_iff h).1 h1
  have a2 := (mv_iff d).1 h2
  unfold jc csV
  split
  · rfl
  · split
    · split
      · rfl
      · split
        · omega
        · rfl
    · split
      · rfl
      · split
        · rfl
        · omega
theorem cs_range {h d : Mv} (h1 : mvB h = true) (h2 : mvB d = true) : 1 ≤ csV h d ∧ csV h d ≤ 13 := by
  have a1 := (mv_iff h).1 h1
  have a2 := (mv_iff d).1 h2
  have hc := cmp_val d.len h.len
  unfold csV
  repeat' split
  all_goals omega
theorem entry (args : Array Value) (w : World) : (callFunc 72 args).run Try.prog w = ((Extern.BytealgIndexByte.indexByte args).run Try.prog w).andThen fun v w' => .ok (.value v) w' :=
  run_callFunc_extern Try.func72 (by kernel_rfl) (by kernel_rfl) (by kernel_rfl) (by kernel_rfl) args w
theorem index_any (s : ByteArray) (c : Int) (w : World) :
    Calls Try.prog 38 #[.string s, .int .u8 c] w fun e w' => e = .returned (.int .i64 (firstIdx s c.toNat.toUInt8)) ∧ w' = w := by
  have h1 : ∀ w : World, (callFunc 72 #[.string s, .int .u8 c]).run Try.prog w = .ok (.value (.int .i64 (firstIdx s c.toNat.toUInt8))) w := by
    intro w; rw [entry, run_indexByte_string]; rfl
  have H2 : Hid (∀ w : World, Calls Try.prog 57 #[.string s, .int .u8 c] w fun e w' => e = .returned (.int .i64 (firstIdx s c.toNat.toUInt8)) ∧ w' = w) := by
    intro w
    go_enter Try.func57, Try.ntmps57
    go_wp2
    go_ret
    exact ⟨rfl, rfl⟩
  clear h1
  go_enter Try.func38, Try.ntmps38
  go_wp2_with fail
  refine (H2.out _).mono ?_
  rintro r u ⟨rfl, rfl⟩
  go_wp2
  go_ret
  exact ⟨rfl, rfl⟩
theorem mkd_idx : ∀ k : Fin 14, decide (0 ≤ firstIdx ⟨#[2, 3, 7, 8, 10, 13]⟩ k.val.toUInt8) = mkd (k.val : Int) := by decide +kernel
theorem bld_vd3 (c r k : Int) (w : World) : (Instr.build 39 #[(0, .int .i64 c), (2, .int .i64 r), (3, .int .i64 k)]).run Try.prog w = .ok (ag (vdl ⟨c, 0, r, k⟩)) w := by kernel_rfl
theorem bld_vd4 (c m r : Int) (w : World) : (Instr.build 39 #[(0, .int .i64 c), (1, .int .i64 m), (2, .int .i64 r)]).run Try.prog w = .ok (ag (vdl ⟨c, m, r, 0⟩)) w := by kernel_rfl
end Go.Proofs.Ytecknicmonhcaaa.bulk
