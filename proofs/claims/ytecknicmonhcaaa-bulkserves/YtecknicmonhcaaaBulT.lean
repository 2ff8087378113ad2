/- plugref: ReadStatus. (Written by tools/genbult.py.) -/
import Derived.Test.YtecknicmonhcaaaBulE
import Derived.Test.YtecknicmonhcaaaBulS
import Derived.Test.YtecknicmonhcaaaRegK
namespace Go.Proofs.Ytecknicmonhcaaa.bulk
open Go Go.RowKit Go.PlainAid Go.Proofs.Ytecknicmonhcaaa.lane Go.Proofs.Ytecknicmonhcaaa.pipe Go.Proofs.Ytecknicmonhcaaa.strike
open Go.Proofs.Ytecknicmonhcaaa.scsi (bt_range run_part between_any)
set_option linter.unusedVariables false
set_option linter.unusedSimpArgs false
set_option maxRecDepth 100000

theorem run_neqs (s t : ByteArray) (b : Bool) (hb : decide (s ≠ t) = b) (W : World) : (binOp .neq 9 (.string s) (.string t)).run Try.prog W = .ok (.bool b) W := by
  subst hb
  have e : (!(s.toList == t.toList)) = decide (s ≠ t) := neq_bytes s t
  rw [← e]
  simp [go_sem, bne]
theorem ex_neqs {o : Oper} {a : Act} {W : World} {x y : Operand} {s t : ByteArray} {b : Bool} {r : TypeId} (ho : o.op = .binOp .neq 9 x y r) (hx : a.eval x = .string s) (hy : a.eval y = .string t) (hb : decide (s ≠ t) = b) :
    (execOp a.eval o).run Try.prog W = .ok (.value (.bool b)) W := by
  unfold execOp
  have hg : (eqGuard .neq 9 x y (.string s) (.string t)).run Try.prog W = .ok () W := by simp [go_sem]
  simp only [ho, hx, hy, Sem.run_bind, hg, run_neqs s t b hb, Result.andThen_ok, Sem.run_pure]
theorem v_neqs {ops : Array Oper} {rest : List Oper} {o : Oper} {a : Act} {w : World} {Q : Exit → Act → World → Prop} (hgd : Region.wanted o (yielded ops a.tmps) = true) {x y : Operand} {r : TypeId} (ho : o.op = .binOp .neq 9 x y r)
    {s t : ByteArray} {b : Bool} (hx : a.eval x = .string s) (hy : a.eval y = .string t) (hb : decide (s ≠ t) = b)
    (h : wpList Try.prog ops Q rest (a.put o.dst (.bool b)) w) : wpList Try.prog ops Q (o :: rest) a w := by
  refine wpList_step fun K hK' => ?_
  rw [if_pos hgd]
  unfold Oper.wp
  rw [ex_neqs ho hx hy hb]
  exact hK' _ _ h
theorem lowNum_at (s : ByteArray) (k : Nat) (hk : k + 4 ≤ s.size) (hm : s.size ≤ maxLen) (w : World) : Calls Try.prog 33 #[.string (s.extract k s.size)] w fun e w' => e = .returned (.int .i64 (lgL (nums s) k)) ∧ Below w.heap.size w w' := by
  refine (lowNum_any _ w (by rw [ByteArray.size_extract]; omega) (by rw [ByteArray.size_extract]; omega)).mono ?_
  rintro e w' ⟨rfl, hb⟩
  exact ⟨by rw [lg_from], hb⟩
theorem four_iff {s p : ByteArray} (h : 4 ≤ s.size) : (s.extract 0 4 = p) ↔ (nums s).take 4 = nums p := by
  constructor
  · intro q; rw [← q, nums_cut, List.drop_zero]
  · intro q; apply nums_inj; rw [nums_cut, List.drop_zero]; exact q
theorem run_four (s : ByteArray) (h : 4 ≤ s.size) (W : World) : (Instr.slice 9 (.string s) none (some (.int .i64 4)) none).run Try.prog W = .ok (.string (s.extract 0 4)) W :=
  run_slice_string_h (P := Try.prog) (w := W) (t := 9) (s := s) (ht := Try.underlying9) .i64 4 (by omega) (by omega)
theorem rs_err {s : ByteArray} (hs : ¬ s.size < 13) (h : rtB s = false) : rsC s = 4 ∧ rsW s = sp0 := by
  have hc : rsC s = 4 := by
    rcases rs_code s with q | q | q
    · rw [(rs_rt (by omega)).1 q] at h; cases h
    · unfold rsC at q; rw [if_neg hs] at q; split at q <;> cases q
    · exact q
  exact ⟨hc, if_neg (by rw [hc]; decide)⟩
theorem rd_err {s : ByteArray} (hs : ¬ s.size < 31) (h : rfB s = false) : rdC s = 4 ∧ rdW s = wp0 := by
  have hc : rdC s = 4 := by
    rcases rd_code s with q | q | q
    · rw [(rd_rf (by omega)).1 q] at h; cases h
    · unfold rdC at q; rw [if_neg hs] at q; split at q <;> cases q
    · exact q
  exact ⟨hc, if_neg (by rw [hc]; decide)⟩
set_option maxHeartbeats 4000000 in
theorem rreadStatus_any (s : ByteArray) (hm : s.size ≤ maxLen) (w : World) : Calls Try.prog 16 #[.string s] w fun e w' => e = .returned (.tuple #[ag (spl (rsW s)), .int .i64 (rsC s)]) ∧ Below w.heap.size w w' := by
  have hM := Mm.nil w
  have hm' := hm
  unfold maxLen at hm'
  by_cases hs : s.size < 13
  · have hc : rsC s = 3 := if_pos hs
    have hw : rsW s = sp0 := if_neg (by rw [hc]; decide)
    rw [hc, hw]
    clear hc hw hm
    go_enter Try.func16, Try.ntmps16
    repeat' (first | (go_big_may; first | (refine v_alloc rfl zer_status rfl ?_; intro u za hN; replace hM := hM.new hN; clear hN) | (refine v_build rfl rfl bld_status0 ?hbv ?_; (case hbv => simp [Act.eval, Act.put])) | (refine v_fill rfl rfl row_status rfl rfl hM.at0 (spl_vs _) rfl ?_; intro u hv hc; replace hM := hM.put0 hc hv; clear hv hc)) | go_values | go_skip | go_guarded | go_step | go_upon | (simp only [Int.not_lt, Int.not_le] at *; go_simp))
    exact bodyPost_ret (ret_2 rfl rfl (ld_var row_status hM.at0 rfl) rfl) rfl ⟨rfl, hM.below⟩
  have h4 : ∀ W, (Instr.slice 9 (.string s) none (some (.int .i64 4)) none).run Try.prog W = .ok (.string (s.extract 0 4)) W := fun W => run_four s (by omega) W
  have h12 : ∀ W, (Instr.index 9 (.string s) (.int .i64 12)).run Try.prog W = .ok (.int .u8 (bt s 12)) W := fun W => run_ix s 12 (by omega) W
  have hb12 : bt s 12 = (nums s).getD 12 0 := bt_nums s 12 (by omega)
  by_cases hq : 13 < s.size
  · have hE := rs_err hs (by rw [Bool.eq_false_iff]; intro q; have q := (rt_iff s).1 q; omega)
    rw [hE.1, hE.2]
    have e1 : decide ((13 : Int) < (s.size : Int)) = true := by simp; omega
    have e2 : decide (13 < s.size) = true := by simpa using hq
    clear h4 h12
    clear hq hE hb12 hm
    go_enter Try.func16, Try.ntmps16
    repeat' (first | (go_big_may; first | (refine v_alloc rfl zer_status rfl ?_; intro u za hN; replace hM := hM.new hN; clear hN) | (refine v_build rfl rfl bld_status0 ?hbv ?_; (case hbv => simp [Act.eval, Act.put])) | (refine v_fill rfl rfl row_status rfl rfl hM.at0 (spl_vs _) rfl ?_; intro u hv hc; replace hM := hM.put0 hc hv; clear hv hc)) | go_values | go_skip | go_guarded | go_step | go_upon | (simp only [Int.not_lt, Int.not_le] at *; go_simp))
    exact bodyPost_ret (ret_2 rfl rfl (ld_var row_status hM.at0 rfl) rfl) rfl ⟨rfl, hM.below⟩

  have h13 : s.size = 13 := by omega
  have e1 : decide ((13 : Int) < (s.size : Int)) = false := by simp; omega
  have e2 : decide (13 < s.size) = false := by simp; omega
  clear hq
  by_cases hq : ¬ s.extract 0 4 = ⟨#[85, 83, 66, 83]⟩
  · have hE := rs_err hs (by rw [Bool.eq_false_iff]; intro q; have q := (rt_iff s).1 q; exact hq ((four_iff (by omega)).2 q.2.1))
    rw [hE.1, hE.2]
    have hne : decide (s.extract 0 4 ≠ ⟨#[85, 83, 66, 83]⟩) = true := decide_eq_true hq
    clear hq hE hb12 hm
    go_enter Try.func16, Try.ntmps16
    repeat' (first | (go_big_may; first | (refine v_alloc rfl zer_status rfl ?_; intro u za hN; replace hM := hM.new hN; clear hN) | (refine v_build rfl rfl bld_status0 ?hbv ?_; (case hbv => simp [Act.eval, Act.put])) | (refine v_fill rfl rfl row_status rfl rfl hM.at0 (spl_vs _) rfl ?_; intro u hv hc; replace hM := hM.put0 hc hv; clear hv hc) | (refine v_neqs rfl rfl rfl rfl hne ?_)) | go_values | go_skip | go_guarded | go_step | go_upon | (simp only [Int.not_lt, Int.not_le] at *; go_simp))
    exact bodyPost_ret (ret_2 rfl rfl (ld_var row_status hM.at0 rfl) rfl) rfl ⟨rfl, hM.below⟩

  have hq4 : s.extract 0 4 = ⟨#[85, 83, 66, 83]⟩ := Classical.not_not.1 hq
  have hne : decide (s.extract 0 4 ≠ ⟨#[85, 83, 66, 83]⟩) = false := decide_eq_false (fun q => q hq4)
  clear hq
  by_cases hq : 2 < bt s 12
  · have hE := rs_err hs (by rw [Bool.eq_false_iff]; intro q; have q := (rt_iff s).1 q; rw [← hb12] at q; omega)
    rw [hE.1, hE.2]
    have e3 := decide_eq_true hq
    clear hq4 h13
    clear hq hE hb12 hm
    go_enter Try.func16, Try.ntmps16
    repeat' (first | (go_big_may; first | (refine v_alloc rfl zer_status rfl ?_; intro u za hN; replace hM := hM.new hN; clear hN) | (refine v_build rfl rfl bld_status0 ?hbv ?_; (case hbv => simp [Act.eval, Act.put])) | (refine v_fill rfl rfl row_status rfl rfl hM.at0 (spl_vs _) rfl ?_; intro u hv hc; replace hM := hM.put0 hc hv; clear hv hc) | (refine v_neqs rfl rfl rfl rfl hne ?_)) | go_values | go_skip | go_guarded | go_step | go_upon | (simp only [Int.not_lt, Int.not_le] at *; go_simp))
    exact bodyPost_ret (ret_2 rfl rfl (ld_var row_status hM.at0 rfl) rfl) rfl ⟨rfl, hM.below⟩

  have e3 := decide_eq_false hq
  have hE : rsC s = 0 := (rs_rt (by omega)).2 ((rt_iff s).2 ⟨h13, (four_iff (by omega)).1 hq4, by rw [← hb12]; omega⟩)
  have hW : rsW s = rsV s := if_pos hE
  rw [hE, hW]
  have HL4 : Hid (∀ u, Calls Try.prog 33 #[.string (s.extract 4 s.size)] u fun e w' => e = .returned (.int .i64 (lgL (nums s) 4)) ∧ Below u.heap.size u w') := fun u => lowNum_at s 4 (by omega) hm u
  have HL8 : Hid (∀ u, Calls Try.prog 33 #[.string (s.extract 8 s.size)] u fun e w' => e = .returned (.int .i64 (lgL (nums s) 8)) ∧ Below u.heap.size u w') := fun u => lowNum_at s 8 (by omega) hm u
  have hs4 : ∀ W, (Instr.slice 9 (.string s) (some (.int .i64 4)) none none).run Try.prog W = .ok (.string (s.extract 4 s.size)) W := fun W => run_from s 4 (by omega) (by omega) W
  have hs8 : ∀ W, (Instr.slice 9 (.string s) (some (.int .i64 8)) none none).run Try.prog W = .ok (.string (s.extract 8 s.size)) W := fun W => run_from s 8 (by omega) (by omega) W
  obtain ⟨l0, l1⟩ := bt_range s 12
  have e12 : IntKind.i64.wrap (bt s 12) = bt s 12 := by rw [IntKind.wrap_i64]; omega
  have hbld : Value.agg #[.int .i64 (lgL (nums s) 4), .int .i64 (lgL (nums s) 8), .int .i64 (bt s 12)] = ag (spl (rsV s)) := by rw [hb12]; rfl
  have HBD : Hid (Value.agg #[.int .i64 (lgL (nums s) 4), .int .i64 (lgL (nums s) 8), .int .i64 (bt s 12)] = ag (spl (rsV s))) := hbld
  clear hm l0 l1 hE hW hq hq4 hb12 hbld h13
  go_enter Try.func16, Try.ntmps16
  repeat' (first | (go_big_may; first | (refine v_alloc rfl zer_status rfl ?_; intro u za hN; replace hM := hM.new hN; clear hN) | (refine v_neqs rfl rfl rfl rfl hne ?_)) | go_values | go_skip | go_guarded | go_step | go_upon | (simp only [Int.not_lt, Int.not_le] at *; go_simp))
  clear e1 e2 e3
  refine reg.wp_abs (fun a0 => a0.tmps.size = 32 ∧ (∀ h, a0.tmps[0]'h = .string s) ∧ (∀ h, a0.tmps[2]'h = .pointer (some ⟨za, 0, none⟩))) ⟨rfl, fun _ => rfl, fun _ => rfl⟩ ?_
  rintro a0 ⟨hsz, s0, s2⟩ ha0
  refine reg.wp_region_E (S := fun W => Ls W []) (E := fun _ => false) (by kernel_rfl) ?_
  replace hM := hM.drew
  refine reg.e_take (i := 0) (.string s) rfl (by kernel_rfl) (by kernel_rfl) (by kernel_rfl) (by kernel_rfl) (fun _ _ _ h => h) (reg.wanted_none rfl) (hM.ls (by simp)) (fun W hW => by simp [execOp, go_sem, Act.put, hsz, s0, s2]) ?_
  refine reg.e_take (i := 1) (.string (s.extract 4 s.size)) rfl (by kernel_rfl) (by kernel_rfl) (by kernel_rfl) (by kernel_rfl) (fun _ _ _ h => h) (reg.wanted_none rfl) (hM.ls (by simp)) (fun W hW => by simp [execOp, go_sem, Act.put, hsz, s0, s2, hs4]) ?_
  refine reg.e_take (i := 3) (.string s) rfl (by kernel_rfl) (by kernel_rfl) (by kernel_rfl) (by kernel_rfl) (fun _ _ _ h => h) (reg.wanted_none rfl) (hM.ls (by simp)) (fun W hW => by simp [execOp, go_sem, Act.put, hsz, s0, s2]) ?_
  refine reg.e_take (i := 4) (.string (s.extract 8 s.size)) rfl (by kernel_rfl) (by kernel_rfl) (by kernel_rfl) (by kernel_rfl) (fun _ _ _ h => h) (reg.wanted_none rfl) (hM.ls (by simp)) (fun W hW => by simp [execOp, go_sem, Act.put, hsz, s0, s2, hs8]) ?_
  refine reg.e_take (i := 6) (.string s) rfl (by kernel_rfl) (by kernel_rfl) (by kernel_rfl) (by kernel_rfl) (fun _ _ _ h => h) (reg.wanted_none rfl) (hM.ls (by simp)) (fun W hW => by simp [execOp, go_sem, Act.put, hsz, s0, s2]) ?_
  refine reg.e_take (i := 7) (.int .u8 (bt s 12)) rfl (by kernel_rfl) (by kernel_rfl) (by kernel_rfl) (by kernel_rfl) (fun _ _ _ h => h) (reg.wanted_none rfl) (hM.ls (by simp)) (fun W hW => by simp [execOp, go_sem, Act.put, hsz, s0, s2, h12]) ?_
  refine reg.e_take (i := 8) (.int .i64 (bt s 12)) rfl (by kernel_rfl) (by kernel_rfl) (by kernel_rfl) (by kernel_rfl) (fun _ _ _ h => h) (reg.wanted_none rfl) (hM.ls (by simp)) (fun W hW => by simp [execOp, go_sem, Act.put, hsz, s0, s2, e12]) ?_
  refine reg.e_one 2 (by kernel_rfl) rfl ?_
  refine reg.r_call (i := 2) 33 #[.string (s.extract 4 s.size)] rfl (reg.wanted_none rfl) (by simp [execOp, go_sem, Act.put, hsz, s0, s2]) ((HL4.out _).mono ?_)
  rintro re ru1 ⟨rfl, rhv⟩
  replace hM := hM.call rhv
  clear rhv
  refine ⟨_, rfl, hM.ls (by simp), ?_⟩
  refine reg.e_one 5 (by kernel_rfl) rfl ?_
  refine reg.r_call (i := 5) 33 #[.string (s.extract 8 s.size)] rfl (reg.wanted_none rfl) (by simp [execOp, go_sem, Act.put, hsz, s0, s2]) ((HL8.out _).mono ?_)
  rintro re ru2 ⟨rfl, rhv⟩
  replace hM := hM.call rhv
  clear rhv
  refine ⟨_, rfl, hM.ls (by simp), ?_⟩
  refine reg.e_take (i := 9) (ag (spl (rsV s))) rfl (by kernel_rfl) (by kernel_rfl) (by kernel_rfl) (by kernel_rfl) (fun _ _ _ h => h) (reg.wanted_none rfl) (hM.ls (by simp)) (fun W hW => by simp [execOp, go_sem, Act.put, hsz, s0, s2, HBD.out]) ?_
  refine reg.e_one 10 (by kernel_rfl) rfl ?_
  refine r_fill (i := 10) rfl (reg.wanted_none rfl) rfl row_status (by simp [go_sem, Act.put, hsz, s0, s2]) (by simp [go_sem, Act.put, hsz, s0, s2]) hM.at0 (spl_vs (rsV s)) rfl ?_
  intro ru3 rhv rhc
  replace hM := hM.put0 rhc rhv
  clear rhc rhv
  refine ⟨hM.ls (by simp), ?_⟩
  refine reg.e_take (i := 11) (.int .i64 0) rfl (by kernel_rfl) (by kernel_rfl) (by kernel_rfl) (by kernel_rfl) (fun _ _ _ h => h) (reg.wanted_none rfl) (hM.ls (by simp)) (fun W hW => by simp [execOp, go_sem, Act.put, hsz, s0, s2]) ?_
  refine reg.e_done (by kernel_rfl) ?_ _
  subst ha0
  clear hsz s0 s2
  go_simp
  repeat' (first | go_values | go_skip | go_guarded | go_step | go_upon | (simp only [Int.not_lt, Int.not_le] at *; go_simp))
  exact bodyPost_ret (ret_2 rfl rfl (ld_var row_status hM.at0 rfl) rfl) rfl ⟨rfl, hM.below⟩
end Go.Proofs.Ytecknicmonhcaaa.bulk
