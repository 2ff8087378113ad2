/- plugref: ReadWrap. (Written by tools/genbult.py.) -/
import Derived.Test.YtecknicmonhcaaaBulE
import Derived.Test.YtecknicmonhcaaaBulT
import Derived.Test.YtecknicmonhcaaaRegK
namespace Go.Proofs.Ytecknicmonhcaaa.bulk
open Go Go.RowKit Go.PlainAid Go.Proofs.Ytecknicmonhcaaa.lane Go.Proofs.Ytecknicmonhcaaa.pipe Go.Proofs.Ytecknicmonhcaaa.strike
open Go.Proofs.Ytecknicmonhcaaa.scsi (bt_range run_part between_any)
set_option linter.unusedVariables false
set_option linter.unusedSimpArgs false
set_option maxRecDepth 100000

set_option maxHeartbeats 16000000 in
theorem rreadWrap_any (s : ByteArray) (hm : s.size ≤ maxLen) (w : World) : Calls Try.prog 12 #[.string s] w fun e w' => e = .returned (.tuple #[ag (wpl (rdW s)), .int .i64 (rdC s)]) ∧ Below w.heap.size w w' := by
  have hM := Mm.nil w
  have hm' := hm
  unfold maxLen at hm'
  by_cases hs : s.size < 31
  · have hc : rdC s = 3 := if_pos hs
    have hw : rdW s = wp0 := if_neg (by rw [hc]; decide)
    rw [hc, hw]
    clear hc hw hm
    go_enter Try.func12, Try.ntmps12
    repeat' (first | (go_big_may; first | (refine v_alloc rfl zer_wrap rfl ?_; intro u za hN; replace hM := hM.new hN; clear hN) | (refine v_build rfl rfl bld_wrap0 ?hbv ?_; (case hbv => simp [Act.eval, Act.put])) | (refine v_fill rfl rfl row_wrap rfl rfl hM.at0 (wpl_vs _) rfl ?_; intro u hv hc; replace hM := hM.put0 hc hv; clear hv hc)) | go_values | go_skip | go_guarded | go_step | go_upon | (simp only [Int.not_lt, Int.not_le] at *; go_simp))
    exact bodyPost_ret (ret_2 rfl rfl (ld_var row_wrap hM.at0 rfl) rfl) rfl ⟨rfl, hM.below⟩
  have HS : Hid (¬ s.size < 31) := hs
  have h4 : ∀ W, (Instr.slice 9 (.string s) none (some (.int .i64 4)) none).run Try.prog W = .ok (.string (s.extract 0 4)) W := fun W => run_four s (by omega) W
  have h12 : ∀ W, (Instr.index 9 (.string s) (.int .i64 12)).run Try.prog W = .ok (.int .u8 (bt s 12)) W := fun W => run_ix s 12 (by omega) W
  have h13 : ∀ W, (Instr.index 9 (.string s) (.int .i64 13)).run Try.prog W = .ok (.int .u8 (bt s 13)) W := fun W => run_ix s 13 (by omega) W
  have h14 : ∀ W, (Instr.index 9 (.string s) (.int .i64 14)).run Try.prog W = .ok (.int .u8 (bt s 14)) W := fun W => run_ix s 14 (by omega) W
  have H4 : Hid (∀ W, (Instr.slice 9 (.string s) none (some (.int .i64 4)) none).run Try.prog W = .ok (.string (s.extract 0 4)) W) := h4
  have H12 : Hid (∀ W, (Instr.index 9 (.string s) (.int .i64 12)).run Try.prog W = .ok (.int .u8 (bt s 12)) W) := h12
  have H13 : Hid (∀ W, (Instr.index 9 (.string s) (.int .i64 13)).run Try.prog W = .ok (.int .u8 (bt s 13)) W) := h13
  have hb12 : bt s 12 = (nums s).getD 12 0 := bt_nums s 12 (by omega)
  have hb13 : bt s 13 = (nums s).getD 13 0 := bt_nums s 13 (by omega)
  have hb14 : bt s 14 = (nums s).getD 14 0 := bt_nums s 14 (by omega)
  obtain ⟨l0, l1⟩ := bt_range s 13
  obtain ⟨m0, m1⟩ := bt_range s 14
  have e14 : IntKind.i64.wrap (bt s 14) = bt s 14 := by rw [IntKind.wrap_i64]; omega
  have e13 : Hid (IntKind.i64.wrap (bt s 13) = bt s 13) := by show _ = _; rw [IntKind.wrap_i64]; omega
  obtain ⟨n, hn⟩ : ∃ n : Nat, bt s 14 = (n : Int) := ⟨(bt s 14).toNat, by omega⟩
  rw [hn] at hb14 e14
  have HBT : Hid (∀ u, Calls Try.prog 28 #[.int .i64 (n : Int), .int .i64 1, .int .i64 16] u fun e w' => e = .returned (.bool (decide (1 ≤ (n : Int)) && decide ((n : Int) ≤ 16))) ∧ Below u.heap.size u w') := fun u => (between_any _ _ _ u).mono fun e w' h => ⟨h.1, by rw [← h.2]; exact Below.refl _ _⟩
  simp only [hn] at h14
  by_cases hq : 31 < s.size
  · have e1 : Hid (decide ((31 : Int) < (s.size : Int)) = true) := by show _ = _; simp; omega
    have E1 : Hid (decide (31 < s.size) = true) := by show _ = _; simpa using hq
    have hE := rd_err HS.out (by rw [Bool.eq_false_iff]; intro q; have q := (rf_iff s).1 q; omega)
    have HE : Hid (rdC s = 4 ∧ rdW s = wp0) := hE
    rw [HE.out.1, HE.out.2]
    clear hE hm hm' h4 h12 h13 hb12 hb13 hb14 hn l0 l1 m0 m1 hq
    go_enter Try.func12, Try.ntmps12
    repeat' (first | (go_big_may; first | (refine v_alloc rfl zer_wrap rfl ?_; intro u za hN; replace hM := hM.new hN; clear hN)) | go_values | go_skip | go_guarded | go_step | go_upon | (simp only [Int.not_lt, Int.not_le] at *; go_simp))
    clear h14 e14
    refine reg.wp_abs (fun a0 => a0.tmps.size = 68 ∧ (∀ h, a0.tmps[0]'h = .string s) ∧ (∀ h, a0.tmps[4]'h = .int .i64 (n : Int))) ⟨rfl, fun _ => rfl, fun _ => rfl⟩ ?_
    rintro a0 ⟨hsz, s0, s4⟩ ha0
    refine reg.wp_region_E (S := fun W => Ls W []) (E := fun _ => false) (by kernel_rfl) ?_
    replace hM := hM.drew
    refine reg.any_q (fun _ _ _ _ _ h => h) ?_
    intro hQP
    refine reg.e_take (i := 0) (.string s) rfl (by kernel_rfl) (by kernel_rfl) (by kernel_rfl) (by kernel_rfl) (fun c a w h => hQP c _ _ w rfl h) (reg.wanted_none rfl) (hM.ls (by simp)) (fun W hW => by simp [execOp, go_sem, Act.put, hsz, s0, s4]) ?_
    refine reg.e_take (i := 1) (.int .i64 (s.size : Int)) rfl (by kernel_rfl) (by kernel_rfl) (by kernel_rfl) (by kernel_rfl) (fun c a w h => hQP c _ _ w rfl h) (reg.wanted_none rfl) (hM.ls (by simp)) (fun W hW => by simp [execOp, go_sem, Act.put, hsz, s0, s4]) ?_
    refine reg.e_take (i := 2) (.bool true) rfl (by kernel_rfl) (by kernel_rfl) (by kernel_rfl) (by kernel_rfl) (fun c a w h => hQP c _ _ w rfl h) (reg.wanted_none rfl) (hM.ls (by simp)) (fun W hW => by simp [execOp, go_sem, Act.put, hsz, s0, s4, e1.out, E1.out]) ?_
    refine reg.e_take (i := 3) (.bool true) rfl (by kernel_rfl) (by kernel_rfl) (by kernel_rfl) (by kernel_rfl) (fun c a w h => hQP c _ _ w rfl h) (reg.wanted_none rfl) (hM.ls (by simp)) (fun W hW => by simp [execOp, go_sem, Act.put, hsz, s0, s4]) ?_
    refine reg.e_pass (i := 4) rfl (by kernel_rfl) (by kernel_rfl) (by kernel_rfl) (by kernel_rfl) (fun c a w h => hQP c _ _ w rfl h) (reg.unwanted_of 3 false 15 rfl (by kernel_rfl) (by simp [Act.put, hsz])) (hM.ls (by simp)) ?_
    refine reg.e_pass (i := 5) rfl (by kernel_rfl) (by kernel_rfl) (by kernel_rfl) (by kernel_rfl) (fun c a w h => hQP c _ _ w rfl h) (reg.unwanted_of 3 false 15 rfl (by kernel_rfl) (by simp [Act.put, hsz])) (hM.ls (by simp)) ?_
    refine reg.any_list #[true, true, true, true, true, true, false, false, false, false, false, false, false, false, false, false, false, false, false, false, false, false, false, false, false, false, false, false, false, false, false, false, false, false, false, false, false, false] (by kernel_rfl) ?_
    refine reg.any_abs (fun q => q.tmps.size = 68 ∧ (∀ h, q.tmps[0]'h = .string s) ∧ (∀ h, q.tmps[4]'h = .int .i64 (n : Int)) ∧ (∀ h, q.tmps[15]'h = .bool true) ∧ (∀ h, q.tmps[17]'h = undef)) ⟨by simp [Act.put, hsz, s0, s4], reg.at_of (by simp [Act.put, hsz, s0, s4]), reg.at_of (by simp [Act.put, hsz, s0, s4]), reg.at_of (by simp [Act.put, hsz, s0, s4]), reg.at_of (by simp [Act.put, hsz, s0, s4])⟩ ?_
    clear hsz s0 s4
    rintro q1 ⟨q1z, q1s0, q1s4, q1s15, q1s17⟩ hq1
    have HQ1 : Hid (q1 = _) := hq1
    clear hq1
    refine reg.e_pass (i := 6) rfl (by kernel_rfl) (by kernel_rfl) (by kernel_rfl) (by kernel_rfl) (fun c a w h => hQP c _ _ w rfl h) (reg.unwanted_of 3 false 15 rfl (by kernel_rfl) (by simp [Act.put, q1z, q1s0, q1s4, q1s15, q1s17])) (hM.ls (by simp)) ?_
    refine reg.e_take (i := 7) (.bool true) rfl (by kernel_rfl) (by kernel_rfl) (by kernel_rfl) (by kernel_rfl) (fun c a w h => hQP c _ _ w rfl h) (reg.wanted_none rfl) (hM.ls (by simp)) (fun W hW => by simp [execOp, go_sem, Act.put, q1z, q1s0, q1s4, q1s15, q1s17]) ?_
    refine reg.e_take (i := 8) (.bool true) rfl (by kernel_rfl) (by kernel_rfl) (by kernel_rfl) (by kernel_rfl) (fun c a w h => hQP c _ _ w rfl h) (reg.wanted_none rfl) (hM.ls (by simp)) (fun W hW => by simp [execOp, go_sem, Act.put, q1z, q1s0, q1s4, q1s15, q1s17]) ?_
    refine reg.e_pass (i := 9) rfl (by kernel_rfl) (by kernel_rfl) (by kernel_rfl) (by kernel_rfl) (fun c a w h => hQP c _ _ w rfl h) (reg.unwanted_of 8 false 20 rfl (by kernel_rfl) (by simp [Act.put, q1z, q1s0, q1s4, q1s15, q1s17])) (hM.ls (by simp)) ?_
    refine reg.e_pass (i := 10) rfl (by kernel_rfl) (by kernel_rfl) (by kernel_rfl) (by kernel_rfl) (fun c a w h => hQP c _ _ w rfl h) (reg.unwanted_of 8 false 20 rfl (by kernel_rfl) (by simp [Act.put, q1z, q1s0, q1s4, q1s15, q1s17])) (hM.ls (by simp)) ?_
    refine reg.e_pass (i := 11) rfl (by kernel_rfl) (by kernel_rfl) (by kernel_rfl) (by kernel_rfl) (fun c a w h => hQP c _ _ w rfl h) (reg.unwanted_of 8 false 20 rfl (by kernel_rfl) (by simp [Act.put, q1z, q1s0, q1s4, q1s15, q1s17])) (hM.ls (by simp)) ?_
    refine reg.any_list #[true, true, true, true, true, true, true, true, true, true, true, true, false, false, false, false, false, false, false, false, false, false, false, false, false, false, false, false, false, false, false, false, false, false, false, false, false, false] (by kernel_rfl) ?_
    refine reg.any_abs (fun q => q.tmps.size = 68 ∧ (∀ h, q.tmps[0]'h = .string s) ∧ (∀ h, q.tmps[4]'h = .int .i64 (n : Int)) ∧ (∀ h, q.tmps[20]'h = .bool true) ∧ (∀ h, q.tmps[23]'h = undef)) ⟨by simp [Act.put, q1z, q1s0, q1s4, q1s15, q1s17], reg.at_of (by simp [Act.put, q1z, q1s0, q1s4, q1s15, q1s17]), reg.at_of (by simp [Act.put, q1z, q1s0, q1s4, q1s15, q1s17]), reg.at_of (by simp [Act.put, q1z, q1s0, q1s4, q1s15, q1s17]), reg.at_of (by simp [Act.put, q1z, q1s0, q1s4, q1s15, q1s17])⟩ ?_
    clear q1z q1s0 q1s4 q1s15 q1s17
    rintro q2 ⟨q2z, q2s0, q2s4, q2s20, q2s23⟩ hq2
    have HQ2 : Hid (q2 = _) := hq2
    clear hq2
    refine reg.e_pass (i := 12) rfl (by kernel_rfl) (by kernel_rfl) (by kernel_rfl) (by kernel_rfl) (fun c a w h => hQP c _ _ w rfl h) (reg.unwanted_of 8 false 20 rfl (by kernel_rfl) (by simp [Act.put, q2z, q2s0, q2s4, q2s20, q2s23])) (hM.ls (by simp)) ?_
    refine reg.e_pass (i := 13) rfl (by kernel_rfl) (by kernel_rfl) (by kernel_rfl) (by kernel_rfl) (fun c a w h => hQP c _ _ w rfl h) (reg.unwanted_und 12 true 24 rfl (by kernel_rfl) (by simp [Act.put, q2z, q2s0, q2s4, q2s20, q2s23])) (hM.ls (by simp)) ?_
    refine reg.e_pass (i := 14) rfl (by kernel_rfl) (by kernel_rfl) (by kernel_rfl) (by kernel_rfl) (fun c a w h => hQP c _ _ w rfl h) (reg.unwanted_und 12 true 24 rfl (by kernel_rfl) (by simp [Act.put, q2z, q2s0, q2s4, q2s20, q2s23])) (hM.ls (by simp)) ?_
    refine reg.e_pass (i := 15) rfl (by kernel_rfl) (by kernel_rfl) (by kernel_rfl) (by kernel_rfl) (fun c a w h => hQP c _ _ w rfl h) (reg.unwanted_und 12 true 24 rfl (by kernel_rfl) (by simp [Act.put, q2z, q2s0, q2s4, q2s20, q2s23])) (hM.ls (by simp)) ?_
    refine reg.e_pass (i := 16) rfl (by kernel_rfl) (by kernel_rfl) (by kernel_rfl) (by kernel_rfl) (fun c a w h => hQP c _ _ w rfl h) (reg.unwanted_of 8 false 20 rfl (by kernel_rfl) (by simp [Act.put, q2z, q2s0, q2s4, q2s20, q2s23])) (hM.ls (by simp)) ?_
    refine reg.e_take (i := 17) (.bool true) rfl (by kernel_rfl) (by kernel_rfl) (by kernel_rfl) (by kernel_rfl) (fun c a w h => hQP c _ _ w rfl h) (reg.wanted_none rfl) (hM.ls (by simp)) (fun W hW => by simp [execOp, go_sem, Act.put, q2z, q2s0, q2s4, q2s20, q2s23]) ?_
    refine reg.any_list #[true, true, true, true, true, true, true, true, true, true, true, true, true, true, true, true, true, true, false, false, false, false, false, false, false, false, false, false, false, false, false, false, false, false, false, false, false, false] (by kernel_rfl) ?_
    refine reg.any_abs (fun q => q.tmps.size = 68 ∧ (∀ h, q.tmps[0]'h = .string s) ∧ (∀ h, q.tmps[4]'h = .int .i64 (n : Int)) ∧ (∀ h, q.tmps[29]'h = .bool true)) ⟨by simp [Act.put, q2z, q2s0, q2s4, q2s20, q2s23], reg.at_of (by simp [Act.put, q2z, q2s0, q2s4, q2s20, q2s23]), reg.at_of (by simp [Act.put, q2z, q2s0, q2s4, q2s20, q2s23]), reg.at_of (by simp [Act.put, q2z, q2s0, q2s4, q2s20, q2s23])⟩ ?_
    clear q2z q2s0 q2s4 q2s20 q2s23
    rintro q3 ⟨q3z, q3s0, q3s4, q3s29⟩ hq3
    have HQ3 : Hid (q3 = _) := hq3
    clear hq3
    refine reg.e_take (i := 18) (.bool true) rfl (by kernel_rfl) (by kernel_rfl) (by kernel_rfl) (by kernel_rfl) (fun c a w h => hQP c _ _ w rfl h) (reg.wanted_none rfl) (hM.ls (by simp)) (fun W hW => by simp [execOp, go_sem, Act.put, q3z, q3s0, q3s4, q3s29]) ?_
    refine reg.e_pass (i := 19) rfl (by kernel_rfl) (by kernel_rfl) (by kernel_rfl) (by kernel_rfl) (fun c a w h => hQP c _ _ w rfl h) (reg.unwanted_of 18 false 30 rfl (by kernel_rfl) (by simp [Act.put, q3z, q3s0, q3s4, q3s29])) (hM.ls (by simp)) ?_
    refine reg.e_pass (i := 20) rfl (by kernel_rfl) (by kernel_rfl) (by kernel_rfl) (by kernel_rfl) (fun c a w h => hQP c _ _ w rfl h) (reg.unwanted_of 18 false 30 rfl (by kernel_rfl) (by simp [Act.put, q3z, q3s0, q3s4, q3s29])) (hM.ls (by simp)) ?_
    refine reg.e_pass (i := 21) rfl (by kernel_rfl) (by kernel_rfl) (by kernel_rfl) (by kernel_rfl) (fun c a w h => hQP c _ _ w rfl h) (reg.unwanted_of 18 false 30 rfl (by kernel_rfl) (by simp [Act.put, q3z, q3s0, q3s4, q3s29])) (hM.ls (by simp)) ?_
    refine reg.e_take (i := 22) (.bool true) rfl (by kernel_rfl) (by kernel_rfl) (by kernel_rfl) (by kernel_rfl) (fun c a w h => hQP c _ _ w rfl h) (reg.wanted_none rfl) (hM.ls (by simp)) (fun W hW => by simp [execOp, go_sem, Act.put, q3z, q3s0, q3s4, q3s29]) ?_
    refine reg.e_take (i := 23) (.bool true) rfl (by kernel_rfl) (by kernel_rfl) (by kernel_rfl) (by kernel_rfl) (fun c a w h => hQP c _ _ w rfl h) (reg.wanted_none rfl) (hM.ls (by simp)) (fun W hW => by simp [execOp, go_sem, Act.put, q3z, q3s0, q3s4, q3s29]) ?_
    refine reg.any_list #[true, true, true, true, true, true, true, true, true, true, true, true, true, true, true, true, true, true, true, true, true, true, true, true, false, false, false, false, false, false, false, false, false, false, false, false, false, false] (by kernel_rfl) ?_
    refine reg.any_abs (fun q => q.tmps.size = 68 ∧ (∀ h, q.tmps[0]'h = .string s) ∧ (∀ h, q.tmps[4]'h = .int .i64 (n : Int)) ∧ (∀ h, q.tmps[35]'h = .bool true)) ⟨by simp [Act.put, q3z, q3s0, q3s4, q3s29], reg.at_of (by simp [Act.put, q3z, q3s0, q3s4, q3s29]), reg.at_of (by simp [Act.put, q3z, q3s0, q3s4, q3s29]), reg.at_of (by simp [Act.put, q3z, q3s0, q3s4, q3s29])⟩ ?_
    clear q3z q3s0 q3s4 q3s29
    rintro q4 ⟨q4z, q4s0, q4s4, q4s35⟩ hq4
    have HQ4 : Hid (q4 = _) := hq4
    clear hq4
    refine reg.e_pass (i := 24) rfl (by kernel_rfl) (by kernel_rfl) (by kernel_rfl) (by kernel_rfl) (fun c a w h => hQP c _ _ w rfl h) (reg.unwanted_of 23 false 35 rfl (by kernel_rfl) (by simp [Act.put, q4z, q4s0, q4s4, q4s35])) (hM.ls (by simp)) ?_
    refine reg.e_pass (i := 25) rfl (by kernel_rfl) (by kernel_rfl) (by kernel_rfl) (by kernel_rfl) (fun c a w h => hQP c _ _ w rfl h) (reg.unwanted_of 23 false 35 rfl (by kernel_rfl) (by simp [Act.put, q4z, q4s0, q4s4, q4s35])) (hM.ls (by simp)) ?_
    refine reg.e_pass (i := 26) rfl (by kernel_rfl) (by kernel_rfl) (by kernel_rfl) (by kernel_rfl) (fun c a w h => hQP c _ _ w rfl h) (reg.unwanted_of 23 false 35 rfl (by kernel_rfl) (by simp [Act.put, q4z, q4s0, q4s4, q4s35])) (hM.ls (by simp)) ?_
    refine reg.e_take (i := 27) (.bool true) rfl (by kernel_rfl) (by kernel_rfl) (by kernel_rfl) (by kernel_rfl) (fun c a w h => hQP c _ _ w rfl h) (reg.wanted_none rfl) (hM.ls (by simp)) (fun W hW => by simp [execOp, go_sem, Act.put, q4z, q4s0, q4s4, q4s35]) ?_
    refine reg.e_take (i := 28) (.bool true) rfl (by kernel_rfl) (by kernel_rfl) (by kernel_rfl) (by kernel_rfl) (fun c a w h => hQP c _ _ w rfl h) (reg.wanted_none rfl) (hM.ls (by simp)) (fun W hW => by simp [execOp, go_sem, Act.put, q4z, q4s0, q4s4, q4s35]) ?_
    refine reg.e_pass (i := 29) rfl (by kernel_rfl) (by kernel_rfl) (by kernel_rfl) (by kernel_rfl) (fun c a w h => hQP c _ _ w rfl h) (reg.unwanted_of 28 false 40 rfl (by kernel_rfl) (by simp [Act.put, q4z, q4s0, q4s4, q4s35])) (hM.ls (by simp)) ?_
    refine reg.any_list #[true, true, true, true, true, true, true, true, true, true, true, true, true, true, true, true, true, true, true, true, true, true, true, true, true, true, true, true, true, true, false, false, false, false, false, false, false, false] (by kernel_rfl) ?_
    refine reg.any_abs (fun q => q.tmps.size = 68 ∧ (∀ h, q.tmps[4]'h = .int .i64 (n : Int)) ∧ (∀ h, q.tmps[40]'h = .bool true) ∧ (∀ h, q.tmps[41]'h = undef)) ⟨by simp [Act.put, q4z, q4s0, q4s4, q4s35], reg.at_of (by simp [Act.put, q4z, q4s0, q4s4, q4s35]), reg.at_of (by simp [Act.put, q4z, q4s0, q4s4, q4s35]), reg.at_of (by simp [Act.put, q4z, q4s0, q4s4, q4s35])⟩ ?_
    clear q4z q4s0 q4s4 q4s35
    rintro q5 ⟨q5z, q5s4, q5s40, q5s41⟩ hq5
    have HQ5 : Hid (q5 = _) := hq5
    clear hq5
    refine reg.e_pass (i := 30) rfl (by kernel_rfl) (by kernel_rfl) (by kernel_rfl) (by kernel_rfl) (fun c a w h => hQP c _ _ w rfl h) (reg.unwanted_of 28 false 40 rfl (by kernel_rfl) (by simp [Act.put, q5z, q5s4, q5s40, q5s41])) (hM.ls (by simp)) ?_
    refine reg.e_pass (i := 31) rfl (by kernel_rfl) (by kernel_rfl) (by kernel_rfl) (by kernel_rfl) (fun c a w h => hQP c _ _ w rfl h) (reg.unwanted_of 28 false 40 rfl (by kernel_rfl) (by simp [Act.put, q5z, q5s4, q5s40, q5s41])) (hM.ls (by simp)) ?_
    refine reg.e_pass (i := 32) rfl (by kernel_rfl) (by kernel_rfl) (by kernel_rfl) (by kernel_rfl) (fun c a w h => hQP c _ _ w rfl h) (reg.unwanted_of 28 false 40 rfl (by kernel_rfl) (by simp [Act.put, q5z, q5s4, q5s40, q5s41])) (hM.ls (by simp)) ?_
    refine reg.e_pass (i := 33) rfl (by kernel_rfl) (by kernel_rfl) (by kernel_rfl) (by kernel_rfl) (fun c a w h => hQP c _ _ w rfl h) (reg.unwanted_of 28 false 40 rfl (by kernel_rfl) (by simp [Act.put, q5z, q5s4, q5s40, q5s41])) (hM.ls (by simp)) ?_
    refine reg.e_pass (i := 34) rfl (by kernel_rfl) (by kernel_rfl) (by kernel_rfl) (by kernel_rfl) (fun c a w h => hQP c _ _ w rfl h) (reg.unwanted_of 28 false 40 rfl (by kernel_rfl) (by simp [Act.put, q5z, q5s4, q5s40, q5s41])) (hM.ls (by simp)) ?_
    refine reg.e_pass (i := 35) rfl (by kernel_rfl) (by kernel_rfl) (by kernel_rfl) (by kernel_rfl) (fun c a w h => hQP c _ _ w rfl h) (reg.unwanted_of 28 false 40 rfl (by kernel_rfl) (by simp [Act.put, q5z, q5s4, q5s40, q5s41])) (hM.ls (by simp)) ?_
    refine reg.any_list #[true, true, true, true, true, true, true, true, true, true, true, true, true, true, true, true, true, true, true, true, true, true, true, true, true, true, true, true, true, true, true, true, true, true, true, true, false, false] (by kernel_rfl) ?_
    refine reg.any_abs (fun q => q.tmps.size = 68 ∧ (∀ h, q.tmps[40]'h = .bool true) ∧ (∀ h, q.tmps[44]'h = undef) ∧ (∀ h, q.tmps[47]'h = undef)) ⟨by simp [Act.put, q5z, q5s4, q5s40, q5s41], reg.at_of (by simp [Act.put, q5z, q5s4, q5s40, q5s41]), reg.at_of (by simp [Act.put, q5z, q5s4, q5s40, q5s41]), reg.at_of (by simp [Act.put, q5z, q5s4, q5s40, q5s41])⟩ ?_
    clear q5z q5s4 q5s40 q5s41
    rintro q6 ⟨q6z, q6s40, q6s44, q6s47⟩ hq6
    have HQ6 : Hid (q6 = _) := hq6
    clear hq6
    refine reg.e_pass (i := 36) rfl (by kernel_rfl) (by kernel_rfl) (by kernel_rfl) (by kernel_rfl) (fun c a w h => hQP c _ _ w rfl h) (reg.unwanted_of 28 false 40 rfl (by kernel_rfl) (by simp [Act.put, q6z, q6s40, q6s44, q6s47])) (hM.ls (by simp)) ?_
    refine reg.e_take (i := 37) (.bool true) rfl (by kernel_rfl) (by kernel_rfl) (by kernel_rfl) (by kernel_rfl) (fun c a w h => hQP c _ _ w rfl h) (reg.wanted_none rfl) (hM.ls (by simp)) (fun W hW => by simp [execOp, go_sem, Act.put, q6z, q6s40, q6s44, q6s47]) ?_
    clear hQP
    refine reg.e_done (by kernel_rfl) ?_ _
    clear q6z q6s40 q6s44 q6s47
    have hq6 := HQ6.out
    clear HQ6
    subst hq6
    have hq5 := HQ5.out
    clear HQ5
    subst hq5
    have hq4 := HQ4.out
    clear HQ4
    subst hq4
    have hq3 := HQ3.out
    clear HQ3
    subst hq3
    have hq2 := HQ2.out
    clear HQ2
    subst hq2
    have hq1 := HQ1.out
    clear HQ1
    subst hq1
    subst ha0
    go_simp
    repeat' (first | (go_big_may; first | (refine v_build rfl rfl bld_wrap0 ?hbv ?_; (case hbv => simp [Act.eval, Act.put])) | (refine v_fill rfl rfl row_wrap rfl rfl hM.at0 (wpl_vs _) rfl ?_; intro u hv hc; replace hM := hM.put0 hc hv; clear hv hc)) | go_values | go_skip | go_guarded | go_step | go_upon | (simp only [Int.not_lt, Int.not_le] at *; go_simp))
    exact bodyPost_ret (ret_2 rfl rfl (ld_var row_wrap hM.at0 rfl) rfl) rfl ⟨rfl, hM.below⟩
  have h31 : s.size = 31 := by omega
  have e1 : Hid (decide ((31 : Int) < (s.size : Int)) = false) := by show _ = _; simp; omega
  have E1 : Hid (decide (31 < s.size) = false) := by show _ = _; simp; omega
  clear hq
  by_cases hq4 : ¬ s.extract 0 4 = ⟨#[85, 83, 66, 67]⟩
  · have hne : Hid (decide (s.extract 0 4 ≠ ⟨#[85, 83, 66, 67]⟩) = true) := decide_eq_true hq4
    have hE := rd_err HS.out (by rw [Bool.eq_false_iff]; intro q; have q := (rf_iff s).1 q; exact hq4 ((four_iff (by omega)).2 q.2.1))
    have HE : Hid (rdC s = 4 ∧ rdW s = wp0) := hE
    rw [HE.out.1, HE.out.2]
    clear hE hm hm' h4 h12 h13 hb12 hb13 hb14 hn l0 l1 m0 m1 hq4 h31
    go_enter Try.func12, Try.ntmps12
    repeat' (first | (go_big_may; first | (refine v_alloc rfl zer_wrap rfl ?_; intro u za hN; replace hM := hM.new hN; clear hN)) | go_values | go_skip | go_guarded | go_step | go_upon | (simp only [Int.not_lt, Int.not_le] at *; go_simp))
    clear h14 e14
    refine reg.wp_abs (fun a0 => a0.tmps.size = 68 ∧ (∀ h, a0.tmps[0]'h = .string s) ∧ (∀ h, a0.tmps[4]'h = .int .i64 (n : Int))) ⟨rfl, fun _ => rfl, fun _ => rfl⟩ ?_
    rintro a0 ⟨hsz, s0, s4⟩ ha0
    refine reg.wp_region_E (S := fun W => Ls W []) (E := fun _ => false) (by kernel_rfl) ?_
    replace hM := hM.drew
    refine reg.any_q (fun _ _ _ _ _ h => h) ?_
    intro hQP
    refine reg.e_take (i := 0) (.string s) rfl (by kernel_rfl) (by kernel_rfl) (by kernel_rfl) (by kernel_rfl) (fun c a w h => hQP c _ _ w rfl h) (reg.wanted_none rfl) (hM.ls (by simp)) (fun W hW => by simp [execOp, go_sem, Act.put, hsz, s0, s4]) ?_
    refine reg.e_take (i := 1) (.int .i64 (s.size : Int)) rfl (by kernel_rfl) (by kernel_rfl) (by kernel_rfl) (by kernel_rfl) (fun c a w h => hQP c _ _ w rfl h) (reg.wanted_none rfl) (hM.ls (by simp)) (fun W hW => by simp [execOp, go_sem, Act.put, hsz, s0, s4]) ?_
    refine reg.e_take (i := 2) (.bool false) rfl (by kernel_rfl) (by kernel_rfl) (by kernel_rfl) (by kernel_rfl) (fun c a w h => hQP c _ _ w rfl h) (reg.wanted_none rfl) (hM.ls (by simp)) (fun W hW => by simp [execOp, go_sem, Act.put, hsz, s0, s4, e1.out, E1.out]) ?_
    refine reg.e_take (i := 3) (.bool false) rfl (by kernel_rfl) (by kernel_rfl) (by kernel_rfl) (by kernel_rfl) (fun c a w h => hQP c _ _ w rfl h) (reg.wanted_none rfl) (hM.ls (by simp)) (fun W hW => by simp [execOp, go_sem, Act.put, hsz, s0, s4]) ?_
    refine reg.e_take (i := 4) (.string s) rfl (by kernel_rfl) (by kernel_rfl) (by kernel_rfl) (by kernel_rfl) (fun c a w h => hQP c _ _ w rfl h) (reg.wanted_of 3 false 15 rfl (by kernel_rfl) (by simp [Act.put, hsz])) (hM.ls (by simp)) (fun W hW => by simp [execOp, go_sem, Act.put, hsz, s0, s4]) ?_
    refine reg.e_take (i := 5) (.string (s.extract 0 4)) rfl (by kernel_rfl) (by kernel_rfl) (by kernel_rfl) (by kernel_rfl) (fun c a w h => hQP c _ _ w rfl h) (reg.wanted_of 3 false 15 rfl (by kernel_rfl) (by simp [Act.put, hsz])) (hM.ls (by simp)) (fun W hW => by simp [execOp, go_sem, Act.put, hsz, s0, s4, H4.out]) ?_
    refine reg.any_list #[true, true, true, true, true, true, false, false, false, false, false, false, false, false, false, false, false, false, false, false, false, false, false, false, false, false, false, false, false, false, false, false, false, false, false, false, false, false] (by kernel_rfl) ?_
    refine reg.any_abs (fun q => q.tmps.size = 68 ∧ (∀ h, q.tmps[0]'h = .string s) ∧ (∀ h, q.tmps[4]'h = .int .i64 (n : Int)) ∧ (∀ h, q.tmps[15]'h = .bool false) ∧ (∀ h, q.tmps[17]'h = .string (s.extract 0 4))) ⟨by simp [Act.put, hsz, s0, s4], reg.at_of (by simp [Act.put, hsz, s0, s4]), reg.at_of (by simp [Act.put, hsz, s0, s4]), reg.at_of (by simp [Act.put, hsz, s0, s4]), reg.at_of (by simp [Act.put, hsz, s0, s4])⟩ ?_
    clear hsz s0 s4
    rintro q1 ⟨q1z, q1s0, q1s4, q1s15, q1s17⟩ hq1
    have HQ1 : Hid (q1 = _) := hq1
    clear hq1
    refine reg.e_take (i := 6) (.bool true) rfl (by kernel_rfl) (by kernel_rfl) (by kernel_rfl) (by kernel_rfl) (fun c a w h => hQP c _ _ w rfl h) (reg.wanted_of 3 false 15 rfl (by kernel_rfl) (by simp [Act.put, q1z, q1s0, q1s4, q1s15, q1s17])) (hM.ls (by simp)) (fun W hW => ex_neqs rfl (by simp [go_sem, Act.put, q1z, q1s0, q1s4, q1s15, q1s17]) (by simp [go_sem, Act.put, q1z, q1s0, q1s4, q1s15, q1s17]) hne.out) ?_
    refine reg.e_take (i := 7) (.bool true) rfl (by kernel_rfl) (by kernel_rfl) (by kernel_rfl) (by kernel_rfl) (fun c a w h => hQP c _ _ w rfl h) (reg.wanted_none rfl) (hM.ls (by simp)) (fun W hW => by simp [execOp, go_sem, Act.put, q1z, q1s0, q1s4, q1s15, q1s17]) ?_
    refine reg.e_take (i := 8) (.bool true) rfl (by kernel_rfl) (by kernel_rfl) (by kernel_rfl) (by kernel_rfl) (fun c a w h => hQP c _ _ w rfl h) (reg.wanted_none rfl) (hM.ls (by simp)) (fun W hW => by simp [execOp, go_sem, Act.put, q1z, q1s0, q1s4, q1s15, q1s17]) ?_
    refine reg.e_pass (i := 9) rfl (by kernel_rfl) (by kernel_rfl) (by kernel_rfl) (by kernel_rfl) (fun c a w h => hQP c _ _ w rfl h) (reg.unwanted_of 8 false 20 rfl (by kernel_rfl) (by simp [Act.put, q1z, q1s0, q1s4, q1s15, q1s17])) (hM.ls (by simp)) ?_
    refine reg.e_pass (i := 10) rfl (by kernel_rfl) (by kernel_rfl) (by kernel_rfl) (by kernel_rfl) (fun c a w h => hQP c _ _ w rfl h) (reg.unwanted_of 8 false 20 rfl (by kernel_rfl) (by simp [Act.put, q1z, q1s0, q1s4, q1s15, q1s17])) (hM.ls (by simp)) ?_
    refine reg.e_pass (i := 11) rfl (by kernel_rfl) (by kernel_rfl) (by kernel_rfl) (by kernel_rfl) (fun c a w h => hQP c _ _ w rfl h) (reg.unwanted_of 8 false 20 rfl (by kernel_rfl) (by simp [Act.put, q1z, q1s0, q1s4, q1s15, q1s17])) (hM.ls (by simp)) ?_
    refine reg.any_list #[true, true, true, true, true, true, true, true, true, true, true, true, false, false, false, false, false, false, false, false, false, false, false, false, false, false, false, false, false, false, false, false, false, false, false, false, false, false] (by kernel_rfl) ?_
    refine reg.any_abs (fun q => q.tmps.size = 68 ∧ (∀ h, q.tmps[0]'h = .string s) ∧ (∀ h, q.tmps[4]'h = .int .i64 (n : Int)) ∧ (∀ h, q.tmps[20]'h = .bool true) ∧ (∀ h, q.tmps[23]'h = undef)) ⟨by simp [Act.put, q1z, q1s0, q1s4, q1s15, q1s17], reg.at_of (by simp [Act.put, q1z, q1s0, q1s4, q1s15, q1s17]), reg.at_of (by simp [Act.put, q1z, q1s0, q1s4, q1s15, q1s17]), reg.at_of (by simp [Act.put, q1z, q1s0, q1s4, q1s15, q1s17]), reg.at_of (by simp [Act.put, q1z, q1s0, q1s4, q1s15, q1s17])⟩ ?_
    clear q1z q1s0 q1s4 q1s15 q1s17
    rintro q2 ⟨q2z, q2s0, q2s4, q2s20, q2s23⟩ hq2
    have HQ2 : Hid (q2 = _) := hq2
    clear hq2
    refine reg.e_pass (i := 12) rfl (by kernel_rfl) (by kernel_rfl) (by kernel_rfl) (by kernel_rfl) (fun c a w h => hQP c _ _ w rfl h) (reg.unwanted_of 8 false 20 rfl (by kernel_rfl) (by simp [Act.put, q2z, q2s0, q2s4, q2s20, q2s23])) (hM.ls (by simp)) ?_
    refine reg.e_pass (i := 13) rfl (by kernel_rfl) (by kernel_rfl) (by kernel_rfl) (by kernel_rfl) (fun c a w h => hQP c _ _ w rfl h) (reg.unwanted_und 12 true 24 rfl (by kernel_rfl) (by simp [Act.put, q2z, q2s0, q2s4, q2s20, q2s23])) (hM.ls (by simp)) ?_
    refine reg.e_pass (i := 14) rfl (by kernel_rfl) (by kernel_rfl) (by kernel_rfl) (by kernel_rfl) (fun c a w h => hQP c _ _ w rfl h) (reg.unwanted_und 12 true 24 rfl (by kernel_rfl) (by simp [Act.put, q2z, q2s0, q2s4, q2s20, q2s23])) (hM.ls (by simp)) ?_
    refine reg.e_pass (i := 15) rfl (by kernel_rfl) (by kernel_rfl) (by kernel_rfl) (by kernel_rfl) (fun c a w h => hQP c _ _ w rfl h) (reg.unwanted_und 12 true 24 rfl (by kernel_rfl) (by simp [Act.put, q2z, q2s0, q2s4, q2s20, q2s23])) (hM.ls (by simp)) ?_
    refine reg.e_pass (i := 16) rfl (by kernel_rfl) (by kernel_rfl) (by kernel_rfl) (by kernel_rfl) (fun c a w h => hQP c _ _ w rfl h) (reg.unwanted_of 8 false 20 rfl (by kernel_rfl) (by simp [Act.put, q2z, q2s0, q2s4, q2s20, q2s23])) (hM.ls (by simp)) ?_
    refine reg.e_take (i := 17) (.bool true) rfl (by kernel_rfl) (by kernel_rfl) (by kernel_rfl) (by kernel_rfl) (fun c a w h => hQP c _ _ w rfl h) (reg.wanted_none rfl) (hM.ls (by simp)) (fun W hW => by simp [execOp, go_sem, Act.put, q2z, q2s0, q2s4, q2s20, q2s23]) ?_
    refine reg.any_list #[true, true, true, true, true, true, true, true, true, true, true, true, true, true, true, true, true, true, false, false, false, false, false, false, false, false, false, false, false, false, false, false, false, false, false, false, false, false] (by kernel_rfl) ?_
    refine reg.any_abs (fun q => q.tmps.size = 68 ∧ (∀ h, q.tmps[0]'h = .string s) ∧ (∀ h, q.tmps[4]'h = .int .i64 (n : Int)) ∧ (∀ h, q.tmps[29]'h = .bool true)) ⟨by simp [Act.put, q2z, q2s0, q2s4, q2s20, q2s23], reg.at_of (by simp [Act.put, q2z, q2s0, q2s4, q2s20, q2s23]), reg.at_of (by simp [Act.put, q2z, q2s0, q2s4, q2s20, q2s23]), reg.at_of (by simp [Act.put, q2z, q2s0, q2s4, q2s20, q2s23])⟩ ?_
    clear q2z q2s0 q2s4 q2s20 q2s23
    rintro q3 ⟨q3z, q3s0, q3s4, q3s29⟩ hq3
    have HQ3 : Hid (q3 = _) := hq3
    clear hq3
    refine reg.e_take (i := 18) (.bool true) rfl (by kernel_rfl) (by kernel_rfl) (by kernel_rfl) (by kernel_rfl) (fun c a w h => hQP c _ _ w rfl h) (reg.wanted_none rfl) (hM.ls (by simp)) (fun W hW => by simp [execOp, go_sem, Act.put, q3z, q3s0, q3s4, q3s29]) ?_
    refine reg.e_pass (i := 19) rfl (by kernel_rfl) (by kernel_rfl) (by kernel_rfl) (by kernel_rfl) (fun c a w h => hQP c _ _ w rfl h) (reg.unwanted_of 18 false 30 rfl (by kernel_rfl) (by simp [Act.put, q3z, q3s0, q3s4, q3s29])) (hM.ls (by simp)) ?_
    refine reg.e_pass (i := 20) rfl (by kernel_rfl) (by kernel_rfl) (by kernel_rfl) (by kernel_rfl) (fun c a w h => hQP c _ _ w rfl h) (reg.unwanted_of 18 false 30 rfl (by kernel_rfl) (by simp [Act.put, q3z, q3s0, q3s4, q3s29])) (hM.ls (by simp)) ?_
    refine reg.e_pass (i := 21) rfl (by kernel_rfl) (by kernel_rfl) (by kernel_rfl) (by kernel_rfl) (fun c a w h => hQP c _ _ w rfl h) (reg.unwanted_of 18 false 30 rfl (by kernel_rfl) (by simp [Act.put, q3z, q3s0, q3s4, q3s29])) (hM.ls (by simp)) ?_
    refine reg.e_take (i := 22) (.bool true) rfl (by kernel_rfl) (by kernel_rfl) (by kernel_rfl) (by kernel_rfl) (fun c a w h => hQP c _ _ w rfl h) (reg.wanted_none rfl) (hM.ls (by simp)) (fun W hW => by simp [execOp, go_sem, Act.put, q3z, q3s0, q3s4, q3s29]) ?_
    refine reg.e_take (i := 23) (.bool true) rfl (by kernel_rfl) (by kernel_rfl) (by kernel_rfl) (by kernel_rfl) (fun c a w h => hQP c _ _ w rfl h) (reg.wanted_none rfl) (hM.ls (by simp)) (fun W hW => by simp [execOp, go_sem, Act.put, q3z, q3s0, q3s4, q3s29]) ?_
    refine reg.any_list #[true, true, true, true, true, true, true, true, true, true, true, true, true, true, true, true, true, true, true, true, true, true, true, true, false, false, false, false, false, false, false, false, false, false, false, false, false, false] (by kernel_rfl) ?_
    refine reg.any_abs (fun q => q.tmps.size = 68 ∧ (∀ h, q.tmps[0]'h = .string s) ∧ (∀ h, q.tmps[4]'h = .int .i64 (n : Int)) ∧ (∀ h, q.tmps[35]'h = .bool true)) ⟨by simp [Act.put, q3z, q3s0, q3s4, q3s29], reg.at_of (by simp [Act.put, q3z, q3s0, q3s4, q3s29]), reg.at_of (by simp [Act.put, q3z, q3s0, q3s4, q3s29]), reg.at_of (by simp [Act.put, q3z, q3s0, q3s4, q3s29])⟩ ?_
    clear q3z q3s0 q3s4 q3s29
    rintro q4 ⟨q4z, q4s0, q4s4, q4s35⟩ hq4
    have HQ4 : Hid (q4 = _) := hq4
    clear hq4
    refine reg.e_pass (i := 24) rfl (by kernel_rfl) (by kernel_rfl) (by kernel_rfl) (by kernel_rfl) (fun c a w h => hQP c _ _ w rfl h) (reg.unwanted_of 23 false 35 rfl (by kernel_rfl) (by simp [Act.put, q4z, q4s0, q4s4, q4s35])) (hM.ls (by simp)) ?_
    refine reg.e_pass (i := 25) rfl (by kernel_rfl) (by kernel_rfl) (by kernel_rfl) (by kernel_rfl) (fun c a w h => hQP c _ _ w rfl h) (reg.unwanted_of 23 false 35 rfl (by kernel_rfl) (by simp [Act.put, q4z, q4s0, q4s4, q4s35])) (hM.ls (by simp)) ?_
    refine reg.e_pass (i := 26) rfl (by kernel_rfl) (by kernel_rfl) (by kernel_rfl) (by kernel_rfl) (fun c a w h => hQP c _ _ w rfl h) (reg.unwanted_of 23 false 35 rfl (by kernel_rfl) (by simp [Act.put, q4z, q4s0, q4s4, q4s35])) (hM.ls (by simp)) ?_
    refine reg.e_take (i := 27) (.bool true) rfl (by kernel_rfl) (by kernel_rfl) (by kernel_rfl) (by kernel_rfl) (fun c a w h => hQP c _ _ w rfl h) (reg.wanted_none rfl) (hM.ls (by simp)) (fun W hW => by simp [execOp, go_sem, Act.put, q4z, q4s0, q4s4, q4s35]) ?_
    refine reg.e_take (i := 28) (.bool true) rfl (by kernel_rfl) (by kernel_rfl) (by kernel_rfl) (by kernel_rfl) (fun c a w h => hQP c _ _ w rfl h) (reg.wanted_none rfl) (hM.ls (by simp)) (fun W hW => by simp [execOp, go_sem, Act.put, q4z, q4s0, q4s4, q4s35]) ?_
    refine reg.e_pass (i := 29) rfl (by kernel_rfl) (by kernel_rfl) (by kernel_rfl) (by kernel_rfl) (fun c a w h => hQP c _ _ w rfl h) (reg.unwanted_of 28 false 40 rfl (by kernel_rfl) (by simp [Act.put, q4z, q4s0, q4s4, q4s35])) (hM.ls (by simp)) ?_
    refine reg.any_list #[true, true, true, true, true, true, true, true, true, true, true, true, true, true, true, true, true, true, true, true, true, true, true, true, true, true, true, true, true, true, false, false, false, false, false, false, false, false] (by kernel_rfl) ?_
    refine reg.any_abs (fun q => q.tmps.size = 68 ∧ (∀ h, q.tmps[4]'h = .int .i64 (n : Int)) ∧ (∀ h, q.tmps[40]'h = .bool true) ∧ (∀ h, q.tmps[41]'h = undef)) ⟨by simp [Act.put, q4z, q4s0, q4s4, q4s35], reg.at_of (by simp [Act.put, q4z, q4s0, q4s4, q4s35]), reg.at_of (by simp [Act.put, q4z, q4s0, q4s4, q4s35]), reg.at_of (by simp [Act.put, q4z, q4s0, q4s4, q4s35])⟩ ?_
    clear q4z q4s0 q4s4 q4s35
    rintro q5 ⟨q5z, q5s4, q5s40, q5s41⟩ hq5
    have HQ5 : Hid (q5 = _) := hq5
    clear hq5
    refine reg.e_pass (i := 30) rfl (by kernel_rfl) (by kernel_rfl) (by kernel_rfl) (by kernel_rfl) (fun c a w h => hQP c _ _ w rfl h) (reg.unwanted_of 28 false 40 rfl (by kernel_rfl) (by simp [Act.put, q5z, q5s4, q5s40, q5s41])) (hM.ls (by simp)) ?_
    refine reg.e_pass (i := 31) rfl (by kernel_rfl) (by kernel_rfl) (by kernel_rfl) (by kernel_rfl) (fun c a w h => hQP c _ _ w rfl h) (reg.unwanted_of 28 false 40 rfl (by kernel_rfl) (by simp [Act.put, q5z, q5s4, q5s40, q5s41])) (hM.ls (by simp)) ?_
    refine reg.e_pass (i := 32) rfl (by kernel_rfl) (by kernel_rfl) (by kernel_rfl) (by kernel_rfl) (fun c a w h => hQP c _ _ w rfl h) (reg.unwanted_of 28 false 40 rfl (by kernel_rfl) (by simp [Act.put, q5z, q5s4, q5s40, q5s41])) (hM.ls (by simp)) ?_
    refine reg.e_pass (i := 33) rfl (by kernel_rfl) (by kernel_rfl) (by kernel_rfl) (by kernel_rfl) (fun c a w h => hQP c _ _ w rfl h) (reg.unwanted_of 28 false 40 rfl (by kernel_rfl) (by simp [Act.put, q5z, q5s4, q5s40, q5s41])) (hM.ls (by simp)) ?_
    refine reg.e_pass (i := 34) rfl (by kernel_rfl) (by kernel_rfl) (by kernel_rfl) (by kernel_rfl) (fun c a w h => hQP c _ _ w rfl h) (reg.unwanted_of 28 false 40 rfl (by kernel_rfl) (by simp [Act.put, q5z, q5s4, q5s40, q5s41])) (hM.ls (by simp)) ?_
    refine reg.e_pass (i := 35) rfl (by kernel_rfl) (by kernel_rfl) (by kernel_rfl) (by kernel_rfl) (fun c a w h => hQP c _ _ w rfl h) (reg.unwanted_of 28 false 40 rfl (by kernel_rfl) (by simp [Act.put, q5z, q5s4, q5s40, q5s41])) (hM.ls (by simp)) ?_
    refine reg.any_list #[true, true, true, true, true, true, true, true, true, true, true, true, true, true, true, true, true, true, true, true, true, true, true, true, true, true, true, true, true, true, true, true, true, true, true, true, false, false] (by kernel_rfl) ?_
    refine reg.any_abs (fun q => q.tmps.size = 68 ∧ (∀ h, q.tmps[40]'h = .bool true) ∧ (∀ h, q.tmps[44]'h = undef) ∧ (∀ h, q.tmps[47]'h = undef)) ⟨by simp [Act.put, q5z, q5s4, q5s40, q5s41], reg.at_of (by simp [Act.put, q5z, q5s4, q5s40, q5s41]), reg.at_of (by simp [Act.put, q5z, q5s4, q5s40, q5s41]), reg.at_of (by simp [Act.put, q5z, q5s4, q5s40, q5s41])⟩ ?_
    clear q5z q5s4 q5s40 q5s41
    rintro q6 ⟨q6z, q6s40, q6s44, q6s47⟩ hq6
    have HQ6 : Hid (q6 = _) := hq6
    clear hq6
    refine reg.e_pass (i := 36) rfl (by kernel_rfl) (by kernel_rfl) (by kernel_rfl) (by kernel_rfl) (fun c a w h => hQP c _ _ w rfl h) (reg.unwanted_of 28 false 40 rfl (by kernel_rfl) (by simp [Act.put, q6z, q6s40, q6s44, q6s47])) (hM.ls (by simp)) ?_
    refine reg.e_take (i := 37) (.bool true) rfl (by kernel_rfl) (by kernel_rfl) (by kernel_rfl) (by kernel_rfl) (fun c a w h => hQP c _ _ w rfl h) (reg.wanted_none rfl) (hM.ls (by simp)) (fun W hW => by simp [execOp, go_sem, Act.put, q6z, q6s40, q6s44, q6s47]) ?_
    clear hQP
    refine reg.e_done (by kernel_rfl) ?_ _
    clear q6z q6s40 q6s44 q6s47
    have hq6 := HQ6.out
    clear HQ6
    subst hq6
    have hq5 := HQ5.out
    clear HQ5
    subst hq5
    have hq4 := HQ4.out
    clear HQ4
    subst hq4
    have hq3 := HQ3.out
    clear HQ3
    subst hq3
    have hq2 := HQ2.out
    clear HQ2
    subst hq2
    have hq1 := HQ1.out
    clear HQ1
    subst hq1
    subst ha0
    go_simp
    repeat' (first | (go_big_may; first | (refine v_build rfl rfl bld_wrap0 ?hbv ?_; (case hbv => simp [Act.eval, Act.put])) | (refine v_fill rfl rfl row_wrap rfl rfl hM.at0 (wpl_vs _) rfl ?_; intro u hv hc; replace hM := hM.put0 hc hv; clear hv hc)) | go_values | go_skip | go_guarded | go_step | go_upon | (simp only [Int.not_lt, Int.not_le] at *; go_simp))
    exact bodyPost_ret (ret_2 rfl rfl (ld_var row_wrap hM.at0 rfl) rfl) rfl ⟨rfl, hM.below⟩
  have hq4 : s.extract 0 4 = ⟨#[85, 83, 66, 67]⟩ := Classical.not_not.1 hq4
  have hne : Hid (decide (s.extract 0 4 ≠ ⟨#[85, 83, 66, 67]⟩) = false) := decide_eq_false (fun q => q hq4)
  by_cases hq12 : ¬ (bt s 12 = 0 ∨ bt s 12 = 128)
  · have e3 : Hid ((bt s 12 != 0) = true) := by show _ = _; rw [bne_iff_ne]; exact fun q => hq12 (.inl q)
    have e4 : Hid ((bt s 12 != 128) = true) := by show _ = _; rw [bne_iff_ne]; exact fun q => hq12 (.inr q)
    have hE := rd_err HS.out (by rw [Bool.eq_false_iff]; intro q; have q := (rf_iff s).1 q; exact hq12 (by rw [hb12]; exact q.2.2.1))
    have HE : Hid (rdC s = 4 ∧ rdW s = wp0) := hE
    rw [HE.out.1, HE.out.2]
    clear hE hm hm' h4 h12 h13 hb12 hb13 hb14 hn l0 l1 m0 m1 hq4 h31 hq12
    go_enter Try.func12, Try.ntmps12
    repeat' (first | (go_big_may; first | (refine v_alloc rfl zer_wrap rfl ?_; intro u za hN; replace hM := hM.new hN; clear hN)) | go_values | go_skip | go_guarded | go_step | go_upon | (simp only [Int.not_lt, Int.not_le] at *; go_simp))
    clear h14 e14
    refine reg.wp_abs (fun a0 => a0.tmps.size = 68 ∧ (∀ h, a0.tmps[0]'h = .string s) ∧ (∀ h, a0.tmps[4]'h = .int .i64 (n : Int))) ⟨rfl, fun _ => rfl, fun _ => rfl⟩ ?_
    rintro a0 ⟨hsz, s0, s4⟩ ha0
    refine reg.wp_region_E (S := fun W => Ls W []) (E := fun _ => false) (by kernel_rfl) ?_
    replace hM := hM.drew
    refine reg.any_q (fun _ _ _ _ _ h => h) ?_
    intro hQP
    refine reg.e_take (i := 0) (.string s) rfl (by kernel_rfl) (by kernel_rfl) (by kernel_rfl) (by kernel_rfl) (fun c a w h => hQP c _ _ w rfl h) (reg.wanted_none rfl) (hM.ls (by simp)) (fun W hW => by simp [execOp, go_sem, Act.put, hsz, s0, s4]) ?_
    refine reg.e_take (i := 1) (.int .i64 (s.size : Int)) rfl (by kernel_rfl) (by kernel_rfl) (by kernel_rfl) (by kernel_rfl) (fun c a w h => hQP c _ _ w rfl h) (reg.wanted_none rfl) (hM.ls (by simp)) (fun W hW => by simp [execOp, go_sem, Act.put, hsz, s0, s4]) ?_
    refine reg.e_take (i := 2) (.bool false) rfl (by kernel_rfl) (by kernel_rfl) (by kernel_rfl) (by kernel_rfl) (fun c a w h => hQP c _ _ w rfl h) (reg.wanted_none rfl) (hM.ls (by simp)) (fun W hW => by simp [execOp, go_sem, Act.put, hsz, s0, s4, e1.out, E1.out]) ?_
    refine reg.e_take (i := 3) (.bool false) rfl (by kernel_rfl) (by kernel_rfl) (by kernel_rfl) (by kernel_rfl) (fun c a w h => hQP c _ _ w rfl h) (reg.wanted_none rfl) (hM.ls (by simp)) (fun W hW => by simp [execOp, go_sem, Act.put, hsz, s0, s4]) ?_
    refine reg.e_take (i := 4) (.string s) rfl (by kernel_rfl) (by kernel_rfl) (by kernel_rfl) (by kernel_rfl) (fun c a w h => hQP c _ _ w rfl h) (reg.wanted_of 3 false 15 rfl (by kernel_rfl) (by simp [Act.put, hsz])) (hM.ls (by simp)) (fun W hW => by simp [execOp, go_sem, Act.put, hsz, s0, s4]) ?_
    refine reg.e_take (i := 5) (.string (s.extract 0 4)) rfl (by kernel_rfl) (by kernel_rfl) (by kernel_rfl) (by kernel_rfl) (fun c a w h => hQP c _ _ w rfl h) (reg.wanted_of 3 false 15 rfl (by kernel_rfl) (by simp [Act.put, hsz])) (hM.ls (by simp)) (fun W hW => by simp [execOp, go_sem, Act.put, hsz, s0, s4, H4.out]) ?_
    refine reg.any_list #[true, true, true, true, true, true, false, false, false, false, false, false, false, false, false, false, false, false, false, false, false, false, false, false, false, false, false, false, false, false, false, false, false, false, false, false, false, false] (by kernel_rfl) ?_
    refine reg.any_abs (fun q => q.tmps.size = 68 ∧ (∀ h, q.tmps[0]'h = .string s) ∧ (∀ h, q.tmps[4]'h = .int .i64 (n : Int)) ∧ (∀ h, q.tmps[15]'h = .bool false) ∧ (∀ h, q.tmps[17]'h = .string (s.extract 0 4))) ⟨by simp [Act.put, hsz, s0, s4], reg.at_of (by simp [Act.put, hsz, s0, s4]), reg.at_of (by simp [Act.put, hsz, s0, s4]), reg.at_of (by simp [Act.put, hsz, s0, s4]), reg.at_of (by simp [Act.put, hsz, s0, s4])⟩ ?_
    clear hsz s0 s4
    rintro q1 ⟨q1z, q1s0, q1s4, q1s15, q1s17⟩ hq1
    have HQ1 : Hid (q1 = _) := hq1
    clear hq1
    refine reg.e_take (i := 6) (.bool false) rfl (by kernel_rfl) (by kernel_rfl) (by kernel_rfl) (by kernel_rfl) (fun c a w h => hQP c _ _ w rfl h) (reg.wanted_of 3 false 15 rfl (by kernel_rfl) (by simp [Act.put, q1z, q1s0, q1s4, q1s15, q1s17])) (hM.ls (by simp)) (fun W hW => ex_neqs rfl (by simp [go_sem, Act.put, q1z, q1s0, q1s4, q1s15, q1s17]) (by simp [go_sem, Act.put, q1z, q1s0, q1s4, q1s15, q1s17]) hne.out) ?_
    refine reg.e_take (i := 7) (.bool false) rfl (by kernel_rfl) (by kernel_rfl) (by kernel_rfl) (by kernel_rfl) (fun c a w h => hQP c _ _ w rfl h) (reg.wanted_none rfl) (hM.ls (by simp)) (fun W hW => by simp [execOp, go_sem, Act.put, q1z, q1s0, q1s4, q1s15, q1s17]) ?_
    refine reg.e_take (i := 8) (.bool false) rfl (by kernel_rfl) (by kernel_rfl) (by kernel_rfl) (by kernel_rfl) (fun c a w h => hQP c _ _ w rfl h) (reg.wanted_none rfl) (hM.ls (by simp)) (fun W hW => by simp [execOp, go_sem, Act.put, q1z, q1s0, q1s4, q1s15, q1s17]) ?_
    refine reg.e_take (i := 9) (.string s) rfl (by kernel_rfl) (by kernel_rfl) (by kernel_rfl) (by kernel_rfl) (fun c a w h => hQP c _ _ w rfl h) (reg.wanted_of 8 false 20 rfl (by kernel_rfl) (by simp [Act.put, q1z, q1s0, q1s4, q1s15, q1s17])) (hM.ls (by simp)) (fun W hW => by simp [execOp, go_sem, Act.put, q1z, q1s0, q1s4, q1s15, q1s17]) ?_
    refine reg.e_take (i := 10) (.int .u8 (bt s 12)) rfl (by kernel_rfl) (by kernel_rfl) (by kernel_rfl) (by kernel_rfl) (fun c a w h => hQP c _ _ w rfl h) (reg.wanted_of 8 false 20 rfl (by kernel_rfl) (by simp [Act.put, q1z, q1s0, q1s4, q1s15, q1s17])) (hM.ls (by simp)) (fun W hW => by simp [execOp, go_sem, Act.put, q1z, q1s0, q1s4, q1s15, q1s17, H12.out]) ?_
    refine reg.e_take (i := 11) (.bool true) rfl (by kernel_rfl) (by kernel_rfl) (by kernel_rfl) (by kernel_rfl) (fun c a w h => hQP c _ _ w rfl h) (reg.wanted_of 8 false 20 rfl (by kernel_rfl) (by simp [Act.put, q1z, q1s0, q1s4, q1s15, q1s17])) (hM.ls (by simp)) (fun W hW => by simp [execOp, go_sem, Act.put, q1z, q1s0, q1s4, q1s15, q1s17, e3.out]) ?_
    refine reg.any_list #[true, true, true, true, true, true, true, true, true, true, true, true, false, false, false, false, false, false, false, false, false, false, false, false, false, false, false, false, false, false, false, false, false, false, false, false, false, false] (by kernel_rfl) ?_
    refine reg.any_abs (fun q => q.tmps.size = 68 ∧ (∀ h, q.tmps[0]'h = .string s) ∧ (∀ h, q.tmps[4]'h = .int .i64 (n : Int)) ∧ (∀ h, q.tmps[20]'h = .bool false) ∧ (∀ h, q.tmps[23]'h = .bool true)) ⟨by simp [Act.put, q1z, q1s0, q1s4, q1s15, q1s17], reg.at_of (by simp [Act.put, q1z, q1s0, q1s4, q1s15, q1s17]), reg.at_of (by simp [Act.put, q1z, q1s0, q1s4, q1s15, q1s17]), reg.at_of (by simp [Act.put, q1z, q1s0, q1s4, q1s15, q1s17]), reg.at_of (by simp [Act.put, q1z, q1s0, q1s4, q1s15, q1s17])⟩ ?_
    clear q1z q1s0 q1s4 q1s15 q1s17
    rintro q2 ⟨q2z, q2s0, q2s4, q2s20, q2s23⟩ hq2
    have HQ2 : Hid (q2 = _) := hq2
    clear hq2
    refine reg.e_take (i := 12) (.bool true) rfl (by kernel_rfl) (by kernel_rfl) (by kernel_rfl) (by kernel_rfl) (fun c a w h => hQP c _ _ w rfl h) (reg.wanted_of 8 false 20 rfl (by kernel_rfl) (by simp [Act.put, q2z, q2s0, q2s4, q2s20, q2s23])) (hM.ls (by simp)) (fun W hW => by simp [execOp, go_sem, Act.put, q2z, q2s0, q2s4, q2s20, q2s23]) ?_
    refine reg.e_take (i := 13) (.string s) rfl (by kernel_rfl) (by kernel_rfl) (by kernel_rfl) (by kernel_rfl) (fun c a w h => hQP c _ _ w rfl h) (reg.wanted_of 12 true 24 rfl (by kernel_rfl) (by simp [Act.put, q2z, q2s0, q2s4, q2s20, q2s23])) (hM.ls (by simp)) (fun W hW => by simp [execOp, go_sem, Act.put, q2z, q2s0, q2s4, q2s20, q2s23]) ?_
    refine reg.e_take (i := 14) (.int .u8 (bt s 12)) rfl (by kernel_rfl) (by kernel_rfl) (by kernel_rfl) (by kernel_rfl) (fun c a w h => hQP c _ _ w rfl h) (reg.wanted_of 12 true 24 rfl (by kernel_rfl) (by simp [Act.put, q2z, q2s0, q2s4, q2s20, q2s23])) (hM.ls (by simp)) (fun W hW => by simp [execOp, go_sem, Act.put, q2z, q2s0, q2s4, q2s20, q2s23, H12.out]) ?_
    refine reg.e_take (i := 15) (.bool true) rfl (by kernel_rfl) (by kernel_rfl) (by kernel_rfl) (by kernel_rfl) (fun c a w h => hQP c _ _ w rfl h) (reg.wanted_of 12 true 24 rfl (by kernel_rfl) (by simp [Act.put, q2z, q2s0, q2s4, q2s20, q2s23])) (hM.ls (by simp)) (fun W hW => by simp [execOp, go_sem, Act.put, q2z, q2s0, q2s4, q2s20, q2s23, e4.out]) ?_
    refine reg.e_take (i := 16) (.bool true) rfl (by kernel_rfl) (by kernel_rfl) (by kernel_rfl) (by kernel_rfl) (fun c a w h => hQP c _ _ w rfl h) (reg.wanted_of 8 false 20 rfl (by kernel_rfl) (by simp [Act.put, q2z, q2s0, q2s4, q2s20, q2s23])) (hM.ls (by simp)) (fun W hW => by simp [execOp, go_sem, Act.put, q2z, q2s0, q2s4, q2s20, q2s23]) ?_
    refine reg.e_take (i := 17) (.bool true) rfl (by kernel_rfl) (by kernel_rfl) (by kernel_rfl) (by kernel_rfl) (fun c a w h => hQP c _ _ w rfl h) (reg.wanted_none rfl) (hM.ls (by simp)) (fun W hW => by simp [execOp, go_sem, Act.put, q2z, q2s0, q2s4, q2s20, q2s23]) ?_
    refine reg.any_list #[true, true, true, true, true, true, true, true, true, true, true, true, true, true, true, true, true, true, false, false, false, false, false, false, false, false, false, false, false, false, false, false, false, false, false, false, false, false] (by kernel_rfl) ?_
    refine reg.any_abs (fun q => q.tmps.size = 68 ∧ (∀ h, q.tmps[0]'h = .string s) ∧ (∀ h, q.tmps[4]'h = .int .i64 (n : Int)) ∧ (∀ h, q.tmps[29]'h = .bool true)) ⟨by simp [Act.put, q2z, q2s0, q2s4, q2s20, q2s23], reg.at_of (by simp [Act.put, q2z, q2s0, q2s4, q2s20, q2s23]), reg.at_of (by simp [Act.put, q2z, q2s0, q2s4, q2s20, q2s23]), reg.at_of (by simp [Act.put, q2z, q2s0, q2s4, q2s20, q2s23])⟩ ?_
    clear q2z q2s0 q2s4 q2s20 q2s23
    rintro q3 ⟨q3z, q3s0, q3s4, q3s29⟩ hq3
    have HQ3 : Hid (q3 = _) := hq3
    clear hq3
    refine reg.e_take (i := 18) (.bool true) rfl (by kernel_rfl) (by kernel_rfl) (by kernel_rfl) (by kernel_rfl) (fun c a w h => hQP c _ _ w rfl h) (reg.wanted_none rfl) (hM.ls (by simp)) (fun W hW => by simp [execOp, go_sem, Act.put, q3z, q3s0, q3s4, q3s29]) ?_
    refine reg.e_pass (i := 19) rfl (by kernel_rfl) (by kernel_rfl) (by kernel_rfl) (by kernel_rfl) (fun c a w h => hQP c _ _ w rfl h) (reg.unwanted_of 18 false 30 rfl (by kernel_rfl) (by simp [Act.put, q3z, q3s0, q3s4, q3s29])) (hM.ls (by simp)) ?_
    refine reg.e_pass (i := 20) rfl (by kernel_rfl) (by kernel_rfl) (by kernel_rfl) (by kernel_rfl) (fun c a w h => hQP c _ _ w rfl h) (reg.unwanted_of 18 false 30 rfl (by kernel_rfl) (by simp [Act.put, q3z, q3s0, q3s4, q3s29])) (hM.ls (by simp)) ?_
    refine reg.e_pass (i := 21) rfl (by kernel_rfl) (by kernel_rfl) (by kernel_rfl) (by kernel_rfl) (fun c a w h => hQP c _ _ w rfl h) (reg.unwanted_of 18 false 30 rfl (by kernel_rfl) (by simp [Act.put, q3z, q3s0, q3s4, q3s29])) (hM.ls (by simp)) ?_
    refine reg.e_take (i := 22) (.bool true) rfl (by kernel_rfl) (by kernel_rfl) (by kernel_rfl) (by kernel_rfl) (fun c a w h => hQP c _ _ w rfl h) (reg.wanted_none rfl) (hM.ls (by simp)) (fun W hW => by simp [execOp, go_sem, Act.put, q3z, q3s0, q3s4, q3s29]) ?_
    refine reg.e_take (i := 23) (.bool true) rfl (by kernel_rfl) (by kernel_rfl) (by kernel_rfl) (by kernel_rfl) (fun c a w h => hQP c _ _ w rfl h) (reg.wanted_none rfl) (hM.ls (by simp)) (fun W hW => by simp [execOp, go_sem, Act.put, q3z, q3s0, q3s4, q3s29]) ?_
    refine reg.any_list #[true, true, true, true, true, true, true, true, true, true, true, true, true, true, true, true, true, true, true, true, true, true, true, true, false, false, false, false, false, false, false, false, false, false, false, false, false, false] (by kernel_rfl) ?_
    refine reg.any_abs (fun q => q.tmps.size = 68 ∧ (∀ h, q.tmps[0]'h = .string s) ∧ (∀ h, q.tmps[4]'h = .int .i64 (n : Int)) ∧ (∀ h, q.tmps[35]'h = .bool true)) ⟨by simp [Act.put, q3z, q3s0, q3s4, q3s29], reg.at_of (by simp [Act.put, q3z, q3s0, q3s4, q3s29]), reg.at_of (by simp [Act.put, q3z, q3s0, q3s4, q3s29]), reg.at_of (by simp [Act.put, q3z, q3s0, q3s4, q3s29])⟩ ?_
    clear q3z q3s0 q3s4 q3s29
    rintro q4 ⟨q4z, q4s0, q4s4, q4s35⟩ hq4
    have HQ4 : Hid (q4 = _) := hq4
    clear hq4
    refine reg.e_pass (i := 24) rfl (by kernel_rfl) (by kernel_rfl) (by kernel_rfl) (by kernel_rfl) (fun c a w h => hQP c _ _ w rfl h) (reg.unwanted_of 23 false 35 rfl (by kernel_rfl) (by simp [Act.put, q4z, q4s0, q4s4, q4s35])) (hM.ls (by simp)) ?_
    refine reg.e_pass (i := 25) rfl (by kernel_rfl) (by kernel_rfl) (by kernel_rfl) (by kernel_rfl) (fun c a w h => hQP c _ _ w rfl h) (reg.unwanted_of 23 false 35 rfl (by kernel_rfl) (by simp [Act.put, q4z, q4s0, q4s4, q4s35])) (hM.ls (by simp)) ?_
    refine reg.e_pass (i := 26) rfl (by kernel_rfl) (by kernel_rfl) (by kernel_rfl) (by kernel_rfl) (fun c a w h => hQP c _ _ w rfl h) (reg.unwanted_of 23 false 35 rfl (by kernel_rfl) (by simp [Act.put, q4z, q4s0, q4s4, q4s35])) (hM.ls (by simp)) ?_
    refine reg.e_take (i := 27) (.bool true) rfl (by kernel_rfl) (by kernel_rfl) (by kernel_rfl) (by kernel_rfl) (fun c a w h => hQP c _ _ w rfl h) (reg.wanted_none rfl) (hM.ls (by simp)) (fun W hW => by simp [execOp, go_sem, Act.put, q4z, q4s0, q4s4, q4s35]) ?_
    refine reg.e_take (i := 28) (.bool true) rfl (by kernel_rfl) (by kernel_rfl) (by kernel_rfl) (by kernel_rfl) (fun c a w h => hQP c _ _ w rfl h) (reg.wanted_none rfl) (hM.ls (by simp)) (fun W hW => by simp [execOp, go_sem, Act.put, q4z, q4s0, q4s4, q4s35]) ?_
    refine reg.e_pass (i := 29) rfl (by kernel_rfl) (by kernel_rfl) (by kernel_rfl) (by kernel_rfl) (fun c a w h => hQP c _ _ w rfl h) (reg.unwanted_of 28 false 40 rfl (by kernel_rfl) (by simp [Act.put, q4z, q4s0, q4s4, q4s35])) (hM.ls (by simp)) ?_
    refine reg.any_list #[true, true, true, true, true, true, true, true, true, true, true, true, true, true, true, true, true, true, true, true, true, true, true, true, true, true, true, true, true, true, false, false, false, false, false, false, false, false] (by kernel_rfl) ?_
    refine reg.any_abs (fun q => q.tmps.size = 68 ∧ (∀ h, q.tmps[4]'h = .int .i64 (n : Int)) ∧ (∀ h, q.tmps[40]'h = .bool true) ∧ (∀ h, q.tmps[41]'h = undef)) ⟨by simp [Act.put, q4z, q4s0, q4s4, q4s35], reg.at_of (by simp [Act.put, q4z, q4s0, q4s4, q4s35]), reg.at_of (by simp [Act.put, q4z, q4s0, q4s4, q4s35]), reg.at_of (by simp [Act.put, q4z, q4s0, q4s4, q4s35])⟩ ?_
    clear q4z q4s0 q4s4 q4s35
    rintro q5 ⟨q5z, q5s4, q5s40, q5s41⟩ hq5
    have HQ5 : Hid (q5 = _) := hq5
    clear hq5
    refine reg.e_pass (i := 30) rfl (by kernel_rfl) (by kernel_rfl) (by kernel_rfl) (by kernel_rfl) (fun c a w h => hQP c _ _ w rfl h) (reg.unwanted_of 28 false 40 rfl (by kernel_rfl) (by simp [Act.put, q5z, q5s4, q5s40, q5s41])) (hM.ls (by simp)) ?_
    refine reg.e_pass (i := 31) rfl (by kernel_rfl) (by kernel_rfl) (by kernel_rfl) (by kernel_rfl) (fun c a w h => hQP c _ _ w rfl h) (reg.unwanted_of 28 false 40 rfl (by kernel_rfl) (by simp [Act.put, q5z, q5s4, q5s40, q5s41])) (hM.ls (by simp)) ?_
    refine reg.e_pass (i := 32) rfl (by kernel_rfl) (by kernel_rfl) (by kernel_rfl) (by kernel_rfl) (fun c a w h => hQP c _ _ w rfl h) (reg.unwanted_of 28 false 40 rfl (by kernel_rfl) (by simp [Act.put, q5z, q5s4, q5s40, q5s41])) (hM.ls (by simp)) ?_
    refine reg.e_pass (i := 33) rfl (by kernel_rfl) (by kernel_rfl) (by kernel_rfl) (by kernel_rfl) (fun c a w h => hQP c _ _ w rfl h) (reg.unwanted_of 28 false 40 rfl (by kernel_rfl) (by simp [Act.put, q5z, q5s4, q5s40, q5s41])) (hM.ls (by simp)) ?_
    refine reg.e_pass (i := 34) rfl (by kernel_rfl) (by kernel_rfl) (by kernel_rfl) (by kernel_rfl) (fun c a w h => hQP c _ _ w rfl h) (reg.unwanted_of 28 false 40 rfl (by kernel_rfl) (by simp [Act.put, q5z, q5s4, q5s40, q5s41])) (hM.ls (by simp)) ?_
    refine reg.e_pass (i := 35) rfl (by kernel_rfl) (by kernel_rfl) (by kernel_rfl) (by kernel_rfl) (fun c a w h => hQP c _ _ w rfl h) (reg.unwanted_of 28 false 40 rfl (by kernel_rfl) (by simp [Act.put, q5z, q5s4, q5s40, q5s41])) (hM.ls (by simp)) ?_
    refine reg.any_list #[true, true, true, true, true, true, true, true, true, true, true, true, true, true, true, true, true, true, true, true, true, true, true, true, true, true, true, true, true, true, true, true, true, true, true, true, false, false] (by kernel_rfl) ?_
    refine reg.any_abs (fun q => q.tmps.size = 68 ∧ (∀ h, q.tmps[40]'h = .bool true) ∧ (∀ h, q.tmps[44]'h = undef) ∧ (∀ h, q.tmps[47]'h = undef)) ⟨by simp [Act.put, q5z, q5s4, q5s40, q5s41], reg.at_of (by simp [Act.put, q5z, q5s4, q5s40, q5s41]), reg.at_of (by simp [Act.put, q5z, q5s4, q5s40, q5s41]), reg.at_of (by simp [Act.put, q5z, q5s4, q5s40, q5s41])⟩ ?_
    clear q5z q5s4 q5s40 q5s41
    rintro q6 ⟨q6z, q6s40, q6s44, q6s47⟩ hq6
    have HQ6 : Hid (q6 = _) := hq6
    clear hq6
    refine reg.e_pass (i := 36) rfl (by kernel_rfl) (by kernel_rfl) (by kernel_rfl) (by kernel_rfl) (fun c a w h => hQP c _ _ w rfl h) (reg.unwanted_of 28 false 40 rfl (by kernel_rfl) (by simp [Act.put, q6z, q6s40, q6s44, q6s47])) (hM.ls (by simp)) ?_
    refine reg.e_take (i := 37) (.bool true) rfl (by kernel_rfl) (by kernel_rfl) (by kernel_rfl) (by kernel_rfl) (fun c a w h => hQP c _ _ w rfl h) (reg.wanted_none rfl) (hM.ls (by simp)) (fun W hW => by simp [execOp, go_sem, Act.put, q6z, q6s40, q6s44, q6s47]) ?_
    clear hQP
    refine reg.e_done (by kernel_rfl) ?_ _
    clear q6z q6s40 q6s44 q6s47
    have hq6 := HQ6.out
    clear HQ6
    subst hq6
    have hq5 := HQ5.out
    clear HQ5
    subst hq5
    have hq4 := HQ4.out
    clear HQ4
    subst hq4
    have hq3 := HQ3.out
    clear HQ3
    subst hq3
    have hq2 := HQ2.out
    clear HQ2
    subst hq2
    have hq1 := HQ1.out
    clear HQ1
    subst hq1
    subst ha0
    go_simp
    repeat' (first | (go_big_may; first | (refine v_build rfl rfl bld_wrap0 ?hbv ?_; (case hbv => simp [Act.eval, Act.put])) | (refine v_fill rfl rfl row_wrap rfl rfl hM.at0 (wpl_vs _) rfl ?_; intro u hv hc; replace hM := hM.put0 hc hv; clear hv hc)) | go_values | go_skip | go_guarded | go_step | go_upon | (simp only [Int.not_lt, Int.not_le] at *; go_simp))
    exact bodyPost_ret (ret_2 rfl rfl (ld_var row_wrap hM.at0 rfl) rfl) rfl ⟨rfl, hM.below⟩
  have hq12 : bt s 12 = 0 ∨ bt s 12 = 128 := Classical.not_not.1 hq12
  rcases hq12 with hq12 | hq12
  · have e3 : Hid ((bt s 12 != 0) = false) := by show _ = _; rw [hq12]; rfl
    by_cases hq13 : 15 < bt s 13
    · have e5 : Hid (decide (15 < bt s 13) = true) := decide_eq_true hq13
      have hE := rd_err HS.out (by rw [Bool.eq_false_iff]; intro q; have q := (rf_iff s).1 q; rw [← hb13] at q; omega)
      have HE : Hid (rdC s = 4 ∧ rdW s = wp0) := hE
      rw [HE.out.1, HE.out.2]
      clear hE hm hm' h4 h12 h13 hb12 hb13 hb14 hn l0 l1 m0 m1 hq4 h31 hq12 hq13
      go_enter Try.func12, Try.ntmps12
      repeat' (first | (go_big_may; first | (refine v_alloc rfl zer_wrap rfl ?_; intro u za hN; replace hM := hM.new hN; clear hN)) | go_values | go_skip | go_guarded | go_step | go_upon | (simp only [Int.not_lt, Int.not_le] at *; go_simp))
      clear h14 e14
      refine reg.wp_abs (fun a0 => a0.tmps.size = 68 ∧ (∀ h, a0.tmps[0]'h = .string s) ∧ (∀ h, a0.tmps[4]'h = .int .i64 (n : Int))) ⟨rfl, fun _ => rfl, fun _ => rfl⟩ ?_
      rintro a0 ⟨hsz, s0, s4⟩ ha0
      refine reg.wp_region_E (S := fun W => Ls W []) (E := fun _ => false) (by kernel_rfl) ?_
      replace hM := hM.drew
      refine reg.any_q (fun _ _ _ _ _ h => h) ?_
      intro hQP
      refine reg.e_take (i := 0) (.string s) rfl (by kernel_rfl) (by kernel_rfl) (by kernel_rfl) (by kernel_rfl) (fun c a w h => hQP c _ _ w rfl h) (reg.wanted_none rfl) (hM.ls (by simp)) (fun W hW => by simp [execOp, go_sem, Act.put, hsz, s0, s4]) ?_
      refine reg.e_take (i := 1) (.int .i64 (s.size : Int)) rfl (by kernel_rfl) (by kernel_rfl) (by kernel_rfl) (by kernel_rfl) (fun c a w h => hQP c _ _ w rfl h) (reg.wanted_none rfl) (hM.ls (by simp)) (fun W hW => by simp [execOp, go_sem, Act.put, hsz, s0, s4]) ?_
      refine reg.e_take (i := 2) (.bool false) rfl (by kernel_rfl) (by kernel_rfl) (by kernel_rfl) (by kernel_rfl) (fun c a w h => hQP c _ _ w rfl h) (reg.wanted_none rfl) (hM.ls (by simp)) (fun W hW => by simp [execOp, go_sem, Act.put, hsz, s0, s4, e1.out, E1.out]) ?_
      refine reg.e_take (i := 3) (.bool false) rfl (by kernel_rfl) (by kernel_rfl) (by kernel_rfl) (by kernel_rfl) (fun c a w h => hQP c _ _ w rfl h) (reg.wanted_none rfl) (hM.ls (by simp)) (fun W hW => by simp [execOp, go_sem, Act.put, hsz, s0, s4]) ?_
      refine reg.e_take (i := 4) (.string s) rfl (by kernel_rfl) (by kernel_rfl) (by kernel_rfl) (by kernel_rfl) (fun c a w h => hQP c _ _ w rfl h) (reg.wanted_of 3 false 15 rfl (by kernel_rfl) (by simp [Act.put, hsz])) (hM.ls (by simp)) (fun W hW => by simp [execOp, go_sem, Act.put, hsz, s0, s4]) ?_
      refine reg.e_take (i := 5) (.string (s.extract 0 4)) rfl (by kernel_rfl) (by kernel_rfl) (by kernel_rfl) (by kernel_rfl) (fun c a w h => hQP c _ _ w rfl h) (reg.wanted_of 3 false 15 rfl (by kernel_rfl) (by simp [Act.put, hsz])) (hM.ls (by simp)) (fun W hW => by simp [execOp, go_sem, Act.put, hsz, s0, s4, H4.out]) ?_
      refine reg.any_list #[true, true, true, true, true, true, false, false, false, false, false, false, false, false, false, false, false, false, false, false, false, false, false, false, false, false, false, false, false, false, false, false, false, false, false, false, false, false] (by kernel_rfl) ?_
      refine reg.any_abs (fun q => q.tmps.size = 68 ∧ (∀ h, q.tmps[0]'h = .string s) ∧ (∀ h, q.tmps[4]'h = .int .i64 (n : Int)) ∧ (∀ h, q.tmps[15]'h = .bool false) ∧ (∀ h, q.tmps[17]'h = .string (s.extract 0 4))) ⟨by simp [Act.put, hsz, s0, s4], reg.at_of (by simp [Act.put, hsz, s0, s4]), reg.at_of (by simp [Act.put, hsz, s0, s4]), reg.at_of (by simp [Act.put, hsz, s0, s4]), reg.at_of (by simp [Act.put, hsz, s0, s4])⟩ ?_
      clear hsz s0 s4
      rintro q1 ⟨q1z, q1s0, q1s4, q1s15, q1s17⟩ hq1
      have HQ1 : Hid (q1 = _) := hq1
      clear hq1
      refine reg.e_take (i := 6) (.bool false) rfl (by kernel_rfl) (by kernel_rfl) (by kernel_rfl) (by kernel_rfl) (fun c a w h => hQP c _ _ w rfl h) (reg.wanted_of 3 false 15 rfl (by kernel_rfl) (by simp [Act.put, q1z, q1s0, q1s4, q1s15, q1s17])) (hM.ls (by simp)) (fun W hW => ex_neqs rfl (by simp [go_sem, Act.put, q1z, q1s0, q1s4, q1s15, q1s17]) (by simp [go_sem, Act.put, q1z, q1s0, q1s4, q1s15, q1s17]) hne.out) ?_
      refine reg.e_take (i := 7) (.bool false) rfl (by kernel_rfl) (by kernel_rfl) (by kernel_rfl) (by kernel_rfl) (fun c a w h => hQP c _ _ w rfl h) (reg.wanted_none rfl) (hM.ls (by simp)) (fun W hW => by simp [execOp, go_sem, Act.put, q1z, q1s0, q1s4, q1s15, q1s17]) ?_
      refine reg.e_take (i := 8) (.bool false) rfl (by kernel_rfl) (by kernel_rfl) (by kernel_rfl) (by kernel_rfl) (fun c a w h => hQP c _ _ w rfl h) (reg.wanted_none rfl) (hM.ls (by simp)) (fun W hW => by simp [execOp, go_sem, Act.put, q1z, q1s0, q1s4, q1s15, q1s17]) ?_
      refine reg.e_take (i := 9) (.string s) rfl (by kernel_rfl) (by kernel_rfl) (by kernel_rfl) (by kernel_rfl) (fun c a w h => hQP c _ _ w rfl h) (reg.wanted_of 8 false 20 rfl (by kernel_rfl) (by simp [Act.put, q1z, q1s0, q1s4, q1s15, q1s17])) (hM.ls (by simp)) (fun W hW => by simp [execOp, go_sem, Act.put, q1z, q1s0, q1s4, q1s15, q1s17]) ?_
      refine reg.e_take (i := 10) (.int .u8 (bt s 12)) rfl (by kernel_rfl) (by kernel_rfl) (by kernel_rfl) (by kernel_rfl) (fun c a w h => hQP c _ _ w rfl h) (reg.wanted_of 8 false 20 rfl (by kernel_rfl) (by simp [Act.put, q1z, q1s0, q1s4, q1s15, q1s17])) (hM.ls (by simp)) (fun W hW => by simp [execOp, go_sem, Act.put, q1z, q1s0, q1s4, q1s15, q1s17, H12.out]) ?_
      refine reg.e_take (i := 11) (.bool false) rfl (by kernel_rfl) (by kernel_rfl) (by kernel_rfl) (by kernel_rfl) (fun c a w h => hQP c _ _ w rfl h) (reg.wanted_of 8 false 20 rfl (by kernel_rfl) (by simp [Act.put, q1z, q1s0, q1s4, q1s15, q1s17])) (hM.ls (by simp)) (fun W hW => by simp [execOp, go_sem, Act.put, q1z, q1s0, q1s4, q1s15, q1s17, e3.out]) ?_
      refine reg.any_list #[true, true, true, true, true, true, true, true, true, true, true, true, false, false, false, false, false, false, false, false, false, false, false, false, false, false, false, false, false, false, false, false, false, false, false, false, false, false] (by kernel_rfl) ?_
      refine reg.any_abs (fun q => q.tmps.size = 68 ∧ (∀ h, q.tmps[0]'h = .string s) ∧ (∀ h, q.tmps[4]'h = .int .i64 (n : Int)) ∧ (∀ h, q.tmps[20]'h = .bool false) ∧ (∀ h, q.tmps[23]'h = .bool false)) ⟨by simp [Act.put, q1z, q1s0, q1s4, q1s15, q1s17], reg.at_of (by simp [Act.put, q1z, q1s0, q1s4, q1s15, q1s17]), reg.at_of (by simp [Act.put, q1z, q1s0, q1s4, q1s15, q1s17]), reg.at_of (by simp [Act.put, q1z, q1s0, q1s4, q1s15, q1s17]), reg.at_of (by simp [Act.put, q1z, q1s0, q1s4, q1s15, q1s17])⟩ ?_
      clear q1z q1s0 q1s4 q1s15 q1s17
      rintro q2 ⟨q2z, q2s0, q2s4, q2s20, q2s23⟩ hq2
      have HQ2 : Hid (q2 = _) := hq2
      clear hq2
      refine reg.e_take (i := 12) (.bool false) rfl (by kernel_rfl) (by kernel_rfl) (by kernel_rfl) (by kernel_rfl) (fun c a w h => hQP c _ _ w rfl h) (reg.wanted_of 8 false 20 rfl (by kernel_rfl) (by simp [Act.put, q2z, q2s0, q2s4, q2s20, q2s23])) (hM.ls (by simp)) (fun W hW => by simp [execOp, go_sem, Act.put, q2z, q2s0, q2s4, q2s20, q2s23]) ?_
      refine reg.e_pass (i := 13) rfl (by kernel_rfl) (by kernel_rfl) (by kernel_rfl) (by kernel_rfl) (fun c a w h => hQP c _ _ w rfl h) (reg.unwanted_of 12 true 24 rfl (by kernel_rfl) (by simp [Act.put, q2z, q2s0, q2s4, q2s20, q2s23])) (hM.ls (by simp)) ?_
      refine reg.e_pass (i := 14) rfl (by kernel_rfl) (by kernel_rfl) (by kernel_rfl) (by kernel_rfl) (fun c a w h => hQP c _ _ w rfl h) (reg.unwanted_of 12 true 24 rfl (by kernel_rfl) (by simp [Act.put, q2z, q2s0, q2s4, q2s20, q2s23])) (hM.ls (by simp)) ?_
      refine reg.e_pass (i := 15) rfl (by kernel_rfl) (by kernel_rfl) (by kernel_rfl) (by kernel_rfl) (fun c a w h => hQP c _ _ w rfl h) (reg.unwanted_of 12 true 24 rfl (by kernel_rfl) (by simp [Act.put, q2z, q2s0, q2s4, q2s20, q2s23])) (hM.ls (by simp)) ?_
      refine reg.e_take (i := 16) (.bool false) rfl (by kernel_rfl) (by kernel_rfl) (by kernel_rfl) (by kernel_rfl) (fun c a w h => hQP c _ _ w rfl h) (reg.wanted_of 8 false 20 rfl (by kernel_rfl) (by simp [Act.put, q2z, q2s0, q2s4, q2s20, q2s23])) (hM.ls (by simp)) (fun W hW => by simp [execOp, go_sem, Act.put, q2z, q2s0, q2s4, q2s20, q2s23]) ?_
      refine reg.e_take (i := 17) (.bool false) rfl (by kernel_rfl) (by kernel_rfl) (by kernel_rfl) (by kernel_rfl) (fun c a w h => hQP c _ _ w rfl h) (reg.wanted_none rfl) (hM.ls (by simp)) (fun W hW => by simp [execOp, go_sem, Act.put, q2z, q2s0, q2s4, q2s20, q2s23]) ?_
      refine reg.any_list #[true, true, true, true, true, true, true, true, true, true, true, true, true, true, true, true, true, true, false, false, false, false, false, false, false, false, false, false, false, false, false, false, false, false, false, false, false, false] (by kernel_rfl) ?_
      refine reg.any_abs (fun q => q.tmps.size = 68 ∧ (∀ h, q.tmps[0]'h = .string s) ∧ (∀ h, q.tmps[4]'h = .int .i64 (n : Int)) ∧ (∀ h, q.tmps[29]'h = .bool false)) ⟨by simp [Act.put, q2z, q2s0, q2s4, q2s20, q2s23], reg.at_of (by simp [Act.put, q2z, q2s0, q2s4, q2s20, q2s23]), reg.at_of (by simp [Act.put, q2z, q2s0, q2s4, q2s20, q2s23]), reg.at_of (by simp [Act.put, q2z, q2s0, q2s4, q2s20, q2s23])⟩ ?_
      clear q2z q2s0 q2s4 q2s20 q2s23
      rintro q3 ⟨q3z, q3s0, q3s4, q3s29⟩ hq3
      have HQ3 : Hid (q3 = _) := hq3
      clear hq3
      refine reg.e_take (i := 18) (.bool false) rfl (by kernel_rfl) (by kernel_rfl) (by kernel_rfl) (by kernel_rfl) (fun c a w h => hQP c _ _ w rfl h) (reg.wanted_none rfl) (hM.ls (by simp)) (fun W hW => by simp [execOp, go_sem, Act.put, q3z, q3s0, q3s4, q3s29]) ?_
      refine reg.e_take (i := 19) (.string s) rfl (by kernel_rfl) (by kernel_rfl) (by kernel_rfl) (by kernel_rfl) (fun c a w h => hQP c _ _ w rfl h) (reg.wanted_of 18 false 30 rfl (by kernel_rfl) (by simp [Act.put, q3z, q3s0, q3s4, q3s29])) (hM.ls (by simp)) (fun W hW => by simp [execOp, go_sem, Act.put, q3z, q3s0, q3s4, q3s29]) ?_
      refine reg.e_take (i := 20) (.int .u8 (bt s 13)) rfl (by kernel_rfl) (by kernel_rfl) (by kernel_rfl) (by kernel_rfl) (fun c a w h => hQP c _ _ w rfl h) (reg.wanted_of 18 false 30 rfl (by kernel_rfl) (by simp [Act.put, q3z, q3s0, q3s4, q3s29])) (hM.ls (by simp)) (fun W hW => by simp [execOp, go_sem, Act.put, q3z, q3s0, q3s4, q3s29, H13.out]) ?_
      refine reg.e_take (i := 21) (.bool true) rfl (by kernel_rfl) (by kernel_rfl) (by kernel_rfl) (by kernel_rfl) (fun c a w h => hQP c _ _ w rfl h) (reg.wanted_of 18 false 30 rfl (by kernel_rfl) (by simp [Act.put, q3z, q3s0, q3s4, q3s29])) (hM.ls (by simp)) (fun W hW => by simp [execOp, go_sem, Act.put, q3z, q3s0, q3s4, q3s29, e5.out]) ?_
      refine reg.e_take (i := 22) (.bool true) rfl (by kernel_rfl) (by kernel_rfl) (by kernel_rfl) (by kernel_rfl) (fun c a w h => hQP c _ _ w rfl h) (reg.wanted_none rfl) (hM.ls (by simp)) (fun W hW => by simp [execOp, go_sem, Act.put, q3z, q3s0, q3s4, q3s29]) ?_
      refine reg.e_take (i := 23) (.bool true) rfl (by kernel_rfl) (by kernel_rfl) (by kernel_rfl) (by kernel_rfl) (fun c a w h => hQP c _ _ w rfl h) (reg.wanted_none rfl) (hM.ls (by simp)) (fun W hW => by simp [execOp, go_sem, Act.put, q3z, q3s0, q3s4, q3s29]) ?_
      refine reg.any_list #[true, true, true, true, true, true, true, true, true, true, true, true, true, true, true, true, true, true, true, true, true, true, true, true, false, false, false, false, false, false, false, false, false, false, false, false, false, false] (by kernel_rfl) ?_
      refine reg.any_abs (fun q => q.tmps.size = 68 ∧ (∀ h, q.tmps[0]'h = .string s) ∧ (∀ h, q.tmps[4]'h = .int .i64 (n : Int)) ∧ (∀ h, q.tmps[35]'h = .bool true)) ⟨by simp [Act.put, q3z, q3s0, q3s4, q3s29], reg.at_of (by simp [Act.put, q3z, q3s0, q3s4, q3s29]), reg.at_of (by simp [Act.put, q3z, q3s0, q3s4, q3s29]), reg.at_of (by simp [Act.put, q3z, q3s0, q3s4, q3s29])⟩ ?_
      clear q3z q3s0 q3s4 q3s29
      rintro q4 ⟨q4z, q4s0, q4s4, q4s35⟩ hq4
      have HQ4 : Hid (q4 = _) := hq4
      clear hq4
      refine reg.e_pass (i := 24) rfl (by kernel_rfl) (by kernel_rfl) (by kernel_rfl) (by kernel_rfl) (fun c a w h => hQP c _ _ w rfl h) (reg.unwanted_of 23 false 35 rfl (by kernel_rfl) (by simp [Act.put, q4z, q4s0, q4s4, q4s35])) (hM.ls (by simp)) ?_
      refine reg.e_pass (i := 25) rfl (by kernel_rfl) (by kernel_rfl) (by kernel_rfl) (by kernel_rfl) (fun c a w h => hQP c _ _ w rfl h) (reg.unwanted_of 23 false 35 rfl (by kernel_rfl) (by simp [Act.put, q4z, q4s0, q4s4, q4s35])) (hM.ls (by simp)) ?_
      refine reg.e_pass (i := 26) rfl (by kernel_rfl) (by kernel_rfl) (by kernel_rfl) (by kernel_rfl) (fun c a w h => hQP c _ _ w rfl h) (reg.unwanted_of 23 false 35 rfl (by kernel_rfl) (by simp [Act.put, q4z, q4s0, q4s4, q4s35])) (hM.ls (by simp)) ?_
      refine reg.e_take (i := 27) (.bool true) rfl (by kernel_rfl) (by kernel_rfl) (by kernel_rfl) (by kernel_rfl) (fun c a w h => hQP c _ _ w rfl h) (reg.wanted_none rfl) (hM.ls (by simp)) (fun W hW => by simp [execOp, go_sem, Act.put, q4z, q4s0, q4s4, q4s35]) ?_
      refine reg.e_take (i := 28) (.bool true) rfl (by kernel_rfl) (by kernel_rfl) (by kernel_rfl) (by kernel_rfl) (fun c a w h => hQP c _ _ w rfl h) (reg.wanted_none rfl) (hM.ls (by simp)) (fun W hW => by simp [execOp, go_sem, Act.put, q4z, q4s0, q4s4, q4s35]) ?_
      refine reg.e_pass (i := 29) rfl (by kernel_rfl) (by kernel_rfl) (by kernel_rfl) (by kernel_rfl) (fun c a w h => hQP c _ _ w rfl h) (reg.unwanted_of 28 false 40 rfl (by kernel_rfl) (by simp [Act.put, q4z, q4s0, q4s4, q4s35])) (hM.ls (by simp)) ?_
      refine reg.any_list #[true, true, true, true, true, true, true, true, true, true, true, true, true, true, true, true, true, true, true, true, true, true, true, true, true, true, true, true, true, true, false, false, false, false, false, false, false, false] (by kernel_rfl) ?_
      refine reg.any_abs (fun q => q.tmps.size = 68 ∧ (∀ h, q.tmps[4]'h = .int .i64 (n : Int)) ∧ (∀ h, q.tmps[40]'h = .bool true) ∧ (∀ h, q.tmps[41]'h = undef)) ⟨by simp [Act.put, q4z, q4s0, q4s4, q4s35], reg.at_of (by simp [Act.put, q4z, q4s0, q4s4, q4s35]), reg.at_of (by simp [Act.put, q4z, q4s0, q4s4, q4s35]), reg.at_of (by simp [Act.put, q4z, q4s0, q4s4, q4s35])⟩ ?_
      clear q4z q4s0 q4s4 q4s35
      rintro q5 ⟨q5z, q5s4, q5s40, q5s41⟩ hq5
      have HQ5 : Hid (q5 = _) := hq5
      clear hq5
      refine reg.e_pass (i := 30) rfl (by kernel_rfl) (by kernel_rfl) (by kernel_rfl) (by kernel_rfl) (fun c a w h => hQP c _ _ w rfl h) (reg.unwanted_of 28 false 40 rfl (by kernel_rfl) (by simp [Act.put, q5z, q5s4, q5s40, q5s41])) (hM.ls (by simp)) ?_
      refine reg.e_pass (i := 31) rfl (by kernel_rfl) (by kernel_rfl) (by kernel_rfl) (by kernel_rfl) (fun c a w h => hQP c _ _ w rfl h) (reg.unwanted_of 28 false 40 rfl (by kernel_rfl) (by simp [Act.put, q5z, q5s4, q5s40, q5s41])) (hM.ls (by simp)) ?_
      refine reg.e_pass (i := 32) rfl (by kernel_rfl) (by kernel_rfl) (by kernel_rfl) (by kernel_rfl) (fun c a w h => hQP c _ _ w rfl h) (reg.unwanted_of 28 false 40 rfl (by kernel_rfl) (by simp [Act.put, q5z, q5s4, q5s40, q5s41])) (hM.ls (by simp)) ?_
      refine reg.e_pass (i := 33) rfl (by kernel_rfl) (by kernel_rfl) (by kernel_rfl) (by kernel_rfl) (fun c a w h => hQP c _ _ w rfl h) (reg.unwanted_of 28 false 40 rfl (by kernel_rfl) (by simp [Act.put, q5z, q5s4, q5s40, q5s41])) (hM.ls (by simp)) ?_
      refine reg.e_pass (i := 34) rfl (by kernel_rfl) (by kernel_rfl) (by kernel_rfl) (by kernel_rfl) (fun c a w h => hQP c _ _ w rfl h) (reg.unwanted_of 28 false 40 rfl (by kernel_rfl) (by simp [Act.put, q5z, q5s4, q5s40, q5s41])) (hM.ls (by simp)) ?_
      refine reg.e_pass (i := 35) rfl (by kernel_rfl) (by kernel_rfl) (by kernel_rfl) (by kernel_rfl) (fun c a w h => hQP c _ _ w rfl h) (reg.unwanted_of 28 false 40 rfl (by kernel_rfl) (by simp [Act.put, q5z, q5s4, q5s40, q5s41])) (hM.ls (by simp)) ?_
      refine reg.any_list #[true, true, true, true, true, true, true, true, true, true, true, true, true, true, true, true, true, true, true, true, true, true, true, true, true, true, true, true, true, true, true, true, true, true, true, true, false, false] (by kernel_rfl) ?_
      refine reg.any_abs (fun q => q.tmps.size = 68 ∧ (∀ h, q.tmps[40]'h = .bool true) ∧ (∀ h, q.tmps[44]'h = undef) ∧ (∀ h, q.tmps[47]'h = undef)) ⟨by simp [Act.put, q5z, q5s4, q5s40, q5s41], reg.at_of (by simp [Act.put, q5z, q5s4, q5s40, q5s41]), reg.at_of (by simp [Act.put, q5z, q5s4, q5s40, q5s41]), reg.at_of (by simp [Act.put, q5z, q5s4, q5s40, q5s41])⟩ ?_
      clear q5z q5s4 q5s40 q5s41
      rintro q6 ⟨q6z, q6s40, q6s44, q6s47⟩ hq6
      have HQ6 : Hid (q6 = _) := hq6
      clear hq6
      refine reg.e_pass (i := 36) rfl (by kernel_rfl) (by kernel_rfl) (by kernel_rfl) (by kernel_rfl) (fun c a w h => hQP c _ _ w rfl h) (reg.unwanted_of 28 false 40 rfl (by kernel_rfl) (by simp [Act.put, q6z, q6s40, q6s44, q6s47])) (hM.ls (by simp)) ?_
      refine reg.e_take (i := 37) (.bool true) rfl (by kernel_rfl) (by kernel_rfl) (by kernel_rfl) (by kernel_rfl) (fun c a w h => hQP c _ _ w rfl h) (reg.wanted_none rfl) (hM.ls (by simp)) (fun W hW => by simp [execOp, go_sem, Act.put, q6z, q6s40, q6s44, q6s47]) ?_
      clear hQP
      refine reg.e_done (by kernel_rfl) ?_ _
      clear q6z q6s40 q6s44 q6s47
      have hq6 := HQ6.out
      clear HQ6
      subst hq6
      have hq5 := HQ5.out
      clear HQ5
      subst hq5
      have hq4 := HQ4.out
      clear HQ4
      subst hq4
      have hq3 := HQ3.out
      clear HQ3
      subst hq3
      have hq2 := HQ2.out
      clear HQ2
      subst hq2
      have hq1 := HQ1.out
      clear HQ1
      subst hq1
      subst ha0
      go_simp
      repeat' (first | (go_big_may; first | (refine v_build rfl rfl bld_wrap0 ?hbv ?_; (case hbv => simp [Act.eval, Act.put])) | (refine v_fill rfl rfl row_wrap rfl rfl hM.at0 (wpl_vs _) rfl ?_; intro u hv hc; replace hM := hM.put0 hc hv; clear hv hc)) | go_values | go_skip | go_guarded | go_step | go_upon | (simp only [Int.not_lt, Int.not_le] at *; go_simp))
      exact bodyPost_ret (ret_2 rfl rfl (ld_var row_wrap hM.at0 rfl) rfl) rfl ⟨rfl, hM.below⟩
    have e5 : Hid (decide (15 < bt s 13) = false) := decide_eq_false hq13
    by_cases hqn : ¬ (1 ≤ (n : Int) ∧ (n : Int) ≤ 16)
    · have HB2 : Hid (∀ u, Calls Try.prog 28 #[.int .i64 (n : Int), .int .i64 1, .int .i64 16] u fun e w' => e = .returned (.bool false) ∧ Below u.heap.size u w') := fun u => by
        have := HBT.out u
        rw [show (decide (1 ≤ (n : Int)) && decide ((n : Int) ≤ 16)) = false by rw [Bool.and_eq_false_iff, decide_eq_false_iff_not, decide_eq_false_iff_not]; omega] at this
        exact this
      have hE := rd_err HS.out (by rw [Bool.eq_false_iff]; intro q; have q := (rf_iff s).1 q; rw [← hb14] at q; exact hqn q.2.2.2.2.1)
      have HE : Hid (rdC s = 4 ∧ rdW s = wp0) := hE
      rw [HE.out.1, HE.out.2]
      clear hE hm hm' h4 h12 h13 hb12 hb13 hb14 hn l0 l1 m0 m1 hq4 h31 hq12 hq13 hqn HBT
      go_enter Try.func12, Try.ntmps12
      repeat' (first | (go_big_may; first | (refine v_alloc rfl zer_wrap rfl ?_; intro u za hN; replace hM := hM.new hN; clear hN)) | go_values | go_skip | go_guarded | go_step | go_upon | (simp only [Int.not_lt, Int.not_le] at *; go_simp))
      clear h14 e14
      refine reg.wp_abs (fun a0 => a0.tmps.size = 68 ∧ (∀ h, a0.tmps[0]'h = .string s) ∧ (∀ h, a0.tmps[4]'h = .int .i64 (n : Int))) ⟨rfl, fun _ => rfl, fun _ => rfl⟩ ?_
      rintro a0 ⟨hsz, s0, s4⟩ ha0
      refine reg.wp_region_E (S := fun W => Ls W []) (E := fun _ => false) (by kernel_rfl) ?_
      replace hM := hM.drew
      refine reg.any_q (fun _ _ _ _ _ h => h) ?_
      intro hQP
      refine reg.e_take (i := 0) (.string s) rfl (by kernel_rfl) (by kernel_rfl) (by kernel_rfl) (by kernel_rfl) (fun c a w h => hQP c _ _ w rfl h) (reg.wanted_none rfl) (hM.ls (by simp)) (fun W hW => by simp [execOp, go_sem, Act.put, hsz, s0, s4]) ?_
      refine reg.e_take (i := 1) (.int .i64 (s.size : Int)) rfl (by kernel_rfl) (by kernel_rfl) (by kernel_rfl) (by kernel_rfl) (fun c a w h => hQP c _ _ w rfl h) (reg.wanted_none rfl) (hM.ls (by simp)) (fun W hW => by simp [execOp, go_sem, Act.put, hsz, s0, s4]) ?_
      refine reg.e_take (i := 2) (.bool false) rfl (by kernel_rfl) (by kernel_rfl) (by kernel_rfl) (by kernel_rfl) (fun c a w h => hQP c _ _ w rfl h) (reg.wanted_none rfl) (hM.ls (by simp)) (fun W hW => by simp [execOp, go_sem, Act.put, hsz, s0, s4, e1.out, E1.out]) ?_
      refine reg.e_take (i := 3) (.bool false) rfl (by kernel_rfl) (by kernel_rfl) (by kernel_rfl) (by kernel_rfl) (fun c a w h => hQP c _ _ w rfl h) (reg.wanted_none rfl) (hM.ls (by simp)) (fun W hW => by simp [execOp, go_sem, Act.put, hsz, s0, s4]) ?_
      refine reg.e_take (i := 4) (.string s) rfl (by kernel_rfl) (by kernel_rfl) (by kernel_rfl) (by kernel_rfl) (fun c a w h => hQP c _ _ w rfl h) (reg.wanted_of 3 false 15 rfl (by kernel_rfl) (by simp [Act.put, hsz])) (hM.ls (by simp)) (fun W hW => by simp [execOp, go_sem, Act.put, hsz, s0, s4]) ?_
      refine reg.e_take (i := 5) (.string (s.extract 0 4)) rfl (by kernel_rfl) (by kernel_rfl) (by kernel_rfl) (by kernel_rfl) (fun c a w h => hQP c _ _ w rfl h) (reg.wanted_of 3 false 15 rfl (by kernel_rfl) (by simp [Act.put, hsz])) (hM.ls (by simp)) (fun W hW => by simp [execOp, go_sem, Act.put, hsz, s0, s4, H4.out]) ?_
      refine reg.any_list #[true, true, true, true, true, true, false, false, false, false, false, false, false, false, false, false, false, false, false, false, false, false, false, false, false, false, false, false, false, false, false, false, false, false, false, false, false, false] (by kernel_rfl) ?_
      refine reg.any_abs (fun q => q.tmps.size = 68 ∧ (∀ h, q.tmps[0]'h = .string s) ∧ (∀ h, q.tmps[4]'h = .int .i64 (n : Int)) ∧ (∀ h, q.tmps[15]'h = .bool false) ∧ (∀ h, q.tmps[17]'h = .string (s.extract 0 4))) ⟨by simp [Act.put, hsz, s0, s4], reg.at_of (by simp [Act.put, hsz, s0, s4]), reg.at_of (by simp [Act.put, hsz, s0, s4]), reg.at_of (by simp [Act.put, hsz, s0, s4]), reg.at_of (by simp [Act.put, hsz, s0, s4])⟩ ?_
      clear hsz s0 s4
      rintro q1 ⟨q1z, q1s0, q1s4, q1s15, q1s17⟩ hq1
      have HQ1 : Hid (q1 = _) := hq1
      clear hq1
      refine reg.e_take (i := 6) (.bool false) rfl (by kernel_rfl) (by kernel_rfl) (by kernel_rfl) (by kernel_rfl) (fun c a w h => hQP c _ _ w rfl h) (reg.wanted_of 3 false 15 rfl (by kernel_rfl) (by simp [Act.put, q1z, q1s0, q1s4, q1s15, q1s17])) (hM.ls (by simp)) (fun W hW => ex_neqs rfl (by simp [go_sem, Act.put, q1z, q1s0, q1s4, q1s15, q1s17]) (by simp [go_sem, Act.put, q1z, q1s0, q1s4, q1s15, q1s17]) hne.out) ?_
      refine reg.e_take (i := 7) (.bool false) rfl (by kernel_rfl) (by kernel_rfl) (by kernel_rfl) (by kernel_rfl) (fun c a w h => hQP c _ _ w rfl h) (reg.wanted_none rfl) (hM.ls (by simp)) (fun W hW => by simp [execOp, go_sem, Act.put, q1z, q1s0, q1s4, q1s15, q1s17]) ?_
      refine reg.e_take (i := 8) (.bool false) rfl (by kernel_rfl) (by kernel_rfl) (by kernel_rfl) (by kernel_rfl) (fun c a w h => hQP c _ _ w rfl h) (reg.wanted_none rfl) (hM.ls (by simp)) (fun W hW => by simp [execOp, go_sem, Act.put, q1z, q1s0, q1s4, q1s15, q1s17]) ?_
      refine reg.e_take (i := 9) (.string s) rfl (by kernel_rfl) (by kernel_rfl) (by kernel_rfl) (by kernel_rfl) (fun c a w h => hQP c _ _ w rfl h) (reg.wanted_of 8 false 20 rfl (by kernel_rfl) (by simp [Act.put, q1z, q1s0, q1s4, q1s15, q1s17])) (hM.ls (by simp)) (fun W hW => by simp [execOp, go_sem, Act.put, q1z, q1s0, q1s4, q1s15, q1s17]) ?_
      refine reg.e_take (i := 10) (.int .u8 (bt s 12)) rfl (by kernel_rfl) (by kernel_rfl) (by kernel_rfl) (by kernel_rfl) (fun c a w h => hQP c _ _ w rfl h) (reg.wanted_of 8 false 20 rfl (by kernel_rfl) (by simp [Act.put, q1z, q1s0, q1s4, q1s15, q1s17])) (hM.ls (by simp)) (fun W hW => by simp [execOp, go_sem, Act.put, q1z, q1s0, q1s4, q1s15, q1s17, H12.out]) ?_
      refine reg.e_take (i := 11) (.bool false) rfl (by kernel_rfl) (by kernel_rfl) (by kernel_rfl) (by kernel_rfl) (fun c a w h => hQP c _ _ w rfl h) (reg.wanted_of 8 false 20 rfl (by kernel_rfl) (by simp [Act.put, q1z, q1s0, q1s4, q1s15, q1s17])) (hM.ls (by simp)) (fun W hW => by simp [execOp, go_sem, Act.put, q1z, q1s0, q1s4, q1s15, q1s17, e3.out]) ?_
      refine reg.any_list #[true, true, true, true, true, true, true, true, true, true, true, true, false, false, false, false, false, false, false, false, false, false, false, false, false, false, false, false, false, false, false, false, false, false, false, false, false, false] (by kernel_rfl) ?_
      refine reg.any_abs (fun q => q.tmps.size = 68 ∧ (∀ h, q.tmps[0]'h = .string s) ∧ (∀ h, q.tmps[4]'h = .int .i64 (n : Int)) ∧ (∀ h, q.tmps[20]'h = .bool false) ∧ (∀ h, q.tmps[23]'h = .bool false)) ⟨by simp [Act.put, q1z, q1s0, q1s4, q1s15, q1s17], reg.at_of (by simp [Act.put, q1z, q1s0, q1s4, q1s15, q1s17]), reg.at_of (by simp [Act.put, q1z, q1s0, q1s4, q1s15, q1s17]), reg.at_of (by simp [Act.put, q1z, q1s0, q1s4, q1s15, q1s17]), reg.at_of (by simp [Act.put, q1z, q1s0, q1s4, q1s15, q1s17])⟩ ?_
      clear q1z q1s0 q1s4 q1s15 q1s17
      rintro q2 ⟨q2z, q2s0, q2s4, q2s20, q2s23⟩ hq2
      have HQ2 : Hid (q2 = _) := hq2
      clear hq2
      refine reg.e_take (i := 12) (.bool false) rfl (by kernel_rfl) (by kernel_rfl) (by kernel_rfl) (by kernel_rfl) (fun c a w h => hQP c _ _ w rfl h) (reg.wanted_of 8 false 20 rfl (by kernel_rfl) (by simp [Act.put, q2z, q2s0, q2s4, q2s20, q2s23])) (hM.ls (by simp)) (fun W hW => by simp [execOp, go_sem, Act.put, q2z, q2s0, q2s4, q2s20, q2s23]) ?_
      refine reg.e_pass (i := 13) rfl (by kernel_rfl) (by kernel_rfl) (by kernel_rfl) (by kernel_rfl) (fun c a w h => hQP c _ _ w rfl h) (reg.unwanted_of 12 true 24 rfl (by kernel_rfl) (by simp [Act.put, q2z, q2s0, q2s4, q2s20, q2s23])) (hM.ls (by simp)) ?_
      refine reg.e_pass (i := 14) rfl (by kernel_rfl) (by kernel_rfl) (by kernel_rfl) (by kernel_rfl) (fun c a w h => hQP c _ _ w rfl h) (reg.unwanted_of 12 true 24 rfl (by kernel_rfl) (by simp [Act.put, q2z, q2s0, q2s4, q2s20, q2s23])) (hM.ls (by simp)) ?_
      refine reg.e_pass (i := 15) rfl (by kernel_rfl) (by kernel_rfl) (by kernel_rfl) (by kernel_rfl) (fun c a w h => hQP c _ _ w rfl h) (reg.unwanted_of 12 true 24 rfl (by kernel_rfl) (by simp [Act.put, q2z, q2s0, q2s4, q2s20, q2s23])) (hM.ls (by simp)) ?_
      refine reg.e_take (i := 16) (.bool false) rfl (by kernel_rfl) (by kernel_rfl) (by kernel_rfl) (by kernel_rfl) (fun c a w h => hQP c _ _ w rfl h) (reg.wanted_of 8 false 20 rfl (by kernel_rfl) (by simp [Act.put, q2z, q2s0, q2s4, q2s20, q2s23])) (hM.ls (by simp)) (fun W hW => by simp [execOp, go_sem, Act.put, q2z, q2s0, q2s4, q2s20, q2s23]) ?_
      refine reg.e_take (i := 17) (.bool false) rfl (by kernel_rfl) (by kernel_rfl) (by kernel_rfl) (by kernel_rfl) (fun c a w h => hQP c _ _ w rfl h) (reg.wanted_none rfl) (hM.ls (by simp)) (fun W hW => by simp [execOp, go_sem, Act.put, q2z, q2s0, q2s4, q2s20, q2s23]) ?_
      refine reg.any_list #[true, true, true, true, true, true, true, true, true, true, true, true, true, true, true, true, true, true, false, false, false, false, false, false, false, false, false, false, false, false, false, false, false, false, false, false, false, false] (by kernel_rfl) ?_
      refine reg.any_abs (fun q => q.tmps.size = 68 ∧ (∀ h, q.tmps[0]'h = .string s) ∧ (∀ h, q.tmps[4]'h = .int .i64 (n : Int)) ∧ (∀ h, q.tmps[29]'h = .bool false)) ⟨by simp [Act.put, q2z, q2s0, q2s4, q2s20, q2s23], reg.at_of (by simp [Act.put, q2z, q2s0, q2s4, q2s20, q2s23]), reg.at_of (by simp [Act.put, q2z, q2s0, q2s4, q2s20, q2s23]), reg.at_of (by simp [Act.put, q2z, q2s0, q2s4, q2s20, q2s23])⟩ ?_
      clear q2z q2s0 q2s4 q2s20 q2s23
      rintro q3 ⟨q3z, q3s0, q3s4, q3s29⟩ hq3
      have HQ3 : Hid (q3 = _) := hq3
      clear hq3
      refine reg.e_take (i := 18) (.bool false) rfl (by kernel_rfl) (by kernel_rfl) (by kernel_rfl) (by kernel_rfl) (fun c a w h => hQP c _ _ w rfl h) (reg.wanted_none rfl) (hM.ls (by simp)) (fun W hW => by simp [execOp, go_sem, Act.put, q3z, q3s0, q3s4, q3s29]) ?_
      refine reg.e_take (i := 19) (.string s) rfl (by kernel_rfl) (by kernel_rfl) (by kernel_rfl) (by kernel_rfl) (fun c a w h => hQP c _ _ w rfl h) (reg.wanted_of 18 false 30 rfl (by kernel_rfl) (by simp [Act.put, q3z, q3s0, q3s4, q3s29])) (hM.ls (by simp)) (fun W hW => by simp [execOp, go_sem, Act.put, q3z, q3s0, q3s4, q3s29]) ?_
      refine reg.e_take (i := 20) (.int .u8 (bt s 13)) rfl (by kernel_rfl) (by kernel_rfl) (by kernel_rfl) (by kernel_rfl) (fun c a w h => hQP c _ _ w rfl h) (reg.wanted_of 18 false 30 rfl (by kernel_rfl) (by simp [Act.put, q3z, q3s0, q3s4, q3s29])) (hM.ls (by simp)) (fun W hW => by simp [execOp, go_sem, Act.put, q3z, q3s0, q3s4, q3s29, H13.out]) ?_
      refine reg.e_take (i := 21) (.bool false) rfl (by kernel_rfl) (by kernel_rfl) (by kernel_rfl) (by kernel_rfl) (fun c a w h => hQP c _ _ w rfl h) (reg.wanted_of 18 false 30 rfl (by kernel_rfl) (by simp [Act.put, q3z, q3s0, q3s4, q3s29])) (hM.ls (by simp)) (fun W hW => by simp [execOp, go_sem, Act.put, q3z, q3s0, q3s4, q3s29, e5.out]) ?_
      refine reg.e_take (i := 22) (.bool false) rfl (by kernel_rfl) (by kernel_rfl) (by kernel_rfl) (by kernel_rfl) (fun c a w h => hQP c _ _ w rfl h) (reg.wanted_none rfl) (hM.ls (by simp)) (fun W hW => by simp [execOp, go_sem, Act.put, q3z, q3s0, q3s4, q3s29]) ?_
      refine reg.e_take (i := 23) (.bool false) rfl (by kernel_rfl) (by kernel_rfl) (by kernel_rfl) (by kernel_rfl) (fun c a w h => hQP c _ _ w rfl h) (reg.wanted_none rfl) (hM.ls (by simp)) (fun W hW => by simp [execOp, go_sem, Act.put, q3z, q3s0, q3s4, q3s29]) ?_
      refine reg.any_list #[true, true, true, true, true, true, true, true, true, true, true, true, true, true, true, true, true, true, true, true, true, true, true, true, false, false, false, false, false, false, false, false, false, false, false, false, false, false] (by kernel_rfl) ?_
      refine reg.any_abs (fun q => q.tmps.size = 68 ∧ (∀ h, q.tmps[0]'h = .string s) ∧ (∀ h, q.tmps[4]'h = .int .i64 (n : Int)) ∧ (∀ h, q.tmps[35]'h = .bool false)) ⟨by simp [Act.put, q3z, q3s0, q3s4, q3s29], reg.at_of (by simp [Act.put, q3z, q3s0, q3s4, q3s29]), reg.at_of (by simp [Act.put, q3z, q3s0, q3s4, q3s29]), reg.at_of (by simp [Act.put, q3z, q3s0, q3s4, q3s29])⟩ ?_
      clear q3z q3s0 q3s4 q3s29
      rintro q4 ⟨q4z, q4s0, q4s4, q4s35⟩ hq4
      have HQ4 : Hid (q4 = _) := hq4
      clear hq4
      refine reg.e_take (i := 24) (.int .i64 (n : Int)) rfl (by kernel_rfl) (by kernel_rfl) (by kernel_rfl) (by kernel_rfl) (fun c a w h => hQP c _ _ w rfl h) (reg.wanted_of 23 false 35 rfl (by kernel_rfl) (by simp [Act.put, q4z, q4s0, q4s4, q4s35])) (hM.ls (by simp)) (fun W hW => by simp [execOp, go_sem, Act.put, q4z, q4s0, q4s4, q4s35]) ?_
      refine reg.e_one 25 (by kernel_rfl) rfl ?_
      refine reg.r_call (i := 25) 28 #[.int .i64 (n : Int), .int .i64 1, .int .i64 16] rfl (reg.wanted_of 23 false 35 rfl (by kernel_rfl) (by simp [Act.put, q4z, q4s0, q4s4, q4s35])) (by simp [execOp, go_sem, Act.put, q4z, q4s0, q4s4, q4s35]) ((HB2.out _).mono ?_)
      rintro re ru5 ⟨rfl, rhv⟩
      replace hM := hM.call rhv
      clear rhv
      refine ⟨_, rfl, hM.ls (by simp), ?_⟩
      refine reg.e_take (i := 26) (.bool true) rfl (by kernel_rfl) (by kernel_rfl) (by kernel_rfl) (by kernel_rfl) (fun c a w h => hQP c _ _ w rfl h) (reg.wanted_of 23 false 35 rfl (by kernel_rfl) (by simp [Act.put, q4z, q4s0, q4s4, q4s35])) (hM.ls (by simp)) (fun W hW => by simp [execOp, go_sem, Act.put, q4z, q4s0, q4s4, q4s35]) ?_
      refine reg.e_take (i := 27) (.bool true) rfl (by kernel_rfl) (by kernel_rfl) (by kernel_rfl) (by kernel_rfl) (fun c a w h => hQP c _ _ w rfl h) (reg.wanted_none rfl) (hM.ls (by simp)) (fun W hW => by simp [execOp, go_sem, Act.put, q4z, q4s0, q4s4, q4s35]) ?_
      refine reg.e_take (i := 28) (.bool true) rfl (by kernel_rfl) (by kernel_rfl) (by kernel_rfl) (by kernel_rfl) (fun c a w h => hQP c _ _ w rfl h) (reg.wanted_none rfl) (hM.ls (by simp)) (fun W hW => by simp [execOp, go_sem, Act.put, q4z, q4s0, q4s4, q4s35]) ?_
      refine reg.e_pass (i := 29) rfl (by kernel_rfl) (by kernel_rfl) (by kernel_rfl) (by kernel_rfl) (fun c a w h => hQP c _ _ w rfl h) (reg.unwanted_of 28 false 40 rfl (by kernel_rfl) (by simp [Act.put, q4z, q4s0, q4s4, q4s35])) (hM.ls (by simp)) ?_
      refine reg.e_pass (i := 30) rfl (by kernel_rfl) (by kernel_rfl) (by kernel_rfl) (by kernel_rfl) (fun c a w h => hQP c _ _ w rfl h) (reg.unwanted_of 28 false 40 rfl (by kernel_rfl) (by simp [Act.put, q4z, q4s0, q4s4, q4s35])) (hM.ls (by simp)) ?_
      refine reg.any_list #[true, true, true, true, true, true, true, true, true, true, true, true, true, true, true, true, true, true, true, true, true, true, true, true, true, true, true, true, true, true, true, false, false, false, false, false, false, false] (by kernel_rfl) ?_
      refine reg.any_abs (fun q => q.tmps.size = 68 ∧ (∀ h, q.tmps[4]'h = .int .i64 (n : Int)) ∧ (∀ h, q.tmps[40]'h = .bool true) ∧ (∀ h, q.tmps[41]'h = undef) ∧ (∀ h, q.tmps[42]'h = undef)) ⟨by simp [Act.put, q4z, q4s0, q4s4, q4s35], reg.at_of (by simp [Act.put, q4z, q4s0, q4s4, q4s35]), reg.at_of (by simp [Act.put, q4z, q4s0, q4s4, q4s35]), reg.at_of (by simp [Act.put, q4z, q4s0, q4s4, q4s35]), reg.at_of (by simp [Act.put, q4z, q4s0, q4s4, q4s35])⟩ ?_
      clear q4z q4s0 q4s4 q4s35
      rintro q6 ⟨q6z, q6s4, q6s40, q6s41, q6s42⟩ hq6
      have HQ6 : Hid (q6 = _) := hq6
      clear hq6
      refine reg.e_pass (i := 31) rfl (by kernel_rfl) (by kernel_rfl) (by kernel_rfl) (by kernel_rfl) (fun c a w h => hQP c _ _ w rfl h) (reg.unwanted_of 28 false 40 rfl (by kernel_rfl) (by simp [Act.put, q6z, q6s4, q6s40, q6s41, q6s42])) (hM.ls (by simp)) ?_
      refine reg.e_pass (i := 32) rfl (by kernel_rfl) (by kernel_rfl) (by kernel_rfl) (by kernel_rfl) (fun c a w h => hQP c _ _ w rfl h) (reg.unwanted_of 28 false 40 rfl (by kernel_rfl) (by simp [Act.put, q6z, q6s4, q6s40, q6s41, q6s42])) (hM.ls (by simp)) ?_
      refine reg.e_pass (i := 33) rfl (by kernel_rfl) (by kernel_rfl) (by kernel_rfl) (by kernel_rfl) (fun c a w h => hQP c _ _ w rfl h) (reg.unwanted_of 28 false 40 rfl (by kernel_rfl) (by simp [Act.put, q6z, q6s4, q6s40, q6s41, q6s42])) (hM.ls (by simp)) ?_
      refine reg.e_pass (i := 34) rfl (by kernel_rfl) (by kernel_rfl) (by kernel_rfl) (by kernel_rfl) (fun c a w h => hQP c _ _ w rfl h) (reg.unwanted_of 28 false 40 rfl (by kernel_rfl) (by simp [Act.put, q6z, q6s4, q6s40, q6s41, q6s42])) (hM.ls (by simp)) ?_
      refine reg.e_pass (i := 35) rfl (by kernel_rfl) (by kernel_rfl) (by kernel_rfl) (by kernel_rfl) (fun c a w h => hQP c _ _ w rfl h) (reg.unwanted_of 28 false 40 rfl (by kernel_rfl) (by simp [Act.put, q6z, q6s4, q6s40, q6s41, q6s42])) (hM.ls (by simp)) ?_
      refine reg.e_pass (i := 36) rfl (by kernel_rfl) (by kernel_rfl) (by kernel_rfl) (by kernel_rfl) (fun c a w h => hQP c _ _ w rfl h) (reg.unwanted_of 28 false 40 rfl (by kernel_rfl) (by simp [Act.put, q6z, q6s4, q6s40, q6s41, q6s42])) (hM.ls (by simp)) ?_
      refine reg.any_list #[true, true, true, true, true, true, true, true, true, true, true, true, true, true, true, true, true, true, true, true, true, true, true, true, true, true, true, true, true, true, true, true, true, true, true, true, true, false] (by kernel_rfl) ?_
      refine reg.any_abs (fun q => q.tmps.size = 68 ∧ (∀ h, q.tmps[40]'h = .bool true) ∧ (∀ h, q.tmps[48]'h = undef)) ⟨by simp [Act.put, q6z, q6s4, q6s40, q6s41, q6s42], reg.at_of (by simp [Act.put, q6z, q6s4, q6s40, q6s41, q6s42]), reg.at_of (by simp [Act.put, q6z, q6s4, q6s40, q6s41, q6s42])⟩ ?_
      clear q6z q6s4 q6s40 q6s41 q6s42
      rintro q7 ⟨q7z, q7s40, q7s48⟩ hq7
      have HQ7 : Hid (q7 = _) := hq7
      clear hq7
      refine reg.e_take (i := 37) (.bool true) rfl (by kernel_rfl) (by kernel_rfl) (by kernel_rfl) (by kernel_rfl) (fun c a w h => hQP c _ _ w rfl h) (reg.wanted_none rfl) (hM.ls (by simp)) (fun W hW => by simp [execOp, go_sem, Act.put, q7z, q7s40, q7s48]) ?_
      clear hQP
      refine reg.e_done (by kernel_rfl) ?_ _
      clear q7z q7s40 q7s48
      have hq7 := HQ7.out
      clear HQ7
      subst hq7
      have hq6 := HQ6.out
      clear HQ6
      subst hq6
      have hq4 := HQ4.out
      clear HQ4
      subst hq4
      have hq3 := HQ3.out
      clear HQ3
      subst hq3
      have hq2 := HQ2.out
      clear HQ2
      subst hq2
      have hq1 := HQ1.out
      clear HQ1
      subst hq1
      subst ha0
      go_simp
      repeat' (first | (go_big_may; first | (refine v_build rfl rfl bld_wrap0 ?hbv ?_; (case hbv => simp [Act.eval, Act.put])) | (refine v_fill rfl rfl row_wrap rfl rfl hM.at0 (wpl_vs _) rfl ?_; intro u hv hc; replace hM := hM.put0 hc hv; clear hv hc)) | go_values | go_skip | go_guarded | go_step | go_upon | (simp only [Int.not_lt, Int.not_le] at *; go_simp))
      exact bodyPost_ret (ret_2 rfl rfl (ld_var row_wrap hM.at0 rfl) rfl) rfl ⟨rfl, hM.below⟩
    have hqn : 1 ≤ (n : Int) ∧ (n : Int) ≤ 16 := Classical.not_not.1 hqn
    have HB2 : Hid (∀ u, Calls Try.prog 28 #[.int .i64 (n : Int), .int .i64 1, .int .i64 16] u fun e w' => e = .returned (.bool true) ∧ Below u.heap.size u w') := fun u => by
      have := HBT.out u
      rw [show (decide (1 ≤ (n : Int)) && decide ((n : Int) ≤ 16)) = true by rw [Bool.and_eq_true, decide_eq_true_eq, decide_eq_true_eq]; exact hqn] at this
      exact this
    obtain ⟨J, hJ⟩ : ∃ J : Nat, 15 + n = J := ⟨_, rfl⟩
    obtain ⟨k, hk⟩ : ∃ k : Nat, 16 - n = k := ⟨_, rfl⟩
    have HJ : Hid (IntKind.i64.wrap (15 + (n : Int)) = (J : Int)) := by show _ = _; rw [IntKind.wrap_i64]; omega
    have HK : Hid (IntKind.i64.wrap (16 - (n : Int)) = (k : Int)) := by show _ = _; rw [IntKind.wrap_i64]; omega
    have HSJ : Hid (∀ W, (Instr.slice 9 (.string s) (some (.int .i64 (J : Int))) none none).run Try.prog W = .ok (.string (s.extract J s.size)) W) := fun W => run_from s (J : Int) (by omega) (by omega) W
    have HRP : Hid (∀ u, Calls Try.prog 31 #[.string ⟨#[0]⟩, .int .i64 (k : Int)] u fun e w' => e = .returned (.string (rpt 0 k)) ∧ Below u.heap.size u w') := fun u => repeat_any 0 k (by omega) u
    have hto : ((nums s).getD 14 0).toNat = n := by rw [← hb14]; exact Int.toNat_natCast n
    have hzz : (s.extract J s.size = rpt 0 k) ↔ (nums s).drop (15 + ((nums s).getD 14 0).toNat) = List.replicate (16 - ((nums s).getD 14 0).toNat) 0 := by
      rw [hto, hJ, hk, ← nums_from, show List.replicate k (0 : Int) = nums (rpt 0 k) from (rpt_nums 0 k).symm]
      exact ⟨fun q => by rw [q], nums_inj⟩
    by_cases hqz : ¬ s.extract J s.size = rpt 0 k
    · have hnz : Hid (decide (s.extract J s.size ≠ rpt 0 k) = true) := decide_eq_true hqz
      have hE := rd_err HS.out (by rw [Bool.eq_false_iff]; intro q; have q := (rf_iff s).1 q; exact hqz (hzz.2 q.2.2.2.2.2))
      have HE : Hid (rdC s = 4 ∧ rdW s = wp0) := hE
      rw [HE.out.1, HE.out.2]
      clear hE hm hm' h4 h12 h13 hb12 hb13 hb14 hn l0 l1 m0 m1 hq4 h31 hq12 hq13 hqn HBT hzz hqz hto hJ hk
      go_enter Try.func12, Try.ntmps12
      repeat' (first | (go_big_may; first | (refine v_alloc rfl zer_wrap rfl ?_; intro u za hN; replace hM := hM.new hN; clear hN)) | go_values | go_skip | go_guarded | go_step | go_upon | (simp only [Int.not_lt, Int.not_le] at *; go_simp))
      clear h14 e14
      refine reg.wp_abs (fun a0 => a0.tmps.size = 68 ∧ (∀ h, a0.tmps[0]'h = .string s) ∧ (∀ h, a0.tmps[4]'h = .int .i64 (n : Int))) ⟨rfl, fun _ => rfl, fun _ => rfl⟩ ?_
      rintro a0 ⟨hsz, s0, s4⟩ ha0
      refine reg.wp_region_E (S := fun W => Ls W []) (E := fun _ => false) (by kernel_rfl) ?_
      replace hM := hM.drew
      refine reg.any_q (fun _ _ _ _ _ h => h) ?_
      intro hQP
      refine reg.e_take (i := 0) (.string s) rfl (by kernel_rfl) (by kernel_rfl) (by kernel_rfl) (by kernel_rfl) (fun c a w h => hQP c _ _ w rfl h) (reg.wanted_none rfl) (hM.ls (by simp)) (fun W hW => by simp [execOp, go_sem, Act.put, hsz, s0, s4]) ?_
      refine reg.e_take (i := 1) (.int .i64 (s.size : Int)) rfl (by kernel_rfl) (by kernel_rfl) (by kernel_rfl) (by kernel_rfl) (fun c a w h => hQP c _ _ w rfl h) (reg.wanted_none rfl) (hM.ls (by simp)) (fun W hW => by simp [execOp, go_sem, Act.put, hsz, s0, s4]) ?_
      refine reg.e_take (i := 2) (.bool false) rfl (by kernel_rfl) (by kernel_rfl) (by kernel_rfl) (by kernel_rfl) (fun c a w h => hQP c _ _ w rfl h) (reg.wanted_none rfl) (hM.ls (by simp)) (fun W hW => by simp [execOp, go_sem, Act.put, hsz, s0, s4, e1.out, E1.out]) ?_
      refine reg.e_take (i := 3) (.bool false) rfl (by kernel_rfl) (by kernel_rfl) (by kernel_rfl) (by kernel_rfl) (fun c a w h => hQP c _ _ w rfl h) (reg.wanted_none rfl) (hM.ls (by simp)) (fun W hW => by simp [execOp, go_sem, Act.put, hsz, s0, s4]) ?_
      refine reg.e_take (i := 4) (.string s) rfl (by kernel_rfl) (by kernel_rfl) (by kernel_rfl) (by kernel_rfl) (fun c a w h => hQP c _ _ w rfl h) (reg.wanted_of 3 false 15 rfl (by kernel_rfl) (by simp [Act.put, hsz])) (hM.ls (by simp)) (fun W hW => by simp [execOp, go_sem, Act.put, hsz, s0, s4]) ?_
      refine reg.e_take (i := 5) (.string (s.extract 0 4)) rfl (by kernel_rfl) (by kernel_rfl) (by kernel_rfl) (by kernel_rfl) (fun c a w h => hQP c _ _ w rfl h) (reg.wanted_of 3 false 15 rfl (by kernel_rfl) (by simp [Act.put, hsz])) (hM.ls (by simp)) (fun W hW => by simp [execOp, go_sem, Act.put, hsz, s0, s4, H4.out]) ?_
      refine reg.any_list #[true, true, true, true, true, true, false, false, false, false, false, false, false, false, false, false, false, false, false, false, false, false, false, false, false, false, false, false, false, false, false, false, false, false, false, false, false, false] (by kernel_rfl) ?_
      refine reg.any_abs (fun q => q.tmps.size = 68 ∧ (∀ h, q.tmps[0]'h = .string s) ∧ (∀ h, q.tmps[4]'h = .int .i64 (n : Int)) ∧ (∀ h, q.tmps[15]'h = .bool false) ∧ (∀ h, q.tmps[17]'h = .string (s.extract 0 4))) ⟨by simp [Act.put, hsz, s0, s4], reg.at_of (by simp [Act.put, hsz, s0, s4]), reg.at_of (by simp [Act.put, hsz, s0, s4]), reg.at_of (by simp [Act.put, hsz, s0, s4]), reg.at_of (by simp [Act.put, hsz, s0, s4])⟩ ?_
      clear hsz s0 s4
      rintro q1 ⟨q1z, q1s0, q1s4, q1s15, q1s17⟩ hq1
      have HQ1 : Hid (q1 = _) := hq1
      clear hq1
      refine reg.e_take (i := 6) (.bool false) rfl (by kernel_rfl) (by kernel_rfl) (by kernel_rfl) (by kernel_rfl) (fun c a w h => hQP c _ _ w rfl h) (reg.wanted_of 3 false 15 rfl (by kernel_rfl) (by simp [Act.put, q1z, q1s0, q1s4, q1s15, q1s17])) (hM.ls (by simp)) (fun W hW => ex_neqs rfl (by simp [go_sem, Act.put, q1z, q1s0, q1s4, q1s15, q1s17]) (by simp [go_sem, Act.put, q1z, q1s0, q1s4, q1s15, q1s17]) hne.out) ?_
      refine reg.e_take (i := 7) (.bool false) rfl (by kernel_rfl) (by kernel_rfl) (by kernel_rfl) (by kernel_rfl) (fun c a w h => hQP c _ _ w rfl h) (reg.wanted_none rfl) (hM.ls (by simp)) (fun W hW => by simp [execOp, go_sem, Act.put, q1z, q1s0, q1s4, q1s15, q1s17]) ?_
      refine reg.e_take (i := 8) (.bool false) rfl (by kernel_rfl) (by kernel_rfl) (by kernel_rfl) (by kernel_rfl) (fun c a w h => hQP c _ _ w rfl h) (reg.wanted_none rfl) (hM.ls (by simp)) (fun W hW => by simp [execOp, go_sem, Act.put, q1z, q1s0, q1s4, q1s15, q1s17]) ?_
      refine reg.e_take (i := 9) (.string s) rfl (by kernel_rfl) (by kernel_rfl) (by kernel_rfl) (by kernel_rfl) (fun c a w h => hQP c _ _ w rfl h) (reg.wanted_of 8 false 20 rfl (by kernel_rfl) (by simp [Act.put, q1z, q1s0, q1s4, q1s15, q1s17])) (hM.ls (by simp)) (fun W hW => by simp [execOp, go_sem, Act.put, q1z, q1s0, q1s4, q1s15, q1s17]) ?_
      refine reg.e_take (i := 10) (.int .u8 (bt s 12)) rfl (by kernel_rfl) (by kernel_rfl) (by kernel_rfl) (by kernel_rfl) (fun c a w h => hQP c _ _ w rfl h) (reg.wanted_of 8 false 20 rfl (by kernel_rfl) (by simp [Act.put, q1z, q1s0, q1s4, q1s15, q1s17])) (hM.ls (by simp)) (fun W hW => by simp [execOp, go_sem, Act.put, q1z, q1s0, q1s4, q1s15, q1s17, H12.out]) ?_
      refine reg.e_take (i := 11) (.bool false) rfl (by kernel_rfl) (by kernel_rfl) (by kernel_rfl) (by kernel_rfl) (fun c a w h => hQP c _ _ w rfl h) (reg.wanted_of 8 false 20 rfl (by kernel_rfl) (by simp [Act.put, q1z, q1s0, q1s4, q1s15, q1s17])) (hM.ls (by simp)) (fun W hW => by simp [execOp, go_sem, Act.put, q1z, q1s0, q1s4, q1s15, q1s17, e3.out]) ?_
      refine reg.any_list #[true, true, true, true, true, true, true, true, true, true, true, true, false, false, false, false, false, false, false, false, false, false, false, false, false, false, false, false, false, false, false, false, false, false, false, false, false, false] (by kernel_rfl) ?_
      refine reg.any_abs (fun q => q.tmps.size = 68 ∧ (∀ h, q.tmps[0]'h = .string s) ∧ (∀ h, q.tmps[4]'h = .int .i64 (n : Int)) ∧ (∀ h, q.tmps[20]'h = .bool false) ∧ (∀ h, q.tmps[23]'h = .bool false)) ⟨by simp [Act.put, q1z, q1s0, q1s4, q1s15, q1s17], reg.at_of (by simp [Act.put, q1z, q1s0, q1s4, q1s15, q1s17]), reg.at_of (by simp [Act.put, q1z, q1s0, q1s4, q1s15, q1s17]), reg.at_of (by simp [Act.put, q1z, q1s0, q1s4, q1s15, q1s17]), reg.at_of (by simp [Act.put, q1z, q1s0, q1s4, q1s15, q1s17])⟩ ?_
      clear q1z q1s0 q1s4 q1s15 q1s17
      rintro q2 ⟨q2z, q2s0, q2s4, q2s20, q2s23⟩ hq2
      have HQ2 : Hid (q2 = _) := hq2
      clear hq2
      refine reg.e_take (i := 12) (.bool false) rfl (by kernel_rfl) (by kernel_rfl) (by kernel_rfl) (by kernel_rfl) (fun c a w h => hQP c _ _ w rfl h) (reg.wanted_of 8 false 20 rfl (by kernel_rfl) (by simp [Act.put, q2z, q2s0, q2s4, q2s20, q2s23])) (hM.ls (by simp)) (fun W hW => by simp [execOp, go_sem, Act.put, q2z, q2s0, q2s4, q2s20, q2s23]) ?_
      refine reg.e_pass (i := 13) rfl (by kernel_rfl) (by kernel_rfl) (by kernel_rfl) (by kernel_rfl) (fun c a w h => hQP c _ _ w rfl h) (reg.unwanted_of 12 true 24 rfl (by kernel_rfl) (by simp [Act.put, q2z, q2s0, q2s4, q2s20, q2s23])) (hM.ls (by simp)) ?_
      refine reg.e_pass (i := 14) rfl (by kernel_rfl) (by kernel_rfl) (by kernel_rfl) (by kernel_rfl) (fun c a w h => hQP c _ _ w rfl h) (reg.unwanted_of 12 true 24 rfl (by kernel_rfl) (by simp [Act.put, q2z, q2s0, q2s4, q2s20, q2s23])) (hM.ls (by simp)) ?_
      refine reg.e_pass (i := 15) rfl (by kernel_rfl) (by kernel_rfl) (by kernel_rfl) (by kernel_rfl) (fun c a w h => hQP c _ _ w rfl h) (reg.unwanted_of 12 true 24 rfl (by kernel_rfl) (by simp [Act.put, q2z, q2s0, q2s4, q2s20, q2s23])) (hM.ls (by simp)) ?_
      refine reg.e_take (i := 16) (.bool false) rfl (by kernel_rfl) (by kernel_rfl) (by kernel_rfl) (by kernel_rfl) (fun c a w h => hQP c _ _ w rfl h) (reg.wanted_of 8 false 20 rfl (by kernel_rfl) (by simp [Act.put, q2z, q2s0, q2s4, q2s20, q2s23])) (hM.ls (by simp)) (fun W hW => by simp [execOp, go_sem, Act.put, q2z, q2s0, q2s4, q2s20, q2s23]) ?_
      refine reg.e_take (i := 17) (.bool false) rfl (by kernel_rfl) (by kernel_rfl) (by kernel_rfl) (by kernel_rfl) (fun c a w h => hQP c _ _ w rfl h) (reg.wanted_none rfl) (hM.ls (by simp)) (fun W hW => by simp [execOp, go_sem, Act.put, q2z, q2s0, q2s4, q2s20, q2s23]) ?_
      refine reg.any_list #[true, true, true, true, true, true, true, true, true, true, true, true, true, true, true, true, true, true, false, false, false, false, false, false, false, false, false, false, false, false, false, false, false, false, false, false, false, false] (by kernel_rfl) ?_
      refine reg.any_abs (fun q => q.tmps.size = 68 ∧ (∀ h, q.tmps[0]'h = .string s) ∧ (∀ h, q.tmps[4]'h = .int .i64 (n : Int)) ∧ (∀ h, q.tmps[29]'h = .bool false)) ⟨by simp [Act.put, q2z, q2s0, q2s4, q2s20, q2s23], reg.at_of (by simp [Act.put, q2z, q2s0, q2s4, q2s20, q2s23]), reg.at_of (by simp [Act.put, q2z, q2s0, q2s4, q2s20, q2s23]), reg.at_of (by simp [Act.put, q2z, q2s0, q2s4, q2s20, q2s23])⟩ ?_
      clear q2z q2s0 q2s4 q2s20 q2s23
      rintro q3 ⟨q3z, q3s0, q3s4, q3s29⟩ hq3
      have HQ3 : Hid (q3 = _) := hq3
      clear hq3
      refine reg.e_take (i := 18) (.bool false) rfl (by kernel_rfl) (by kernel_rfl) (by kernel_rfl) (by kernel_rfl) (fun c a w h => hQP c _ _ w rfl h) (reg.wanted_none rfl) (hM.ls (by simp)) (fun W hW => by simp [execOp, go_sem, Act.put, q3z, q3s0, q3s4, q3s29]) ?_
      refine reg.e_take (i := 19) (.string s) rfl (by kernel_rfl) (by kernel_rfl) (by kernel_rfl) (by kernel_rfl) (fun c a w h => hQP c _ _ w rfl h) (reg.wanted_of 18 false 30 rfl (by kernel_rfl) (by simp [Act.put, q3z, q3s0, q3s4, q3s29])) (hM.ls (by simp)) (fun W hW => by simp [execOp, go_sem, Act.put, q3z, q3s0, q3s4, q3s29]) ?_
      refine reg.e_take (i := 20) (.int .u8 (bt s 13)) rfl (by kernel_rfl) (by kernel_rfl) (by kernel_rfl) (by kernel_rfl) (fun c a w h => hQP c _ _ w rfl h) (reg.wanted_of 18 false 30 rfl (by kernel_rfl) (by simp [Act.put, q3z, q3s0, q3s4, q3s29])) (hM.ls (by simp)) (fun W hW => by simp [execOp, go_sem, Act.put, q3z, q3s0, q3s4, q3s29, H13.out]) ?_
      refine reg.e_take (i := 21) (.bool false) rfl (by kernel_rfl) (by kernel_rfl) (by kernel_rfl) (by kernel_rfl) (fun c a w h => hQP c _ _ w rfl h) (reg.wanted_of 18 false 30 rfl (by kernel_rfl) (by simp [Act.put, q3z, q3s0, q3s4, q3s29])) (hM.ls (by simp)) (fun W hW => by simp [execOp, go_sem, Act.put, q3z, q3s0, q3s4, q3s29, e5.out]) ?_
      refine reg.e_take (i := 22) (.bool false) rfl (by kernel_rfl) (by kernel_rfl) (by kernel_rfl) (by kernel_rfl) (fun c a w h => hQP c _ _ w rfl h) (reg.wanted_none rfl) (hM.ls (by simp)) (fun W hW => by simp [execOp, go_sem, Act.put, q3z, q3s0, q3s4, q3s29]) ?_
      refine reg.e_take (i := 23) (.bool false) rfl (by kernel_rfl) (by kernel_rfl) (by kernel_rfl) (by kernel_rfl) (fun c a w h => hQP c _ _ w rfl h) (reg.wanted_none rfl) (hM.ls (by simp)) (fun W hW => by simp [execOp, go_sem, Act.put, q3z, q3s0, q3s4, q3s29]) ?_
      refine reg.any_list #[true, true, true, true, true, true, true, true, true, true, true, true, true, true, true, true, true, true, true, true, true, true, true, true, false, false, false, false, false, false, false, false, false, false, false, false, false, false] (by kernel_rfl) ?_
      refine reg.any_abs (fun q => q.tmps.size = 68 ∧ (∀ h, q.tmps[0]'h = .string s) ∧ (∀ h, q.tmps[4]'h = .int .i64 (n : Int)) ∧ (∀ h, q.tmps[35]'h = .bool false)) ⟨by simp [Act.put, q3z, q3s0, q3s4, q3s29], reg.at_of (by simp [Act.put, q3z, q3s0, q3s4, q3s29]), reg.at_of (by simp [Act.put, q3z, q3s0, q3s4, q3s29]), reg.at_of (by simp [Act.put, q3z, q3s0, q3s4, q3s29])⟩ ?_
      clear q3z q3s0 q3s4 q3s29
      rintro q4 ⟨q4z, q4s0, q4s4, q4s35⟩ hq4
      have HQ4 : Hid (q4 = _) := hq4
      clear hq4
      refine reg.e_take (i := 24) (.int .i64 (n : Int)) rfl (by kernel_rfl) (by kernel_rfl) (by kernel_rfl) (by kernel_rfl) (fun c a w h => hQP c _ _ w rfl h) (reg.wanted_of 23 false 35 rfl (by kernel_rfl) (by simp [Act.put, q4z, q4s0, q4s4, q4s35])) (hM.ls (by simp)) (fun W hW => by simp [execOp, go_sem, Act.put, q4z, q4s0, q4s4, q4s35]) ?_
      refine reg.e_one 25 (by kernel_rfl) rfl ?_
      refine reg.r_call (i := 25) 28 #[.int .i64 (n : Int), .int .i64 1, .int .i64 16] rfl (reg.wanted_of 23 false 35 rfl (by kernel_rfl) (by simp [Act.put, q4z, q4s0, q4s4, q4s35])) (by simp [execOp, go_sem, Act.put, q4z, q4s0, q4s4, q4s35]) ((HB2.out _).mono ?_)
      rintro re ru5 ⟨rfl, rhv⟩
      replace hM := hM.call rhv
      clear rhv
      refine ⟨_, rfl, hM.ls (by simp), ?_⟩
      refine reg.e_take (i := 26) (.bool false) rfl (by kernel_rfl) (by kernel_rfl) (by kernel_rfl) (by kernel_rfl) (fun c a w h => hQP c _ _ w rfl h) (reg.wanted_of 23 false 35 rfl (by kernel_rfl) (by simp [Act.put, q4z, q4s0, q4s4, q4s35])) (hM.ls (by simp)) (fun W hW => by simp [execOp, go_sem, Act.put, q4z, q4s0, q4s4, q4s35]) ?_
      refine reg.e_take (i := 27) (.bool false) rfl (by kernel_rfl) (by kernel_rfl) (by kernel_rfl) (by kernel_rfl) (fun c a w h => hQP c _ _ w rfl h) (reg.wanted_none rfl) (hM.ls (by simp)) (fun W hW => by simp [execOp, go_sem, Act.put, q4z, q4s0, q4s4, q4s35]) ?_
      refine reg.e_take (i := 28) (.bool false) rfl (by kernel_rfl) (by kernel_rfl) (by kernel_rfl) (by kernel_rfl) (fun c a w h => hQP c _ _ w rfl h) (reg.wanted_none rfl) (hM.ls (by simp)) (fun W hW => by simp [execOp, go_sem, Act.put, q4z, q4s0, q4s4, q4s35]) ?_
      refine reg.e_take (i := 29) (.string s) rfl (by kernel_rfl) (by kernel_rfl) (by kernel_rfl) (by kernel_rfl) (fun c a w h => hQP c _ _ w rfl h) (reg.wanted_of 28 false 40 rfl (by kernel_rfl) (by simp [Act.put, q4z, q4s0, q4s4, q4s35])) (hM.ls (by simp)) (fun W hW => by simp [execOp, go_sem, Act.put, q4z, q4s0, q4s4, q4s35]) ?_
      refine reg.e_take (i := 30) (.int .i64 (n : Int)) rfl (by kernel_rfl) (by kernel_rfl) (by kernel_rfl) (by kernel_rfl) (fun c a w h => hQP c _ _ w rfl h) (reg.wanted_of 28 false 40 rfl (by kernel_rfl) (by simp [Act.put, q4z, q4s0, q4s4, q4s35])) (hM.ls (by simp)) (fun W hW => by simp [execOp, go_sem, Act.put, q4z, q4s0, q4s4, q4s35]) ?_
      refine reg.any_list #[true, true, true, true, true, true, true, true, true, true, true, true, true, true, true, true, true, true, true, true, true, true, true, true, true, true, true, true, true, true, true, false, false, false, false, false, false, false] (by kernel_rfl) ?_
      refine reg.any_abs (fun q => q.tmps.size = 68 ∧ (∀ h, q.tmps[4]'h = .int .i64 (n : Int)) ∧ (∀ h, q.tmps[40]'h = .bool false) ∧ (∀ h, q.tmps[41]'h = .string s) ∧ (∀ h, q.tmps[42]'h = .int .i64 (n : Int))) ⟨by simp [Act.put, q4z, q4s0, q4s4, q4s35], reg.at_of (by simp [Act.put, q4z, q4s0, q4s4, q4s35]), reg.at_of (by simp [Act.put, q4z, q4s0, q4s4, q4s35]), reg.at_of (by simp [Act.put, q4z, q4s0, q4s4, q4s35]), reg.at_of (by simp [Act.put, q4z, q4s0, q4s4, q4s35])⟩ ?_
      clear q4z q4s0 q4s4 q4s35
      rintro q6 ⟨q6z, q6s4, q6s40, q6s41, q6s42⟩ hq6
      have HQ6 : Hid (q6 = _) := hq6
      clear hq6
      refine reg.e_take (i := 31) (.int .i64 (J : Int)) rfl (by kernel_rfl) (by kernel_rfl) (by kernel_rfl) (by kernel_rfl) (fun c a w h => hQP c _ _ w rfl h) (reg.wanted_of 28 false 40 rfl (by kernel_rfl) (by simp [Act.put, q6z, q6s4, q6s40, q6s41, q6s42])) (hM.ls (by simp)) (fun W hW => by simp [execOp, go_sem, Act.put, q6z, q6s4, q6s40, q6s41, q6s42, HJ.out]) ?_
      refine reg.e_take (i := 32) (.string (s.extract J s.size)) rfl (by kernel_rfl) (by kernel_rfl) (by kernel_rfl) (by kernel_rfl) (fun c a w h => hQP c _ _ w rfl h) (reg.wanted_of 28 false 40 rfl (by kernel_rfl) (by simp [Act.put, q6z, q6s4, q6s40, q6s41, q6s42])) (hM.ls (by simp)) (fun W hW => by simp [execOp, go_sem, Act.put, q6z, q6s4, q6s40, q6s41, q6s42, HSJ.out]) ?_
      refine reg.e_take (i := 33) (.int .i64 (n : Int)) rfl (by kernel_rfl) (by kernel_rfl) (by kernel_rfl) (by kernel_rfl) (fun c a w h => hQP c _ _ w rfl h) (reg.wanted_of 28 false 40 rfl (by kernel_rfl) (by simp [Act.put, q6z, q6s4, q6s40, q6s41, q6s42])) (hM.ls (by simp)) (fun W hW => by simp [execOp, go_sem, Act.put, q6z, q6s4, q6s40, q6s41, q6s42]) ?_
      refine reg.e_take (i := 34) (.int .i64 (k : Int)) rfl (by kernel_rfl) (by kernel_rfl) (by kernel_rfl) (by kernel_rfl) (fun c a w h => hQP c _ _ w rfl h) (reg.wanted_of 28 false 40 rfl (by kernel_rfl) (by simp [Act.put, q6z, q6s4, q6s40, q6s41, q6s42])) (hM.ls (by simp)) (fun W hW => by simp [execOp, go_sem, Act.put, q6z, q6s4, q6s40, q6s41, q6s42, HK.out]) ?_
      refine reg.e_one 35 (by kernel_rfl) rfl ?_
      refine reg.r_call (i := 35) 31 #[.string { data := #[0] }, .int .i64 (k : Int)] rfl (reg.wanted_of 28 false 40 rfl (by kernel_rfl) (by simp [Act.put, q6z, q6s4, q6s40, q6s41, q6s42])) (by simp [execOp, go_sem, Act.put, q6z, q6s4, q6s40, q6s41, q6s42]) ((HRP.out _).mono ?_)
      rintro re ru7 ⟨rfl, rhv⟩
      replace hM := hM.call rhv
      clear rhv
      refine ⟨_, rfl, hM.ls (by simp), ?_⟩
      refine reg.e_take (i := 36) (.bool true) rfl (by kernel_rfl) (by kernel_rfl) (by kernel_rfl) (by kernel_rfl) (fun c a w h => hQP c _ _ w rfl h) (reg.wanted_of 28 false 40 rfl (by kernel_rfl) (by simp [Act.put, q6z, q6s4, q6s40, q6s41, q6s42])) (hM.ls (by simp)) (fun W hW => ex_neqs rfl (by simp [go_sem, Act.put, q6z, q6s4, q6s40, q6s41, q6s42]) (by simp [go_sem, Act.put, q6z, q6s4, q6s40, q6s41, q6s42]) hnz.out) ?_
      refine reg.e_take (i := 37) (.bool true) rfl (by kernel_rfl) (by kernel_rfl) (by kernel_rfl) (by kernel_rfl) (fun c a w h => hQP c _ _ w rfl h) (reg.wanted_none rfl) (hM.ls (by simp)) (fun W hW => by simp [execOp, go_sem, Act.put, q6z, q6s4, q6s40, q6s41, q6s42]) ?_
      clear hQP
      refine reg.e_done (by kernel_rfl) ?_ _
      clear q6z q6s4 q6s40 q6s41 q6s42
      have hq6 := HQ6.out
      clear HQ6
      subst hq6
      have hq4 := HQ4.out
      clear HQ4
      subst hq4
      have hq3 := HQ3.out
      clear HQ3
      subst hq3
      have hq2 := HQ2.out
      clear HQ2
      subst hq2
      have hq1 := HQ1.out
      clear HQ1
      subst hq1
      subst ha0
      go_simp
      repeat' (first | (go_big_may; first | (refine v_build rfl rfl bld_wrap0 ?hbv ?_; (case hbv => simp [Act.eval, Act.put])) | (refine v_fill rfl rfl row_wrap rfl rfl hM.at0 (wpl_vs _) rfl ?_; intro u hv hc; replace hM := hM.put0 hc hv; clear hv hc)) | go_values | go_skip | go_guarded | go_step | go_upon | (simp only [Int.not_lt, Int.not_le] at *; go_simp))
      exact bodyPost_ret (ret_2 rfl rfl (ld_var row_wrap hM.at0 rfl) rfl) rfl ⟨rfl, hM.below⟩
    have hqz : s.extract J s.size = rpt 0 k := Classical.not_not.1 hqz
    have hnz : Hid (decide (s.extract J s.size ≠ rpt 0 k) = false) := decide_eq_false (fun q => q hqz)
    have hE : rdC s = 0 := (rd_rf (by omega)).2 ((rf_iff s).2 ⟨h31, (four_iff (by omega)).1 hq4, by rw [← hb12]; exact .inl hq12, by rw [← hb13]; omega, by rw [← hb14]; exact hqn, hzz.1 hqz⟩)
    have HE : Hid (rdC s = 0 ∧ rdW s = rdV s) := ⟨hE, if_pos hE⟩
    rw [HE.out.1, HE.out.2]
    have HL4 : Hid (∀ u, Calls Try.prog 33 #[.string (s.extract 4 s.size)] u fun e w' => e = .returned (.int .i64 (lgL (nums s) 4)) ∧ Below u.heap.size u w') := fun u => lowNum_at s 4 (by omega) hm u
    have HL8 : Hid (∀ u, Calls Try.prog 33 #[.string (s.extract 8 s.size)] u fun e w' => e = .returned (.int .i64 (lgL (nums s) 8)) ∧ Below u.heap.size u w') := fun u => lowNum_at s 8 (by omega) hm u
    have HS4 : Hid (∀ W, (Instr.slice 9 (.string s) (some (.int .i64 4)) none none).run Try.prog W = .ok (.string (s.extract 4 s.size)) W) := fun W => run_from s 4 (by omega) (by omega) W
    have HS8 : Hid (∀ W, (Instr.slice 9 (.string s) (some (.int .i64 8)) none none).run Try.prog W = .ok (.string (s.extract 8 s.size)) W) := fun W => run_from s 8 (by omega) (by omega) W
    have HS15 : Hid (∀ W, (Instr.slice 9 (.string s) (some (.int .i64 15)) (some (.int .i64 (J : Int))) none).run Try.prog W = .ok (.string (s.extract 15 J)) W) := fun W => run_part s 15 (J : Int) (by omega) (by omega) (by omega) W
    have HG0 : Hid (decide (0 < bt s 12) = false) := by show _ = _; rw [hq12]; rfl
    have HBD : Hid (Value.agg #[.int .i64 (lgL (nums s) 4), .int .i64 (lgL (nums s) 8), .bool false, .int .i64 (bt s 13), .string (s.extract 15 J)] = ag (wpl (rdV s))) := by
      have e1 : (nums s).getD 12 0 = 0 := by rw [← hb12]; exact hq12
      have e2 : (rdV s).cmd = s.extract 15 J := by show s.extract 15 (15 + min ((nums s).getD 14 0).toNat 16) = _; rw [hto, ← hJ]; congr 2; omega
      have e3 : (rdV s).inn = false := by show decide ((nums s).getD 12 0 = 128) = _; rw [e1]; rfl
      show _ = Value.agg #[.int .i64 (lgL (nums s) 4), .int .i64 (lgL (nums s) 8), .bool (rdV s).inn, .int .i64 ((nums s).getD 13 0), .string (rdV s).cmd]
      rw [e2, e3, hb13]
    clear hE hm hm' h4 h12 h13 hb12 hb13 hb14 hn l0 l1 m0 m1 hq4 h31 hq12 hq13 hqn HBT hzz hqz hto hJ hk
    go_enter Try.func12, Try.ntmps12
    repeat' (first | (go_big_may; first | (refine v_alloc rfl zer_wrap rfl ?_; intro u za hN; replace hM := hM.new hN; clear hN)) | go_values | go_skip | go_guarded | go_step | go_upon | (simp only [Int.not_lt, Int.not_le] at *; go_simp))
    clear h14 e14
    refine reg.wp_abs (fun a0 => a0.tmps.size = 68 ∧ (∀ h, a0.tmps[0]'h = .string s) ∧ (∀ h, a0.tmps[4]'h = .int .i64 (n : Int))) ⟨rfl, fun _ => rfl, fun _ => rfl⟩ ?_
    rintro a0 ⟨hsz, s0, s4⟩ ha0
    refine reg.wp_region_E (S := fun W => Ls W []) (E := fun _ => false) (by kernel_rfl) ?_
    replace hM := hM.drew
    refine reg.any_q (fun _ _ _ _ _ h => h) ?_
    intro hQP
    refine reg.e_take (i := 0) (.string s) rfl (by kernel_rfl) (by kernel_rfl) (by kernel_rfl) (by kernel_rfl) (fun c a w h => hQP c _ _ w rfl h) (reg.wanted_none rfl) (hM.ls (by simp)) (fun W hW => by simp [execOp, go_sem, Act.put, hsz, s0, s4]) ?_
    refine reg.e_take (i := 1) (.int .i64 (s.size : Int)) rfl (by kernel_rfl) (by kernel_rfl) (by kernel_rfl) (by kernel_rfl) (fun c a w h => hQP c _ _ w rfl h) (reg.wanted_none rfl) (hM.ls (by simp)) (fun W hW => by simp [execOp, go_sem, Act.put, hsz, s0, s4]) ?_
    refine reg.e_take (i := 2) (.bool false) rfl (by kernel_rfl) (by kernel_rfl) (by kernel_rfl) (by kernel_rfl) (fun c a w h => hQP c _ _ w rfl h) (reg.wanted_none rfl) (hM.ls (by simp)) (fun W hW => by simp [execOp, go_sem, Act.put, hsz, s0, s4, e1.out, E1.out]) ?_
    refine reg.e_take (i := 3) (.bool false) rfl (by kernel_rfl) (by kernel_rfl) (by kernel_rfl) (by kernel_rfl) (fun c a w h => hQP c _ _ w rfl h) (reg.wanted_none rfl) (hM.ls (by simp)) (fun W hW => by simp [execOp, go_sem, Act.put, hsz, s0, s4]) ?_
    refine reg.e_take (i := 4) (.string s) rfl (by kernel_rfl) (by kernel_rfl) (by kernel_rfl) (by kernel_rfl) (fun c a w h => hQP c _ _ w rfl h) (reg.wanted_of 3 false 15 rfl (by kernel_rfl) (by simp [Act.put, hsz])) (hM.ls (by simp)) (fun W hW => by simp [execOp, go_sem, Act.put, hsz, s0, s4]) ?_
    refine reg.e_take (i := 5) (.string (s.extract 0 4)) rfl (by kernel_rfl) (by kernel_rfl) (by kernel_rfl) (by kernel_rfl) (fun c a w h => hQP c _ _ w rfl h) (reg.wanted_of 3 false 15 rfl (by kernel_rfl) (by simp [Act.put, hsz])) (hM.ls (by simp)) (fun W hW => by simp [execOp, go_sem, Act.put, hsz, s0, s4, H4.out]) ?_
    refine reg.any_list #[true, true, true, true, true, true, false, false, false, false, false, false, false, false, false, false, false, false, false, false, false, false, false, false, false, false, false, false, false, false, false, false, false, false, false, false, false, false] (by kernel_rfl) ?_
    refine reg.any_abs (fun q => q.tmps.size = 68 ∧ (∀ h, q.tmps[0]'h = .string s) ∧ (∀ h, q.tmps[4]'h = .int .i64 (n : Int)) ∧ (∀ h, q.tmps[15]'h = .bool false) ∧ (∀ h, q.tmps[17]'h = .string (s.extract 0 4))) ⟨by simp [Act.put, hsz, s0, s4], reg.at_of (by simp [Act.put, hsz, s0, s4]), reg.at_of (by simp [Act.put, hsz, s0, s4]), reg.at_of (by simp [Act.put, hsz, s0, s4]), reg.at_of (by simp [Act.put, hsz, s0, s4])⟩ ?_
    clear hsz s0 s4
    rintro q1 ⟨q1z, q1s0, q1s4, q1s15, q1s17⟩ hq1
    have HQ1 : Hid (q1 = _) := hq1
    clear hq1
    refine reg.e_take (i := 6) (.bool false) rfl (by kernel_rfl) (by kernel_rfl) (by kernel_rfl) (by kernel_rfl) (fun c a w h => hQP c _ _ w rfl h) (reg.wanted_of 3 false 15 rfl (by kernel_rfl) (by simp [Act.put, q1z, q1s0, q1s4, q1s15, q1s17])) (hM.ls (by simp)) (fun W hW => ex_neqs rfl (by simp [go_sem, Act.put, q1z, q1s0, q1s4, q1s15, q1s17]) (by simp [go_sem, Act.put, q1z, q1s0, q1s4, q1s15, q1s17]) hne.out) ?_
    refine reg.e_take (i := 7) (.bool false) rfl (by kernel_rfl) (by kernel_rfl) (by kernel_rfl) (by kernel_rfl) (fun c a w h => hQP c _ _ w rfl h) (reg.wanted_none rfl) (hM.ls (by simp)) (fun W hW => by simp [execOp, go_sem, Act.put, q1z, q1s0, q1s4, q1s15, q1s17]) ?_
    refine reg.e_take (i := 8) (.bool false) rfl (by kernel_rfl) (by kernel_rfl) (by kernel_rfl) (by kernel_rfl) (fun c a w h => hQP c _ _ w rfl h) (reg.wanted_none rfl) (hM.ls (by simp)) (fun W hW => by simp [execOp, go_sem, Act.put, q1z, q1s0, q1s4, q1s15, q1s17]) ?_
    refine reg.e_take (i := 9) (.string s) rfl (by kernel_rfl) (by kernel_rfl) (by kernel_rfl) (by kernel_rfl) (fun c a w h => hQP c _ _ w rfl h) (reg.wanted_of 8 false 20 rfl (by kernel_rfl) (by simp [Act.put, q1z, q1s0, q1s4, q1s15, q1s17])) (hM.ls (by simp)) (fun W hW => by simp [execOp, go_sem, Act.put, q1z, q1s0, q1s4, q1s15, q1s17]) ?_
    refine reg.e_take (i := 10) (.int .u8 (bt s 12)) rfl (by kernel_rfl) (by kernel_rfl) (by kernel_rfl) (by kernel_rfl) (fun c a w h => hQP c _ _ w rfl h) (reg.wanted_of 8 false 20 rfl (by kernel_rfl) (by simp [Act.put, q1z, q1s0, q1s4, q1s15, q1s17])) (hM.ls (by simp)) (fun W hW => by simp [execOp, go_sem, Act.put, q1z, q1s0, q1s4, q1s15, q1s17, H12.out]) ?_
    refine reg.e_take (i := 11) (.bool false) rfl (by kernel_rfl) (by kernel_rfl) (by kernel_rfl) (by kernel_rfl) (fun c a w h => hQP c _ _ w rfl h) (reg.wanted_of 8 false 20 rfl (by kernel_rfl) (by simp [Act.put, q1z, q1s0, q1s4, q1s15, q1s17])) (hM.ls (by simp)) (fun W hW => by simp [execOp, go_sem, Act.put, q1z, q1s0, q1s4, q1s15, q1s17, e3.out]) ?_
    refine reg.any_list #[true, true, true, true, true, true, true, true, true, true, true, true, false, false, false, false, false, false, false, false, false, false, false, false, false, false, false, false, false, false, false, false, false, false, false, false, false, false] (by kernel_rfl) ?_
    refine reg.any_abs (fun q => q.tmps.size = 68 ∧ (∀ h, q.tmps[0]'h = .string s) ∧ (∀ h, q.tmps[4]'h = .int .i64 (n : Int)) ∧ (∀ h, q.tmps[20]'h = .bool false) ∧ (∀ h, q.tmps[23]'h = .bool false)) ⟨by simp [Act.put, q1z, q1s0, q1s4, q1s15, q1s17], reg.at_of (by simp [Act.put, q1z, q1s0, q1s4, q1s15, q1s17]), reg.at_of (by simp [Act.put, q1z, q1s0, q1s4, q1s15, q1s17]), reg.at_of (by simp [Act.put, q1z, q1s0, q1s4, q1s15, q1s17]), reg.at_of (by simp [Act.put, q1z, q1s0, q1s4, q1s15, q1s17])⟩ ?_
    clear q1z q1s0 q1s4 q1s15 q1s17
    rintro q2 ⟨q2z, q2s0, q2s4, q2s20, q2s23⟩ hq2
    have HQ2 : Hid (q2 = _) := hq2
    clear hq2
    refine reg.e_take (i := 12) (.bool false) rfl (by kernel_rfl) (by kernel_rfl) (by kernel_rfl) (by kernel_rfl) (fun c a w h => hQP c _ _ w rfl h) (reg.wanted_of 8 false 20 rfl (by kernel_rfl) (by simp [Act.put, q2z, q2s0, q2s4, q2s20, q2s23])) (hM.ls (by simp)) (fun W hW => by simp [execOp, go_sem, Act.put, q2z, q2s0, q2s4, q2s20, q2s23]) ?_
    refine reg.e_pass (i := 13) rfl (by kernel_rfl) (by kernel_rfl) (by kernel_rfl) (by kernel_rfl) (fun c a w h => hQP c _ _ w rfl h) (reg.unwanted_of 12 true 24 rfl (by kernel_rfl) (by simp [Act.put, q2z, q2s0, q2s4, q2s20, q2s23])) (hM.ls (by simp)) ?_
    refine reg.e_pass (i := 14) rfl (by kernel_rfl) (by kernel_rfl) (by kernel_rfl) (by kernel_rfl) (fun c a w h => hQP c _ _ w rfl h) (reg.unwanted_of 12 true 24 rfl (by kernel_rfl) (by simp [Act.put, q2z, q2s0, q2s4, q2s20, q2s23])) (hM.ls (by simp)) ?_
    refine reg.e_pass (i := 15) rfl (by kernel_rfl) (by kernel_rfl) (by kernel_rfl) (by kernel_rfl) (fun c a w h => hQP c _ _ w rfl h) (reg.unwanted_of 12 true 24 rfl (by kernel_rfl) (by simp [Act.put, q2z, q2s0, q2s4, q2s20, q2s23])) (hM.ls (by simp)) ?_
    refine reg.e_take (i := 16) (.bool false) rfl (by kernel_rfl) (by kernel_rfl) (by kernel_rfl) (by kernel_rfl) (fun c a w h => hQP c _ _ w rfl h) (reg.wanted_of 8 false 20 rfl (by kernel_rfl) (by simp [Act.put, q2z, q2s0, q2s4, q2s20, q2s23])) (hM.ls (by simp)) (fun W hW => by simp [execOp, go_sem, Act.put, q2z, q2s0, q2s4, q2s20, q2s23]) ?_
    refine reg.e_take (i := 17) (.bool false) rfl (by kernel_rfl) (by kernel_rfl) (by kernel_rfl) (by kernel_rfl) (fun c a w h => hQP c _ _ w rfl h) (reg.wanted_none rfl) (hM.ls (by simp)) (fun W hW => by simp [execOp, go_sem, Act.put, q2z, q2s0, q2s4, q2s20, q2s23]) ?_
    refine reg.any_list #[true, true, true, true, true, true, true, true, true, true, true, true, true, true, true, true, true, true, false, false, false, false, false, false, false, false, false, false, false, false, false, false, false, false, false, false, false, false] (by kernel_rfl) ?_
    refine reg.any_abs (fun q => q.tmps.size = 68 ∧ (∀ h, q.tmps[0]'h = .string s) ∧ (∀ h, q.tmps[4]'h = .int .i64 (n : Int)) ∧ (∀ h, q.tmps[29]'h = .bool false)) ⟨by simp [Act.put, q2z, q2s0, q2s4, q2s20, q2s23], reg.at_of (by simp [Act.put, q2z, q2s0, q2s4, q2s20, q2s23]), reg.at_of (by simp [Act.put, q2z, q2s0, q2s4, q2s20, q2s23]), reg.at_of (by simp [Act.put, q2z, q2s0, q2s4, q2s20, q2s23])⟩ ?_
    clear q2z q2s0 q2s4 q2s20 q2s23
    rintro q3 ⟨q3z, q3s0, q3s4, q3s29⟩ hq3
    have HQ3 : Hid (q3 = _) := hq3
    clear hq3
    refine reg.e_take (i := 18) (.bool false) rfl (by kernel_rfl) (by kernel_rfl) (by kernel_rfl) (by kernel_rfl) (fun c a w h => hQP c _ _ w rfl h) (reg.wanted_none rfl) (hM.ls (by simp)) (fun W hW => by simp [execOp, go_sem, Act.put, q3z, q3s0, q3s4, q3s29]) ?_
    refine reg.e_take (i := 19) (.string s) rfl (by kernel_rfl) (by kernel_rfl) (by kernel_rfl) (by kernel_rfl) (fun c a w h => hQP c _ _ w rfl h) (reg.wanted_of 18 false 30 rfl (by kernel_rfl) (by simp [Act.put, q3z, q3s0, q3s4, q3s29])) (hM.ls (by simp)) (fun W hW => by simp [execOp, go_sem, Act.put, q3z, q3s0, q3s4, q3s29]) ?_
    refine reg.e_take (i := 20) (.int .u8 (bt s 13)) rfl (by kernel_rfl) (by kernel_rfl) (by kernel_rfl) (by kernel_rfl) (fun c a w h => hQP c _ _ w rfl h) (reg.wanted_of 18 false 30 rfl (by kernel_rfl) (by simp [Act.put, q3z, q3s0, q3s4, q3s29])) (hM.ls (by simp)) (fun W hW => by simp [execOp, go_sem, Act.put, q3z, q3s0, q3s4, q3s29, H13.out]) ?_
    refine reg.e_take (i := 21) (.bool false) rfl (by kernel_rfl) (by kernel_rfl) (by kernel_rfl) (by kernel_rfl) (fun c a w h => hQP c _ _ w rfl h) (reg.wanted_of 18 false 30 rfl (by kernel_rfl) (by simp [Act.put, q3z, q3s0, q3s4, q3s29])) (hM.ls (by simp)) (fun W hW => by simp [execOp, go_sem, Act.put, q3z, q3s0, q3s4, q3s29, e5.out]) ?_
    refine reg.e_take (i := 22) (.bool false) rfl (by kernel_rfl) (by kernel_rfl) (by kernel_rfl) (by kernel_rfl) (fun c a w h => hQP c _ _ w rfl h) (reg.wanted_none rfl) (hM.ls (by simp)) (fun W hW => by simp [execOp, go_sem, Act.put, q3z, q3s0, q3s4, q3s29]) ?_
    refine reg.e_take (i := 23) (.bool false) rfl (by kernel_rfl) (by kernel_rfl) (by kernel_rfl) (by kernel_rfl) (fun c a w h => hQP c _ _ w rfl h) (reg.wanted_none rfl) (hM.ls (by simp)) (fun W hW => by simp [execOp, go_sem, Act.put, q3z, q3s0, q3s4, q3s29]) ?_
    refine reg.any_list #[true, true, true, true, true, true, true, true, true, true, true, true, true, true, true, true, true, true, true, true, true, true, true, true, false, false, false, false, false, false, false, false, false, false, false, false, false, false] (by kernel_rfl) ?_
    refine reg.any_abs (fun q => q.tmps.size = 68 ∧ (∀ h, q.tmps[0]'h = .string s) ∧ (∀ h, q.tmps[4]'h = .int .i64 (n : Int)) ∧ (∀ h, q.tmps[35]'h = .bool false)) ⟨by simp [Act.put, q3z, q3s0, q3s4, q3s29], reg.at_of (by simp [Act.put, q3z, q3s0, q3s4, q3s29]), reg.at_of (by simp [Act.put, q3z, q3s0, q3s4, q3s29]), reg.at_of (by simp [Act.put, q3z, q3s0, q3s4, q3s29])⟩ ?_
    clear q3z q3s0 q3s4 q3s29
    rintro q4 ⟨q4z, q4s0, q4s4, q4s35⟩ hq4
    have HQ4 : Hid (q4 = _) := hq4
    clear hq4
    refine reg.e_take (i := 24) (.int .i64 (n : Int)) rfl (by kernel_rfl) (by kernel_rfl) (by kernel_rfl) (by kernel_rfl) (fun c a w h => hQP c _ _ w rfl h) (reg.wanted_of 23 false 35 rfl (by kernel_rfl) (by simp [Act.put, q4z, q4s0, q4s4, q4s35])) (hM.ls (by simp)) (fun W hW => by simp [execOp, go_sem, Act.put, q4z, q4s0, q4s4, q4s35]) ?_
    refine reg.e_one 25 (by kernel_rfl) rfl ?_
    refine reg.r_call (i := 25) 28 #[.int .i64 (n : Int), .int .i64 1, .int .i64 16] rfl (reg.wanted_of 23 false 35 rfl (by kernel_rfl) (by simp [Act.put, q4z, q4s0, q4s4, q4s35])) (by simp [execOp, go_sem, Act.put, q4z, q4s0, q4s4, q4s35]) ((HB2.out _).mono ?_)
    rintro re ru5 ⟨rfl, rhv⟩
    replace hM := hM.call rhv
    clear rhv
    refine ⟨_, rfl, hM.ls (by simp), ?_⟩
    refine reg.e_take (i := 26) (.bool false) rfl (by kernel_rfl) (by kernel_rfl) (by kernel_rfl) (by kernel_rfl) (fun c a w h => hQP c _ _ w rfl h) (reg.wanted_of 23 false 35 rfl (by kernel_rfl) (by simp [Act.put, q4z, q4s0, q4s4, q4s35])) (hM.ls (by simp)) (fun W hW => by simp [execOp, go_sem, Act.put, q4z, q4s0, q4s4, q4s35]) ?_
    refine reg.e_take (i := 27) (.bool false) rfl (by kernel_rfl) (by kernel_rfl) (by kernel_rfl) (by kernel_rfl) (fun c a w h => hQP c _ _ w rfl h) (reg.wanted_none rfl) (hM.ls (by simp)) (fun W hW => by simp [execOp, go_sem, Act.put, q4z, q4s0, q4s4, q4s35]) ?_
    refine reg.e_take (i := 28) (.bool false) rfl (by kernel_rfl) (by kernel_rfl) (by kernel_rfl) (by kernel_rfl) (fun c a w h => hQP c _ _ w rfl h) (reg.wanted_none rfl) (hM.ls (by simp)) (fun W hW => by simp [execOp, go_sem, Act.put, q4z, q4s0, q4s4, q4s35]) ?_
    refine reg.e_take (i := 29) (.string s) rfl (by kernel_rfl) (by kernel_rfl) (by kernel_rfl) (by kernel_rfl) (fun c a w h => hQP c _ _ w rfl h) (reg.wanted_of 28 false 40 rfl (by kernel_rfl) (by simp [Act.put, q4z, q4s0, q4s4, q4s35])) (hM.ls (by simp)) (fun W hW => by simp [execOp, go_sem, Act.put, q4z, q4s0, q4s4, q4s35]) ?_
    refine reg.e_take (i := 30) (.int .i64 (n : Int)) rfl (by kernel_rfl) (by kernel_rfl) (by kernel_rfl) (by kernel_rfl) (fun c a w h => hQP c _ _ w rfl h) (reg.wanted_of 28 false 40 rfl (by kernel_rfl) (by simp [Act.put, q4z, q4s0, q4s4, q4s35])) (hM.ls (by simp)) (fun W hW => by simp [execOp, go_sem, Act.put, q4z, q4s0, q4s4, q4s35]) ?_
    refine reg.any_list #[true, true, true, true, true, true, true, true, true, true, true, true, true, true, true, true, true, true, true, true, true, true, true, true, true, true, true, true, true, true, true, false, false, false, false, false, false, false] (by kernel_rfl) ?_
    refine reg.any_abs (fun q => q.tmps.size = 68 ∧ (∀ h, q.tmps[4]'h = .int .i64 (n : Int)) ∧ (∀ h, q.tmps[40]'h = .bool false) ∧ (∀ h, q.tmps[41]'h = .string s) ∧ (∀ h, q.tmps[42]'h = .int .i64 (n : Int))) ⟨by simp [Act.put, q4z, q4s0, q4s4, q4s35], reg.at_of (by simp [Act.put, q4z, q4s0, q4s4, q4s35]), reg.at_of (by simp [Act.put, q4z, q4s0, q4s4, q4s35]), reg.at_of (by simp [Act.put, q4z, q4s0, q4s4, q4s35]), reg.at_of (by simp [Act.put, q4z, q4s0, q4s4, q4s35])⟩ ?_
    clear q4z q4s0 q4s4 q4s35
    rintro q6 ⟨q6z, q6s4, q6s40, q6s41, q6s42⟩ hq6
    have HQ6 : Hid (q6 = _) := hq6
    clear hq6
    refine reg.e_take (i := 31) (.int .i64 (J : Int)) rfl (by kernel_rfl) (by kernel_rfl) (by kernel_rfl) (by kernel_rfl) (fun c a w h => hQP c _ _ w rfl h) (reg.wanted_of 28 false 40 rfl (by kernel_rfl) (by simp [Act.put, q6z, q6s4, q6s40, q6s41, q6s42])) (hM.ls (by simp)) (fun W hW => by simp [execOp, go_sem, Act.put, q6z, q6s4, q6s40, q6s41, q6s42, HJ.out]) ?_
    refine reg.e_take (i := 32) (.string (s.extract J s.size)) rfl (by kernel_rfl) (by kernel_rfl) (by kernel_rfl) (by kernel_rfl) (fun c a w h => hQP c _ _ w rfl h) (reg.wanted_of 28 false 40 rfl (by kernel_rfl) (by simp [Act.put, q6z, q6s4, q6s40, q6s41, q6s42])) (hM.ls (by simp)) (fun W hW => by simp [execOp, go_sem, Act.put, q6z, q6s4, q6s40, q6s41, q6s42, HSJ.out]) ?_
    refine reg.e_take (i := 33) (.int .i64 (n : Int)) rfl (by kernel_rfl) (by kernel_rfl) (by kernel_rfl) (by kernel_rfl) (fun c a w h => hQP c _ _ w rfl h) (reg.wanted_of 28 false 40 rfl (by kernel_rfl) (by simp [Act.put, q6z, q6s4, q6s40, q6s41, q6s42])) (hM.ls (by simp)) (fun W hW => by simp [execOp, go_sem, Act.put, q6z, q6s4, q6s40, q6s41, q6s42]) ?_
    refine reg.e_take (i := 34) (.int .i64 (k : Int)) rfl (by kernel_rfl) (by kernel_rfl) (by kernel_rfl) (by kernel_rfl) (fun c a w h => hQP c _ _ w rfl h) (reg.wanted_of 28 false 40 rfl (by kernel_rfl) (by simp [Act.put, q6z, q6s4, q6s40, q6s41, q6s42])) (hM.ls (by simp)) (fun W hW => by simp [execOp, go_sem, Act.put, q6z, q6s4, q6s40, q6s41, q6s42, HK.out]) ?_
    refine reg.e_one 35 (by kernel_rfl) rfl ?_
    refine reg.r_call (i := 35) 31 #[.string { data := #[0] }, .int .i64 (k : Int)] rfl (reg.wanted_of 28 false 40 rfl (by kernel_rfl) (by simp [Act.put, q6z, q6s4, q6s40, q6s41, q6s42])) (by simp [execOp, go_sem, Act.put, q6z, q6s4, q6s40, q6s41, q6s42]) ((HRP.out _).mono ?_)
    rintro re ru7 ⟨rfl, rhv⟩
    replace hM := hM.call rhv
    clear rhv
    refine ⟨_, rfl, hM.ls (by simp), ?_⟩
    refine reg.e_take (i := 36) (.bool false) rfl (by kernel_rfl) (by kernel_rfl) (by kernel_rfl) (by kernel_rfl) (fun c a w h => hQP c _ _ w rfl h) (reg.wanted_of 28 false 40 rfl (by kernel_rfl) (by simp [Act.put, q6z, q6s4, q6s40, q6s41, q6s42])) (hM.ls (by simp)) (fun W hW => ex_neqs rfl (by simp [go_sem, Act.put, q6z, q6s4, q6s40, q6s41, q6s42]) (by simp [go_sem, Act.put, q6z, q6s4, q6s40, q6s41, q6s42]) hnz.out) ?_
    refine reg.e_take (i := 37) (.bool false) rfl (by kernel_rfl) (by kernel_rfl) (by kernel_rfl) (by kernel_rfl) (fun c a w h => hQP c _ _ w rfl h) (reg.wanted_none rfl) (hM.ls (by simp)) (fun W hW => by simp [execOp, go_sem, Act.put, q6z, q6s4, q6s40, q6s41, q6s42]) ?_
    clear hQP
    refine reg.e_done (by kernel_rfl) ?_ _
    clear q6z q6s4 q6s40 q6s41 q6s42
    have hq6 := HQ6.out
    clear HQ6
    subst hq6
    have hq4 := HQ4.out
    clear HQ4
    subst hq4
    have hq3 := HQ3.out
    clear HQ3
    subst hq3
    have hq2 := HQ2.out
    clear HQ2
    subst hq2
    have hq1 := HQ1.out
    clear HQ1
    subst hq1
    subst ha0
    go_simp
    repeat' (first | go_values | go_skip | go_guarded | go_step | go_upon | (simp only [Int.not_lt, Int.not_le] at *; go_simp))
    refine reg.wp_abs (fun a0 => a0.tmps.size = 68 ∧ (∀ h, a0.tmps[0]'h = .string s) ∧ (∀ h, a0.tmps[2]'h = .pointer (some ⟨za, 0, none⟩)) ∧ (∀ h, a0.tmps[4]'h = .int .i64 (n : Int))) ⟨rfl, fun _ => rfl, fun _ => rfl, fun _ => rfl⟩ ?_
    rintro a0 ⟨hsz, s0, s2, s4⟩ ha0
    refine reg.wp_region_E (S := fun W => Ls W []) (E := fun _ => false) (by kernel_rfl) ?_
    replace hM := hM.drew
    refine reg.e_take (i := 0) (.string s) rfl (by kernel_rfl) (by kernel_rfl) (by kernel_rfl) (by kernel_rfl) (fun _ _ _ h => h) (reg.wanted_none rfl) (hM.ls (by simp)) (fun W hW => by simp [execOp, go_sem, Act.put, hsz, s0, s2, s4]) ?_
    refine reg.e_take (i := 1) (.string (s.extract 4 s.size)) rfl (by kernel_rfl) (by kernel_rfl) (by kernel_rfl) (by kernel_rfl) (fun _ _ _ h => h) (reg.wanted_none rfl) (hM.ls (by simp)) (fun W hW => by simp [execOp, go_sem, Act.put, hsz, s0, s2, s4, HS4.out]) ?_
    refine reg.e_take (i := 3) (.string s) rfl (by kernel_rfl) (by kernel_rfl) (by kernel_rfl) (by kernel_rfl) (fun _ _ _ h => h) (reg.wanted_none rfl) (hM.ls (by simp)) (fun W hW => by simp [execOp, go_sem, Act.put, hsz, s0, s2, s4]) ?_
    refine reg.e_take (i := 4) (.string (s.extract 8 s.size)) rfl (by kernel_rfl) (by kernel_rfl) (by kernel_rfl) (by kernel_rfl) (fun _ _ _ h => h) (reg.wanted_none rfl) (hM.ls (by simp)) (fun W hW => by simp [execOp, go_sem, Act.put, hsz, s0, s2, s4, HS8.out]) ?_
    refine reg.e_take (i := 6) (.string s) rfl (by kernel_rfl) (by kernel_rfl) (by kernel_rfl) (by kernel_rfl) (fun _ _ _ h => h) (reg.wanted_none rfl) (hM.ls (by simp)) (fun W hW => by simp [execOp, go_sem, Act.put, hsz, s0, s2, s4]) ?_
    refine reg.e_take (i := 7) (.int .u8 (bt s 12)) rfl (by kernel_rfl) (by kernel_rfl) (by kernel_rfl) (by kernel_rfl) (fun _ _ _ h => h) (reg.wanted_none rfl) (hM.ls (by simp)) (fun W hW => by simp [execOp, go_sem, Act.put, hsz, s0, s2, s4, H12.out]) ?_
    refine reg.e_take (i := 8) (.bool false) rfl (by kernel_rfl) (by kernel_rfl) (by kernel_rfl) (by kernel_rfl) (fun _ _ _ h => h) (reg.wanted_none rfl) (hM.ls (by simp)) (fun W hW => by simp [execOp, go_sem, Act.put, hsz, s0, s2, s4, HG0.out]) ?_
    refine reg.e_take (i := 9) (.string s) rfl (by kernel_rfl) (by kernel_rfl) (by kernel_rfl) (by kernel_rfl) (fun _ _ _ h => h) (reg.wanted_none rfl) (hM.ls (by simp)) (fun W hW => by simp [execOp, go_sem, Act.put, hsz, s0, s2, s4]) ?_
    refine reg.e_take (i := 10) (.int .u8 (bt s 13)) rfl (by kernel_rfl) (by kernel_rfl) (by kernel_rfl) (by kernel_rfl) (fun _ _ _ h => h) (reg.wanted_none rfl) (hM.ls (by simp)) (fun W hW => by simp [execOp, go_sem, Act.put, hsz, s0, s2, s4, H13.out]) ?_
    refine reg.e_take (i := 11) (.int .i64 (bt s 13)) rfl (by kernel_rfl) (by kernel_rfl) (by kernel_rfl) (by kernel_rfl) (fun _ _ _ h => h) (reg.wanted_none rfl) (hM.ls (by simp)) (fun W hW => by simp [execOp, go_sem, Act.put, hsz, s0, s2, s4, e13.out]) ?_
    refine reg.e_take (i := 12) (.string s) rfl (by kernel_rfl) (by kernel_rfl) (by kernel_rfl) (by kernel_rfl) (fun _ _ _ h => h) (reg.wanted_none rfl) (hM.ls (by simp)) (fun W hW => by simp [execOp, go_sem, Act.put, hsz, s0, s2, s4]) ?_
    refine reg.e_take (i := 13) (.int .i64 (n : Int)) rfl (by kernel_rfl) (by kernel_rfl) (by kernel_rfl) (by kernel_rfl) (fun _ _ _ h => h) (reg.wanted_none rfl) (hM.ls (by simp)) (fun W hW => by simp [execOp, go_sem, Act.put, hsz, s0, s2, s4]) ?_
    refine reg.e_take (i := 14) (.int .i64 (J : Int)) rfl (by kernel_rfl) (by kernel_rfl) (by kernel_rfl) (by kernel_rfl) (fun _ _ _ h => h) (reg.wanted_none rfl) (hM.ls (by simp)) (fun W hW => by simp [execOp, go_sem, Act.put, hsz, s0, s2, s4, HJ.out]) ?_
    refine reg.e_take (i := 15) (.string (s.extract 15 J)) rfl (by kernel_rfl) (by kernel_rfl) (by kernel_rfl) (by kernel_rfl) (fun _ _ _ h => h) (reg.wanted_none rfl) (hM.ls (by simp)) (fun W hW => by simp [execOp, go_sem, Act.put, hsz, s0, s2, s4, HS15.out]) ?_
    refine reg.e_one 2 (by kernel_rfl) rfl ?_
    refine reg.r_call (i := 2) 33 #[.string (s.extract 4 s.size)] rfl (reg.wanted_none rfl) (by simp [execOp, go_sem, Act.put, hsz, s0, s2, s4]) ((HL4.out _).mono ?_)
    rintro re ru1 ⟨rfl, rhv⟩
    replace hM := hM.call rhv
    clear rhv
    refine ⟨_, rfl, hM.ls (by simp), ?_⟩
    refine reg.e_one 5 (by kernel_rfl) rfl ?_
    refine reg.r_call (i := 5) 33 #[.string (s.extract 8 s.size)] rfl (reg.wanted_none rfl) (by simp [execOp, go_sem, Act.put, hsz, s0, s2, s4]) ((HL8.out _).mono ?_)
    rintro re ru2 ⟨rfl, rhv⟩
    replace hM := hM.call rhv
    clear rhv
    refine ⟨_, rfl, hM.ls (by simp), ?_⟩
    refine reg.e_take (i := 16) (ag (wpl (rdV s))) rfl (by kernel_rfl) (by kernel_rfl) (by kernel_rfl) (by kernel_rfl) (fun _ _ _ h => h) (reg.wanted_none rfl) (hM.ls (by simp)) (fun W hW => by simp [execOp, go_sem, Act.put, hsz, s0, s2, s4, HBD.out]) ?_
    refine reg.e_one 17 (by kernel_rfl) rfl ?_
    refine r_fill (i := 17) rfl (reg.wanted_none rfl) rfl row_wrap (by simp [go_sem, Act.put, hsz, s0, s2, s4]) (by simp [go_sem, Act.put, hsz, s0, s2, s4]) hM.at0 (wpl_vs (rdV s)) rfl ?_
    intro ru3 rhv rhc
    replace hM := hM.put0 rhc rhv
    clear rhc rhv
    refine ⟨hM.ls (by simp), ?_⟩
    refine reg.e_take (i := 18) (.int .i64 0) rfl (by kernel_rfl) (by kernel_rfl) (by kernel_rfl) (by kernel_rfl) (fun _ _ _ h => h) (reg.wanted_none rfl) (hM.ls (by simp)) (fun W hW => by simp [execOp, go_sem, Act.put, hsz, s0, s2, s4]) ?_
    refine reg.e_done (by kernel_rfl) ?_ _
    subst ha0
    clear hsz s0 s2 s4
    go_simp
    repeat' (first | go_values | go_skip | go_guarded | go_step | go_upon | (simp only [Int.not_lt, Int.not_le] at *; go_simp))
    exact bodyPost_ret (ret_2 rfl rfl (ld_var row_wrap hM.at0 rfl) rfl) rfl ⟨rfl, hM.below⟩
  · have e3 : Hid ((bt s 12 != 0) = true) := by show _ = _; rw [hq12]; rfl
    have e4 : Hid ((bt s 12 != 128) = false) := by show _ = _; rw [hq12]; rfl
    by_cases hq13 : 15 < bt s 13
    · have e5 : Hid (decide (15 < bt s 13) = true) := decide_eq_true hq13
      have hE := rd_err HS.out (by rw [Bool.eq_false_iff]; intro q; have q := (rf_iff s).1 q; rw [← hb13] at q; omega)
      have HE : Hid (rdC s = 4 ∧ rdW s = wp0) := hE
      rw [HE.out.1, HE.out.2]
      clear hE hm hm' h4 h12 h13 hb12 hb13 hb14 hn l0 l1 m0 m1 hq4 h31 hq12 hq13
      go_enter Try.func12, Try.ntmps12
      repeat' (first | (go_big_may; first | (refine v_alloc rfl zer_wrap rfl ?_; intro u za hN; replace hM := hM.new hN; clear hN)) | go_values | go_skip | go_guarded | go_step | go_upon | (simp only [Int.not_lt, Int.not_le] at *; go_simp))
      clear h14 e14
      refine reg.wp_abs (fun a0 => a0.tmps.size = 68 ∧ (∀ h, a0.tmps[0]'h = .string s) ∧ (∀ h, a0.tmps[4]'h = .int .i64 (n : Int))) ⟨rfl, fun _ => rfl, fun _ => rfl⟩ ?_
      rintro a0 ⟨hsz, s0, s4⟩ ha0
      refine reg.wp_region_E (S := fun W => Ls W []) (E := fun _ => false) (by kernel_rfl) ?_
      replace hM := hM.drew
      refine reg.any_q (fun _ _ _ _ _ h => h) ?_
      intro hQP
      refine reg.e_take (i := 0) (.string s) rfl (by kernel_rfl) (by kernel_rfl) (by kernel_rfl) (by kernel_rfl) (fun c a w h => hQP c _ _ w rfl h) (reg.wanted_none rfl) (hM.ls (by simp)) (fun W hW => by simp [execOp, go_sem, Act.put, hsz, s0, s4]) ?_
      refine reg.e_take (i := 1) (.int .i64 (s.size : Int)) rfl (by kernel_rfl) (by kernel_rfl) (by kernel_rfl) (by kernel_rfl) (fun c a w h => hQP c _ _ w rfl h) (reg.wanted_none rfl) (hM.ls (by simp)) (fun W hW => by simp [execOp, go_sem, Act.put, hsz, s0, s4]) ?_
      refine reg.e_take (i := 2) (.bool false) rfl (by kernel_rfl) (by kernel_rfl) (by kernel_rfl) (by kernel_rfl) (fun c a w h => hQP c _ _ w rfl h) (reg.wanted_none rfl) (hM.ls (by simp)) (fun W hW => by simp [execOp, go_sem, Act.put, hsz, s0, s4, e1.out, E1.out]) ?_
      refine reg.e_take (i := 3) (.bool false) rfl (by kernel_rfl) (by kernel_rfl) (by kernel_rfl) (by kernel_rfl) (fun c a w h => hQP c _ _ w rfl h) (reg.wanted_none rfl) (hM.ls (by simp)) (fun W hW => by simp [execOp, go_sem, Act.put, hsz, s0, s4]) ?_
      refine reg.e_take (i := 4) (.string s) rfl (by kernel_rfl) (by kernel_rfl) (by kernel_rfl) (by kernel_rfl) (fun c a w h => hQP c _ _ w rfl h) (reg.wanted_of 3 false 15 rfl (by kernel_rfl) (by simp [Act.put, hsz])) (hM.ls (by simp)) (fun W hW => by simp [execOp, go_sem, Act.put, hsz, s0, s4]) ?_
      refine reg.e_take (i := 5) (.string (s.extract 0 4)) rfl (by kernel_rfl) (by kernel_rfl) (by kernel_rfl) (by kernel_rfl) (fun c a w h => hQP c _ _ w rfl h) (reg.wanted_of 3 false 15 rfl (by kernel_rfl) (by simp [Act.put, hsz])) (hM.ls (by simp)) (fun W hW => by simp [execOp, go_sem, Act.put, hsz, s0, s4, H4.out]) ?_
      refine reg.any_list #[true, true, true, true, true, true, false, false, false, false, false, false, false, false, false, false, false, false, false, false, false, false, false, false, false, false, false, false, false, false, false, false, false, false, false, false, false, false] (by kernel_rfl) ?_
      refine reg.any_abs (fun q => q.tmps.size = 68 ∧ (∀ h, q.tmps[0]'h = .string s) ∧ (∀ h, q.tmps[4]'h = .int .i64 (n : Int)) ∧ (∀ h, q.tmps[15]'h = .bool false) ∧ (∀ h, q.tmps[17]'h = .string (s.extract 0 4))) ⟨by simp [Act.put, hsz, s0, s4], reg.at_of (by simp [Act.put, hsz, s0, s4]), reg.at_of (by simp [Act.put, hsz, s0, s4]), reg.at_of (by simp [Act.put, hsz, s0, s4]), reg.at_of (by simp [Act.put, hsz, s0, s4])⟩ ?_
      clear hsz s0 s4
      rintro q1 ⟨q1z, q1s0, q1s4, q1s15, q1s17⟩ hq1
      have HQ1 : Hid (q1 = _) := hq1
      clear hq1
      refine reg.e_take (i := 6) (.bool false) rfl (by kernel_rfl) (by kernel_rfl) (by kernel_rfl) (by kernel_rfl) (fun c a w h => hQP c _ _ w rfl h) (reg.wanted_of 3 false 15 rfl (by kernel_rfl) (by simp [Act.put, q1z, q1s0, q1s4, q1s15, q1s17])) (hM.ls (by simp)) (fun W hW => ex_neqs rfl (by simp [go_sem, Act.put, q1z, q1s0, q1s4, q1s15, q1s17]) (by simp [go_sem, Act.put, q1z, q1s0, q1s4, q1s15, q1s17]) hne.out) ?_
      refine reg.e_take (i := 7) (.bool false) rfl (by kernel_rfl) (by kernel_rfl) (by kernel_rfl) (by kernel_rfl) (fun c a w h => hQP c _ _ w rfl h) (reg.wanted_none rfl) (hM.ls (by simp)) (fun W hW => by simp [execOp, go_sem, Act.put, q1z, q1s0, q1s4, q1s15, q1s17]) ?_
      refine reg.e_take (i := 8) (.bool false) rfl (by kernel_rfl) (by kernel_rfl) (by kernel_rfl) (by kernel_rfl) (fun c a w h => hQP c _ _ w rfl h) (reg.wanted_none rfl) (hM.ls (by simp)) (fun W hW => by simp [execOp, go_sem, Act.put, q1z, q1s0, q1s4, q1s15, q1s17]) ?_
      refine reg.e_take (i := 9) (.string s) rfl (by kernel_rfl) (by kernel_rfl) (by kernel_rfl) (by kernel_rfl) (fun c a w h => hQP c _ _ w rfl h) (reg.wanted_of 8 false 20 rfl (by kernel_rfl) (by simp [Act.put, q1z, q1s0, q1s4, q1s15, q1s17])) (hM.ls (by simp)) (fun W hW => by simp [execOp, go_sem, Act.put, q1z, q1s0, q1s4, q1s15, q1s17]) ?_
      refine reg.e_take (i := 10) (.int .u8 (bt s 12)) rfl (by kernel_rfl) (by kernel_rfl) (by kernel_rfl) (by kernel_rfl) (fun c a w h => hQP c _ _ w rfl h) (reg.wanted_of 8 false 20 rfl (by kernel_rfl) (by simp [Act.put, q1z, q1s0, q1s4, q1s15, q1s17])) (hM.ls (by simp)) (fun W hW => by simp [execOp, go_sem, Act.put, q1z, q1s0, q1s4, q1s15, q1s17, H12.out]) ?_
      refine reg.e_take (i := 11) (.bool true) rfl (by kernel_rfl) (by kernel_rfl) (by kernel_rfl) (by kernel_rfl) (fun c a w h => hQP c _ _ w rfl h) (reg.wanted_of 8 false 20 rfl (by kernel_rfl) (by simp [Act.put, q1z, q1s0, q1s4, q1s15, q1s17])) (hM.ls (by simp)) (fun W hW => by simp [execOp, go_sem, Act.put, q1z, q1s0, q1s4, q1s15, q1s17, e3.out]) ?_
      refine reg.any_list #[true, true, true, true, true, true, true, true, true, true, true, true, false, false, false, false, false, false, false, false, false, false, false, false, false, false, false, false, false, false, false, false, false, false, false, false, false, false] (by kernel_rfl) ?_
      refine reg.any_abs (fun q => q.tmps.size = 68 ∧ (∀ h, q.tmps[0]'h = .string s) ∧ (∀ h, q.tmps[4]'h = .int .i64 (n : Int)) ∧ (∀ h, q.tmps[20]'h = .bool false) ∧ (∀ h, q.tmps[23]'h = .bool true)) ⟨by simp [Act.put, q1z, q1s0, q1s4, q1s15, q1s17], reg.at_of (by simp [Act.put, q1z, q1s0, q1s4, q1s15, q1s17]), reg.at_of (by simp [Act.put, q1z, q1s0, q1s4, q1s15, q1s17]), reg.at_of (by simp [Act.put, q1z, q1s0, q1s4, q1s15, q1s17]), reg.at_of (by simp [Act.put, q1z, q1s0, q1s4, q1s15, q1s17])⟩ ?_
      clear q1z q1s0 q1s4 q1s15 q1s17
      rintro q2 ⟨q2z, q2s0, q2s4, q2s20, q2s23⟩ hq2
      have HQ2 : Hid (q2 = _) := hq2
      clear hq2
      refine reg.e_take (i := 12) (.bool true) rfl (by kernel_rfl) (by kernel_rfl) (by kernel_rfl) (by kernel_rfl) (fun c a w h => hQP c _ _ w rfl h) (reg.wanted_of 8 false 20 rfl (by kernel_rfl) (by simp [Act.put, q2z, q2s0, q2s4, q2s20, q2s23])) (hM.ls (by simp)) (fun W hW => by simp [execOp, go_sem, Act.put, q2z, q2s0, q2s4, q2s20, q2s23]) ?_
      refine reg.e_take (i := 13) (.string s) rfl (by kernel_rfl) (by kernel_rfl) (by kernel_rfl) (by kernel_rfl) (fun c a w h => hQP c _ _ w rfl h) (reg.wanted_of 12 true 24 rfl (by kernel_rfl) (by simp [Act.put, q2z, q2s0, q2s4, q2s20, q2s23])) (hM.ls (by simp)) (fun W hW => by simp [execOp, go_sem, Act.put, q2z, q2s0, q2s4, q2s20, q2s23]) ?_
      refine reg.e_take (i := 14) (.int .u8 (bt s 12)) rfl (by kernel_rfl) (by kernel_rfl) (by kernel_rfl) (by kernel_rfl) (fun c a w h => hQP c _ _ w rfl h) (reg.wanted_of 12 true 24 rfl (by kernel_rfl) (by simp [Act.put, q2z, q2s0, q2s4, q2s20, q2s23])) (hM.ls (by simp)) (fun W hW => by simp [execOp, go_sem, Act.put, q2z, q2s0, q2s4, q2s20, q2s23, H12.out]) ?_
      refine reg.e_take (i := 15) (.bool false) rfl (by kernel_rfl) (by kernel_rfl) (by kernel_rfl) (by kernel_rfl) (fun c a w h => hQP c _ _ w rfl h) (reg.wanted_of 12 true 24 rfl (by kernel_rfl) (by simp [Act.put, q2z, q2s0, q2s4, q2s20, q2s23])) (hM.ls (by simp)) (fun W hW => by simp [execOp, go_sem, Act.put, q2z, q2s0, q2s4, q2s20, q2s23, e4.out]) ?_
      refine reg.e_take (i := 16) (.bool false) rfl (by kernel_rfl) (by kernel_rfl) (by kernel_rfl) (by kernel_rfl) (fun c a w h => hQP c _ _ w rfl h) (reg.wanted_of 8 false 20 rfl (by kernel_rfl) (by simp [Act.put, q2z, q2s0, q2s4, q2s20, q2s23])) (hM.ls (by simp)) (fun W hW => by simp [execOp, go_sem, Act.put, q2z, q2s0, q2s4, q2s20, q2s23]) ?_
      refine reg.e_take (i := 17) (.bool false) rfl (by kernel_rfl) (by kernel_rfl) (by kernel_rfl) (by kernel_rfl) (fun c a w h => hQP c _ _ w rfl h) (reg.wanted_none rfl) (hM.ls (by simp)) (fun W hW => by simp [execOp, go_sem, Act.put, q2z, q2s0, q2s4, q2s20, q2s23]) ?_
      refine reg.any_list #[true, true, true, true, true, true, true, true, true, true, true, true, true, true, true, true, true, true, false, false, false, false, false, false, false, false, false, false, false, false, false, false, false, false, false, false, false, false] (by kernel_rfl) ?_
      refine reg.any_abs (fun q => q.tmps.size = 68 ∧ (∀ h, q.tmps[0]'h = .string s) ∧ (∀ h, q.tmps[4]'h = .int .i64 (n : Int)) ∧ (∀ h, q.tmps[29]'h = .bool false)) ⟨by simp [Act.put, q2z, q2s0, q2s4, q2s20, q2s23], reg.at_of (by simp [Act.put, q2z, q2s0, q2s4, q2s20, q2s23]), reg.at_of (by simp [Act.put, q2z, q2s0, q2s4, q2s20, q2s23]), reg.at_of (by simp [Act.put, q2z, q2s0, q2s4, q2s20, q2s23])⟩ ?_
      clear q2z q2s0 q2s4 q2s20 q2s23
      rintro q3 ⟨q3z, q3s0, q3s4, q3s29⟩ hq3
      have HQ3 : Hid (q3 = _) := hq3
      clear hq3
      refine reg.e_take (i := 18) (.bool false) rfl (by kernel_rfl) (by kernel_rfl) (by kernel_rfl) (by kernel_rfl) (fun c a w h => hQP c _ _ w rfl h) (reg.wanted_none rfl) (hM.ls (by simp)) (fun W hW => by simp [execOp, go_sem, Act.put, q3z, q3s0, q3s4, q3s29]) ?_
      refine reg.e_take (i := 19) (.string s) rfl (by kernel_rfl) (by kernel_rfl) (by kernel_rfl) (by kernel_rfl) (fun c a w h => hQP c _ _ w rfl h) (reg.wanted_of 18 false 30 rfl (by kernel_rfl) (by simp [Act.put, q3z, q3s0, q3s4, q3s29])) (hM.ls (by simp)) (fun W hW => by simp [execOp, go_sem, Act.put, q3z, q3s0, q3s4, q3s29]) ?_
      refine reg.e_take (i := 20) (.int .u8 (bt s 13)) rfl (by kernel_rfl) (by kernel_rfl) (by kernel_rfl) (by kernel_rfl) (fun c a w h => hQP c _ _ w rfl h) (reg.wanted_of 18 false 30 rfl (by kernel_rfl) (by simp [Act.put, q3z, q3s0, q3s4, q3s29])) (hM.ls (by simp)) (fun W hW => by simp [execOp, go_sem, Act.put, q3z, q3s0, q3s4, q3s29, H13.out]) ?_
      refine reg.e_take (i := 21) (.bool true) rfl (by kernel_rfl) (by kernel_rfl) (by kernel_rfl) (by kernel_rfl) (fun c a w h => hQP c _ _ w rfl h) (reg.wanted_of 18 false 30 rfl (by kernel_rfl) (by simp [Act.put, q3z, q3s0, q3s4, q3s29])) (hM.ls (by simp)) (fun W hW => by simp [execOp, go_sem, Act.put, q3z, q3s0, q3s4, q3s29, e5.out]) ?_
      refine reg.e_take (i := 22) (.bool true) rfl (by kernel_rfl) (by kernel_rfl) (by kernel_rfl) (by kernel_rfl) (fun c a w h => hQP c _ _ w rfl h) (reg.wanted_none rfl) (hM.ls (by simp)) (fun W hW => by simp [execOp, go_sem, Act.put, q3z, q3s0, q3s4, q3s29]) ?_
      refine reg.e_take (i := 23) (.bool true) rfl (by kernel_rfl) (by kernel_rfl) (by kernel_rfl) (by kernel_rfl) (fun c a w h => hQP c _ _ w rfl h) (reg.wanted_none rfl) (hM.ls (by simp)) (fun W hW => by simp [execOp, go_sem, Act.put, q3z, q3s0, q3s4, q3s29]) ?_
      refine reg.any_list #[true, true, true, true, true, true, true, true, true, true, true, true, true, true, true, true, true, true, true, true, true, true, true, true, false, false, false, false, false, false, false, false, false, false, false, false, false, false] (by kernel_rfl) ?_
      refine reg.any_abs (fun q => q.tmps.size = 68 ∧ (∀ h, q.tmps[0]'h = .string s) ∧ (∀ h, q.tmps[4]'h = .int .i64 (n : Int)) ∧ (∀ h, q.tmps[35]'h = .bool true)) ⟨by simp [Act.put, q3z, q3s0, q3s4, q3s29], reg.at_of (by simp [Act.put, q3z, q3s0, q3s4, q3s29]), reg.at_of (by simp [Act.put, q3z, q3s0, q3s4, q3s29]), reg.at_of (by simp [Act.put, q3z, q3s0, q3s4, q3s29])⟩ ?_
      clear q3z q3s0 q3s4 q3s29
      rintro q4 ⟨q4z, q4s0, q4s4, q4s35⟩ hq4
      have HQ4 : Hid (q4 = _) := hq4
      clear hq4
      refine reg.e_pass (i := 24) rfl (by kernel_rfl) (by kernel_rfl) (by kernel_rfl) (by kernel_rfl) (fun c a w h => hQP c _ _ w rfl h) (reg.unwanted_of 23 false 35 rfl (by kernel_rfl) (by simp [Act.put, q4z, q4s0, q4s4, q4s35])) (hM.ls (by simp)) ?_
      refine reg.e_pass (i := 25) rfl (by kernel_rfl) (by kernel_rfl) (by kernel_rfl) (by kernel_rfl) (fun c a w h => hQP c _ _ w rfl h) (reg.unwanted_of 23 false 35 rfl (by kernel_rfl) (by simp [Act.put, q4z, q4s0, q4s4, q4s35])) (hM.ls (by simp)) ?_
      refine reg.e_pass (i := 26) rfl (by kernel_rfl) (by kernel_rfl) (by kernel_rfl) (by kernel_rfl) (fun c a w h => hQP c _ _ w rfl h) (reg.unwanted_of 23 false 35 rfl (by kernel_rfl) (by simp [Act.put, q4z, q4s0, q4s4, q4s35])) (hM.ls (by simp)) ?_
      refine reg.e_take (i := 27) (.bool true) rfl (by kernel_rfl) (by kernel_rfl) (by kernel_rfl) (by kernel_rfl) (fun c a w h => hQP c _ _ w rfl h) (reg.wanted_none rfl) (hM.ls (by simp)) (fun W hW => by simp [execOp, go_sem, Act.put, q4z, q4s0, q4s4, q4s35]) ?_
      refine reg.e_take (i := 28) (.bool true) rfl (by kernel_rfl) (by kernel_rfl) (by kernel_rfl) (by kernel_rfl) (fun c a w h => hQP c _ _ w rfl h) (reg.wanted_none rfl) (hM.ls (by simp)) (fun W hW => by simp [execOp, go_sem, Act.put, q4z, q4s0, q4s4, q4s35]) ?_
      refine reg.e_pass (i := 29) rfl (by kernel_rfl) (by kernel_rfl) (by kernel_rfl) (by kernel_rfl) (fun c a w h => hQP c _ _ w rfl h) (reg.unwanted_of 28 false 40 rfl (by kernel_rfl) (by simp [Act.put, q4z, q4s0, q4s4, q4s35])) (hM.ls (by simp)) ?_
      refine reg.any_list #[true, true, true, true, true, true, true, true, true, true, true, true, true, true, true, true, true, true, true, true, true, true, true, true, true, true, true, true, true, true, false, false, false, false, false, false, false, false] (by kernel_rfl) ?_
      refine reg.any_abs (fun q => q.tmps.size = 68 ∧ (∀ h, q.tmps[4]'h = .int .i64 (n : Int)) ∧ (∀ h, q.tmps[40]'h = .bool true) ∧ (∀ h, q.tmps[41]'h = undef)) ⟨by simp [Act.put, q4z, q4s0, q4s4, q4s35], reg.at_of (by simp [Act.put, q4z, q4s0, q4s4, q4s35]), reg.at_of (by simp [Act.put, q4z, q4s0, q4s4, q4s35]), reg.at_of (by simp [Act.put, q4z, q4s0, q4s4, q4s35])⟩ ?_
      clear q4z q4s0 q4s4 q4s35
      rintro q5 ⟨q5z, q5s4, q5s40, q5s41⟩ hq5
      have HQ5 : Hid (q5 = _) := hq5
      clear hq5
      refine reg.e_pass (i := 30) rfl (by kernel_rfl) (by kernel_rfl) (by kernel_rfl) (by kernel_rfl) (fun c a w h => hQP c _ _ w rfl h) (reg.unwanted_of 28 false 40 rfl (by kernel_rfl) (by simp [Act.put, q5z, q5s4, q5s40, q5s41])) (hM.ls (by simp)) ?_
      refine reg.e_pass (i := 31) rfl (by kernel_rfl) (by kernel_rfl) (by kernel_rfl) (by kernel_rfl) (fun c a w h => hQP c _ _ w rfl h) (reg.unwanted_of 28 false 40 rfl (by kernel_rfl) (by simp [Act.put, q5z, q5s4, q5s40, q5s41])) (hM.ls (by simp)) ?_
      refine reg.e_pass (i := 32) rfl (by kernel_rfl) (by kernel_rfl) (by kernel_rfl) (by kernel_rfl) (fun c a w h => hQP c _ _ w rfl h) (reg.unwanted_of 28 false 40 rfl (by kernel_rfl) (by simp [Act.put, q5z, q5s4, q5s40, q5s41])) (hM.ls (by simp)) ?_
      refine reg.e_pass (i := 33) rfl (by kernel_rfl) (by kernel_rfl) (by kernel_rfl) (by kernel_rfl) (fun c a w h => hQP c _ _ w rfl h) (reg.unwanted_of 28 false 40 rfl (by kernel_rfl) (by simp [Act.put, q5z, q5s4, q5s40, q5s41])) (hM.ls (by simp)) ?_
      refine reg.e_pass (i := 34) rfl (by kernel_rfl) (by kernel_rfl) (by kernel_rfl) (by kernel_rfl) (fun c a w h => hQP c _ _ w rfl h) (reg.unwanted_of 28 false 40 rfl (by kernel_rfl) (by simp [Act.put, q5z, q5s4, q5s40, q5s41])) (hM.ls (by simp)) ?_
      refine reg.e_pass (i := 35) rfl (by kernel_rfl) (by kernel_rfl) (by kernel_rfl) (by kernel_rfl) (fun c a w h => hQP c _ _ w rfl h) (reg.unwanted_of 28 false 40 rfl (by kernel_rfl) (by simp [Act.put, q5z, q5s4, q5s40, q5s41])) (hM.ls (by simp)) ?_
      refine reg.any_list #[true, true, true, true, true, true, true, true, true, true, true, true, true, true, true, true, true, true, true, true, true, true, true, true, true, true, true, true, true, true, true, true, true, true, true, true, false, false] (by kernel_rfl) ?_
      refine reg.any_abs (fun q => q.tmps.size = 68 ∧ (∀ h, q.tmps[40]'h = .bool true) ∧ (∀ h, q.tmps[44]'h = undef) ∧ (∀ h, q.tmps[47]'h = undef)) ⟨by simp [Act.put, q5z, q5s4, q5s40, q5s41], reg.at_of (by simp [Act.put, q5z, q5s4, q5s40, q5s41]), reg.at_of (by simp [Act.put, q5z, q5s4, q5s40, q5s41]), reg.at_of (by simp [Act.put, q5z, q5s4, q5s40, q5s41])⟩ ?_
      clear q5z q5s4 q5s40 q5s41
      rintro q6 ⟨q6z, q6s40, q6s44, q6s47⟩ hq6
      have HQ6 : Hid (q6 = _) := hq6
      clear hq6
      refine reg.e_pass (i := 36) rfl (by kernel_rfl) (by kernel_rfl) (by kernel_rfl) (by kernel_rfl) (fun c a w h => hQP c _ _ w rfl h) (reg.unwanted_of 28 false 40 rfl (by kernel_rfl) (by simp [Act.put, q6z, q6s40, q6s44, q6s47])) (hM.ls (by simp)) ?_
      refine reg.e_take (i := 37) (.bool true) rfl (by kernel_rfl) (by kernel_rfl) (by kernel_rfl) (by kernel_rfl) (fun c a w h => hQP c _ _ w rfl h) (reg.wanted_none rfl) (hM.ls (by simp)) (fun W hW => by simp [execOp, go_sem, Act.put, q6z, q6s40, q6s44, q6s47]) ?_
      clear hQP
      refine reg.e_done (by kernel_rfl) ?_ _
      clear q6z q6s40 q6s44 q6s47
      have hq6 := HQ6.out
      clear HQ6
      subst hq6
      have hq5 := HQ5.out
      clear HQ5
      subst hq5
      have hq4 := HQ4.out
      clear HQ4
      subst hq4
      have hq3 := HQ3.out
      clear HQ3
      subst hq3
      have hq2 := HQ2.out
      clear HQ2
      subst hq2
      have hq1 := HQ1.out
      clear HQ1
      subst hq1
      subst ha0
      go_simp
      repeat' (first | (go_big_may; first | (refine v_build rfl rfl bld_wrap0 ?hbv ?_; (case hbv => simp [Act.eval, Act.put])) | (refine v_fill rfl rfl row_wrap rfl rfl hM.at0 (wpl_vs _) rfl ?_; intro u hv hc; replace hM := hM.put0 hc hv; clear hv hc)) | go_values | go_skip | go_guarded | go_step | go_upon | (simp only [Int.not_lt, Int.not_le] at *; go_simp))
      exact bodyPost_ret (ret_2 rfl rfl (ld_var row_wrap hM.at0 rfl) rfl) rfl ⟨rfl, hM.below⟩
    have e5 : Hid (decide (15 < bt s 13) = false) := decide_eq_false hq13
    by_cases hqn : ¬ (1 ≤ (n : Int) ∧ (n : Int) ≤ 16)
    · have HB2 : Hid (∀ u, Calls Try.prog 28 #[.int .i64 (n : Int), .int .i64 1, .int .i64 16] u fun e w' => e = .returned (.bool false) ∧ Below u.heap.size u w') := fun u => by
        have := HBT.out u
        rw [show (decide (1 ≤ (n : Int)) && decide ((n : Int) ≤ 16)) = false by rw [Bool.and_eq_false_iff, decide_eq_false_iff_not, decide_eq_false_iff_not]; omega] at this
        exact this
      have hE := rd_err HS.out (by rw [Bool.eq_false_iff]; intro q; have q := (rf_iff s).1 q; rw [← hb14] at q; exact hqn q.2.2.2.2.1)
      have HE : Hid (rdC s = 4 ∧ rdW s = wp0) := hE
      rw [HE.out.1, HE.out.2]
      clear hE hm hm' h4 h12 h13 hb12 hb13 hb14 hn l0 l1 m0 m1 hq4 h31 hq12 hq13 hqn HBT
      go_enter Try.func12, Try.ntmps12
      repeat' (first | (go_big_may; first | (refine v_alloc rfl zer_wrap rfl ?_; intro u za hN; replace hM := hM.new hN; clear hN)) | go_values | go_skip | go_guarded | go_step | go_upon | (simp only [Int.not_lt, Int.not_le] at *; go_simp))
      clear h14 e14
      refine reg.wp_abs (fun a0 => a0.tmps.size = 68 ∧ (∀ h, a0.tmps[0]'h = .string s) ∧ (∀ h, a0.tmps[4]'h = .int .i64 (n : Int))) ⟨rfl, fun _ => rfl, fun _ => rfl⟩ ?_
      rintro a0 ⟨hsz, s0, s4⟩ ha0
      refine reg.wp_region_E (S := fun W => Ls W []) (E := fun _ => false) (by kernel_rfl) ?_
      replace hM := hM.drew
      refine reg.any_q (fun _ _ _ _ _ h => h) ?_
      intro hQP
      refine reg.e_take (i := 0) (.string s) rfl (by kernel_rfl) (by kernel_rfl) (by kernel_rfl) (by kernel_rfl) (fun c a w h => hQP c _ _ w rfl h) (reg.wanted_none rfl) (hM.ls (by simp)) (fun W hW => by simp [execOp, go_sem, Act.put, hsz, s0, s4]) ?_
      refine reg.e_take (i := 1) (.int .i64 (s.size : Int)) rfl (by kernel_rfl) (by kernel_rfl) (by kernel_rfl) (by kernel_rfl) (fun c a w h => hQP c _ _ w rfl h) (reg.wanted_none rfl) (hM.ls (by simp)) (fun W hW => by simp [execOp, go_sem, Act.put, hsz, s0, s4]) ?_
      refine reg.e_take (i := 2) (.bool false) rfl (by kernel_rfl) (by kernel_rfl) (by kernel_rfl) (by kernel_rfl) (fun c a w h => hQP c _ _ w rfl h) (reg.wanted_none rfl) (hM.ls (by simp)) (fun W hW => by simp [execOp, go_sem, Act.put, hsz, s0, s4, e1.out, E1.out]) ?_
      refine reg.e_take (i := 3) (.bool false) rfl (by kernel_rfl) (by kernel_rfl) (by kernel_rfl) (by kernel_rfl) (fun c a w h => hQP c _ _ w rfl h) (reg.wanted_none rfl) (hM.ls (by simp)) (fun W hW => by simp [execOp, go_sem, Act.put, hsz, s0, s4]) ?_
      refine reg.e_take (i := 4) (.string s) rfl (by kernel_rfl) (by kernel_rfl) (by kernel_rfl) (by kernel_rfl) (fun c a w h => hQP c _ _ w rfl h) (reg.wanted_of 3 false 15 rfl (by kernel_rfl) (by simp [Act.put, hsz])) (hM.ls (by simp)) (fun W hW => by simp [execOp, go_sem, Act.put, hsz, s0, s4]) ?_
      refine reg.e_take (i := 5) (.string (s.extract 0 4)) rfl (by kernel_rfl) (by kernel_rfl) (by kernel_rfl) (by kernel_rfl) (fun c a w h => hQP c _ _ w rfl h) (reg.wanted_of 3 false 15 rfl (by kernel_rfl) (by simp [Act.put, hsz])) (hM.ls (by simp)) (fun W hW => by simp [execOp, go_sem, Act.put, hsz, s0, s4, H4.out]) ?_
      refine reg.any_list #[true, true, true, true, true, true, false, false, false, false, false, false, false, false, false, false, false, false, false, false, false, false, false, false, false, false, false, false, false, false, false, false, false, false, false, false, false, false] (by kernel_rfl) ?_
      refine reg.any_abs (fun q => q.tmps.size = 68 ∧ (∀ h, q.tmps[0]'h = .string s) ∧ (∀ h, q.tmps[4]'h = .int .i64 (n : Int)) ∧ (∀ h, q.tmps[15]'h = .bool false) ∧ (∀ h, q.tmps[17]'h = .string (s.extract 0 4))) ⟨by simp [Act.put, hsz, s0, s4], reg.at_of (by simp [Act.put, hsz, s0, s4]), reg.at_of (by simp [Act.put, hsz, s0, s4]), reg.at_of (by simp [Act.put, hsz, s0, s4]), reg.at_of (by simp [Act.put, hsz, s0, s4])⟩ ?_
      clear hsz s0 s4
      rintro q1 ⟨q1z, q1s0, q1s4, q1s15, q1s17⟩ hq1
      have HQ1 : Hid (q1 = _) := hq1
      clear hq1
      refine reg.e_take (i := 6) (.bool false) rfl (by kernel_rfl) (by kernel_rfl) (by kernel_rfl) (by kernel_rfl) (fun c a w h => hQP c _ _ w rfl h) (reg.wanted_of 3 false 15 rfl (by kernel_rfl) (by simp [Act.put, q1z, q1s0, q1s4, q1s15, q1s17])) (hM.ls (by simp)) (fun W hW => ex_neqs rfl (by simp [go_sem, Act.put, q1z, q1s0, q1s4, q1s15, q1s17]) (by simp [go_sem, Act.put, q1z, q1s0, q1s4, q1s15, q1s17]) hne.out) ?_
      refine reg.e_take (i := 7) (.bool false) rfl (by kernel_rfl) (by kernel_rfl) (by kernel_rfl) (by kernel_rfl) (fun c a w h => hQP c _ _ w rfl h) (reg.wanted_none rfl) (hM.ls (by simp)) (fun W hW => by simp [execOp, go_sem, Act.put, q1z, q1s0, q1s4, q1s15, q1s17]) ?_
      refine reg.e_take (i := 8) (.bool false) rfl (by kernel_rfl) (by kernel_rfl) (by kernel_rfl) (by kernel_rfl) (fun c a w h => hQP c _ _ w rfl h) (reg.wanted_none rfl) (hM.ls (by simp)) (fun W hW => by simp [execOp, go_sem, Act.put, q1z, q1s0, q1s4, q1s15, q1s17]) ?_
      refine reg.e_take (i := 9) (.string s) rfl (by kernel_rfl) (by kernel_rfl) (by kernel_rfl) (by kernel_rfl) (fun c a w h => hQP c _ _ w rfl h) (reg.wanted_of 8 false 20 rfl (by kernel_rfl) (by simp [Act.put, q1z, q1s0, q1s4, q1s15, q1s17])) (hM.ls (by simp)) (fun W hW => by simp [execOp, go_sem, Act.put, q1z, q1s0, q1s4, q1s15, q1s17]) ?_
      refine reg.e_take (i := 10) (.int .u8 (bt s 12)) rfl (by kernel_rfl) (by kernel_rfl) (by kernel_rfl) (by kernel_rfl) (fun c a w h => hQP c _ _ w rfl h) (reg.wanted_of 8 false 20 rfl (by kernel_rfl) (by simp [Act.put, q1z, q1s0, q1s4, q1s15, q1s17])) (hM.ls (by simp)) (fun W hW => by simp [execOp, go_sem, Act.put, q1z, q1s0, q1s4, q1s15, q1s17, H12.out]) ?_
      refine reg.e_take (i := 11) (.bool true) rfl (by kernel_rfl) (by kernel_rfl) (by kernel_rfl) (by kernel_rfl) (fun c a w h => hQP c _ _ w rfl h) (reg.wanted_of 8 false 20 rfl (by kernel_rfl) (by simp [Act.put, q1z, q1s0, q1s4, q1s15, q1s17])) (hM.ls (by simp)) (fun W hW => by simp [execOp, go_sem, Act.put, q1z, q1s0, q1s4, q1s15, q1s17, e3.out]) ?_
      refine reg.any_list #[true, true, true, true, true, true, true, true, true, true, true, true, false, false, false, false, false, false, false, false, false, false, false, false, false, false, false, false, false, false, false, false, false, false, false, false, false, false] (by kernel_rfl) ?_
      refine reg.any_abs (fun q => q.tmps.size = 68 ∧ (∀ h, q.tmps[0]'h = .string s) ∧ (∀ h, q.tmps[4]'h = .int .i64 (n : Int)) ∧ (∀ h, q.tmps[20]'h = .bool false) ∧ (∀ h, q.tmps[23]'h = .bool true)) ⟨by simp [Act.put, q1z, q1s0, q1s4, q1s15, q1s17], reg.at_of (by simp [Act.put, q1z, q1s0, q1s4, q1s15, q1s17]), reg.at_of (by simp [Act.put, q1z, q1s0, q1s4, q1s15, q1s17]), reg.at_of (by simp [Act.put, q1z, q1s0, q1s4, q1s15, q1s17]), reg.at_of (by simp [Act.put, q1z, q1s0, q1s4, q1s15, q1s17])⟩ ?_
      clear q1z q1s0 q1s4 q1s15 q1s17
      rintro q2 ⟨q2z, q2s0, q2s4, q2s20, q2s23⟩ hq2
      have HQ2 : Hid (q2 = _) := hq2
      clear hq2
      refine reg.e_take (i := 12) (.bool true) rfl (by kernel_rfl) (by kernel_rfl) (by kernel_rfl) (by kernel_rfl) (fun c a w h => hQP c _ _ w rfl h) (reg.wanted_of 8 false 20 rfl (by kernel_rfl) (by simp [Act.put, q2z, q2s0, q2s4, q2s20, q2s23])) (hM.ls (by simp)) (fun W hW => by simp [execOp, go_sem, Act.put, q2z, q2s0, q2s4, q2s20, q2s23]) ?_
      refine reg.e_take (i := 13) (.string s) rfl (by kernel_rfl) (by kernel_rfl) (by kernel_rfl) (by kernel_rfl) (fun c a w h => hQP c _ _ w rfl h) (reg.wanted_of 12 true 24 rfl (by kernel_rfl) (by simp [Act.put, q2z, q2s0, q2s4, q2s20, q2s23])) (hM.ls (by simp)) (fun W hW => by simp [execOp, go_sem, Act.put, q2z, q2s0, q2s4, q2s20, q2s23]) ?_
      refine reg.e_take (i := 14) (.int .u8 (bt s 12)) rfl (by kernel_rfl) (by kernel_rfl) (by kernel_rfl) (by kernel_rfl) (fun c a w h => hQP c _ _ w rfl h) (reg.wanted_of 12 true 24 rfl (by kernel_rfl) (by simp [Act.put, q2z, q2s0, q2s4, q2s20, q2s23])) (hM.ls (by simp)) (fun W hW => by simp [execOp, go_sem, Act.put, q2z, q2s0, q2s4, q2s20, q2s23, H12.out]) ?_
      refine reg.e_take (i := 15) (.bool false) rfl (by kernel_rfl) (by kernel_rfl) (by kernel_rfl) (by kernel_rfl) (fun c a w h => hQP c _ _ w rfl h) (reg.wanted_of 12 true 24 rfl (by kernel_rfl) (by simp [Act.put, q2z, q2s0, q2s4, q2s20, q2s23])) (hM.ls (by simp)) (fun W hW => by simp [execOp, go_sem, Act.put, q2z, q2s0, q2s4, q2s20, q2s23, e4.out]) ?_
      refine reg.e_take (i := 16) (.bool false) rfl (by kernel_rfl) (by kernel_rfl) (by kernel_rfl) (by kernel_rfl) (fun c a w h => hQP c _ _ w rfl h) (reg.wanted_of 8 false 20 rfl (by kernel_rfl) (by simp [Act.put, q2z, q2s0, q2s4, q2s20, q2s23])) (hM.ls (by simp)) (fun W hW => by simp [execOp, go_sem, Act.put, q2z, q2s0, q2s4, q2s20, q2s23]) ?_
      refine reg.e_take (i := 17) (.bool false) rfl (by kernel_rfl) (by kernel_rfl) (by kernel_rfl) (by kernel_rfl) (fun c a w h => hQP c _ _ w rfl h) (reg.wanted_none rfl) (hM.ls (by simp)) (fun W hW => by simp [execOp, go_sem, Act.put, q2z, q2s0, q2s4, q2s20, q2s23]) ?_
      refine reg.any_list #[true, true, true, true, true, true, true, true, true, true, true, true, true, true, true, true, true, true, false, false, false, false, false, false, false, false, false, false, false, false, false, false, false, false, false, false, false, false] (by kernel_rfl) ?_
      refine reg.any_abs (fun q => q.tmps.size = 68 ∧ (∀ h, q.tmps[0]'h = .string s) ∧ (∀ h, q.tmps[4]'h = .int .i64 (n : Int)) ∧ (∀ h, q.tmps[29]'h = .bool false)) ⟨by simp [Act.put, q2z, q2s0, q2s4, q2s20, q2s23], reg.at_of (by simp [Act.put, q2z, q2s0, q2s4, q2s20, q2s23]), reg.at_of (by simp [Act.put, q2z, q2s0, q2s4, q2s20, q2s23]), reg.at_of (by simp [Act.put, q2z, q2s0, q2s4, q2s20, q2s23])⟩ ?_
      clear q2z q2s0 q2s4 q2s20 q2s23
      rintro q3 ⟨q3z, q3s0, q3s4, q3s29⟩ hq3
      have HQ3 : Hid (q3 = _) := hq3
      clear hq3
      refine reg.e_take (i := 18) (.bool false) rfl (by kernel_rfl) (by kernel_rfl) (by kernel_rfl) (by kernel_rfl) (fun c a w h => hQP c _ _ w rfl h) (reg.wanted_none rfl) (hM.ls (by simp)) (fun W hW => by simp [execOp, go_sem, Act.put, q3z, q3s0, q3s4, q3s29]) ?_
      refine reg.e_take (i := 19) (.string s) rfl (by kernel_rfl) (by kernel_rfl) (by kernel_rfl) (by kernel_rfl) (fun c a w h => hQP c _ _ w rfl h) (reg.wanted_of 18 false 30 rfl (by kernel_rfl) (by simp [Act.put, q3z, q3s0, q3s4, q3s29])) (hM.ls (by simp)) (fun W hW => by simp [execOp, go_sem, Act.put, q3z, q3s0, q3s4, q3s29]) ?_
      refine reg.e_take (i := 20) (.int .u8 (bt s 13)) rfl (by kernel_rfl) (by kernel_rfl) (by kernel_rfl) (by kernel_rfl) (fun c a w h => hQP c _ _ w rfl h) (reg.wanted_of 18 false 30 rfl (by kernel_rfl) (by simp [Act.put, q3z, q3s0, q3s4, q3s29])) (hM.ls (by simp)) (fun W hW => by simp [execOp, go_sem, Act.put, q3z, q3s0, q3s4, q3s29, H13.out]) ?_
      refine reg.e_take (i := 21) (.bool false) rfl (by kernel_rfl) (by kernel_rfl) (by kernel_rfl) (by kernel_rfl) (fun c a w h => hQP c _ _ w rfl h) (reg.wanted_of 18 false 30 rfl (by kernel_rfl) (by simp [Act.put, q3z, q3s0, q3s4, q3s29])) (hM.ls (by simp)) (fun W hW => by simp [execOp, go_sem, Act.put, q3z, q3s0, q3s4, q3s29, e5.out]) ?_
      refine reg.e_take (i := 22) (.bool false) rfl (by kernel_rfl) (by kernel_rfl) (by kernel_rfl) (by kernel_rfl) (fun c a w h => hQP c _ _ w rfl h) (reg.wanted_none rfl) (hM.ls (by simp)) (fun W hW => by simp [execOp, go_sem, Act.put, q3z, q3s0, q3s4, q3s29]) ?_
      refine reg.e_take (i := 23) (.bool false) rfl (by kernel_rfl) (by kernel_rfl) (by kernel_rfl) (by kernel_rfl) (fun c a w h => hQP c _ _ w rfl h) (reg.wanted_none rfl) (hM.ls (by simp)) (fun W hW => by simp [execOp, go_sem, Act.put, q3z, q3s0, q3s4, q3s29]) ?_
      refine reg.any_list #[true, true, true, true, true, true, true, true, true, true, true, true, true, true, true, true, true, true, true, true, true, true, true, true, false, false, false, false, false, false, false, false, false, false, false, false, false, false] (by kernel_rfl) ?_
      refine reg.any_abs (fun q => q.tmps.size = 68 ∧ (∀ h, q.tmps[0]'h = .string s) ∧ (∀ h, q.tmps[4]'h = .int .i64 (n : Int)) ∧ (∀ h, q.tmps[35]'h = .bool false)) ⟨by simp [Act.put, q3z, q3s0, q3s4, q3s29], reg.at_of (by simp [Act.put, q3z, q3s0, q3s4, q3s29]), reg.at_of (by simp [Act.put, q3z, q3s0, q3s4, q3s29]), reg.at_of (by simp [Act.put, q3z, q3s0, q3s4, q3s29])⟩ ?_
      clear q3z q3s0 q3s4 q3s29
      rintro q4 ⟨q4z, q4s0, q4s4, q4s35⟩ hq4
      have HQ4 : Hid (q4 = _) := hq4
      clear hq4
      refine reg.e_take (i := 24) (.int .i64 (n : Int)) rfl (by kernel_rfl) (by kernel_rfl) (by kernel_rfl) (by kernel_rfl) (fun c a w h => hQP c _ _ w rfl h) (reg.wanted_of 23 false 35 rfl (by kernel_rfl) (by simp [Act.put, q4z, q4s0, q4s4, q4s35])) (hM.ls (by simp)) (fun W hW => by simp [execOp, go_sem, Act.put, q4z, q4s0, q4s4, q4s35]) ?_
      refine reg.e_one 25 (by kernel_rfl) rfl ?_
      refine reg.r_call (i := 25) 28 #[.int .i64 (n : Int), .int .i64 1, .int .i64 16] rfl (reg.wanted_of 23 false 35 rfl (by kernel_rfl) (by simp [Act.put, q4z, q4s0, q4s4, q4s35])) (by simp [execOp, go_sem, Act.put, q4z, q4s0, q4s4, q4s35]) ((HB2.out _).mono ?_)
      rintro re ru5 ⟨rfl, rhv⟩
      replace hM := hM.call rhv
      clear rhv
      refine ⟨_, rfl, hM.ls (by simp), ?_⟩
      refine reg.e_take (i := 26) (.bool true) rfl (by kernel_rfl) (by kernel_rfl) (by kernel_rfl) (by kernel_rfl) (fun c a w h => hQP c _ _ w rfl h) (reg.wanted_of 23 false 35 rfl (by kernel_rfl) (by simp [Act.put, q4z, q4s0, q4s4, q4s35])) (hM.ls (by simp)) (fun W hW => by simp [execOp, go_sem, Act.put, q4z, q4s0, q4s4, q4s35]) ?_
      refine reg.e_take (i := 27) (.bool true) rfl (by kernel_rfl) (by kernel_rfl) (by kernel_rfl) (by kernel_rfl) (fun c a w h => hQP c _ _ w rfl h) (reg.wanted_none rfl) (hM.ls (by simp)) (fun W hW => by simp [execOp, go_sem, Act.put, q4z, q4s0, q4s4, q4s35]) ?_
      refine reg.e_take (i := 28) (.bool true) rfl (by kernel_rfl) (by kernel_rfl) (by kernel_rfl) (by kernel_rfl) (fun c a w h => hQP c _ _ w rfl h) (reg.wanted_none rfl) (hM.ls (by simp)) (fun W hW => by simp [execOp, go_sem, Act.put, q4z, q4s0, q4s4, q4s35]) ?_
      refine reg.e_pass (i := 29) rfl (by kernel_rfl) (by kernel_rfl) (by kernel_rfl) (by kernel_rfl) (fun c a w h => hQP c _ _ w rfl h) (reg.unwanted_of 28 false 40 rfl (by kernel_rfl) (by simp [Act.put, q4z, q4s0, q4s4, q4s35])) (hM.ls (by simp)) ?_
      refine reg.e_pass (i := 30) rfl (by kernel_rfl) (by kernel_rfl) (by kernel_rfl) (by kernel_rfl) (fun c a w h => hQP c _ _ w rfl h) (reg.unwanted_of 28 false 40 rfl (by kernel_rfl) (by simp [Act.put, q4z, q4s0, q4s4, q4s35])) (hM.ls (by simp)) ?_
      refine reg.any_list #[true, true, true, true, true, true, true, true, true, true, true, true, true, true, true, true, true, true, true, true, true, true, true, true, true, true, true, true, true, true, true, false, false, false, false, false, false, false] (by kernel_rfl) ?_
      refine reg.any_abs (fun q => q.tmps.size = 68 ∧ (∀ h, q.tmps[4]'h = .int .i64 (n : Int)) ∧ (∀ h, q.tmps[40]'h = .bool true) ∧ (∀ h, q.tmps[41]'h = undef) ∧ (∀ h, q.tmps[42]'h = undef)) ⟨by simp [Act.put, q4z, q4s0, q4s4, q4s35], reg.at_of (by simp [Act.put, q4z, q4s0, q4s4, q4s35]), reg.at_of (by simp [Act.put, q4z, q4s0, q4s4, q4s35]), reg.at_of (by simp [Act.put, q4z, q4s0, q4s4, q4s35]), reg.at_of (by simp [Act.put, q4z, q4s0, q4s4, q4s35])⟩ ?_
      clear q4z q4s0 q4s4 q4s35
      rintro q6 ⟨q6z, q6s4, q6s40, q6s41, q6s42⟩ hq6
      have HQ6 : Hid (q6 = _) := hq6
      clear hq6
      refine reg.e_pass (i := 31) rfl (by kernel_rfl) (by kernel_rfl) (by kernel_rfl) (by kernel_rfl) (fun c a w h => hQP c _ _ w rfl h) (reg.unwanted_of 28 false 40 rfl (by kernel_rfl) (by simp [Act.put, q6z, q6s4, q6s40, q6s41, q6s42])) (hM.ls (by simp)) ?_
      refine reg.e_pass (i := 32) rfl (by kernel_rfl) (by kernel_rfl) (by kernel_rfl) (by kernel_rfl) (fun c a w h => hQP c _ _ w rfl h) (reg.unwanted_of 28 false 40 rfl (by kernel_rfl) (by simp [Act.put, q6z, q6s4, q6s40, q6s41, q6s42])) (hM.ls (by simp)) ?_
      refine reg.e_pass (i := 33) rfl (by kernel_rfl) (by kernel_rfl) (by kernel_rfl) (by kernel_rfl) (fun c a w h => hQP c _ _ w rfl h) (reg.unwanted_of 28 false 40 rfl (by kernel_rfl) (by simp [Act.put, q6z, q6s4, q6s40, q6s41, q6s42])) (hM.ls (by simp)) ?_
      refine reg.e_pass (i := 34) rfl (by kernel_rfl) (by kernel_rfl) (by kernel_rfl) (by kernel_rfl) (fun c a w h => hQP c _ _ w rfl h) (reg.unwanted_of 28 false 40 rfl (by kernel_rfl) (by simp [Act.put, q6z, q6s4, q6s40, q6s41, q6s42])) (hM.ls (by simp)) ?_
      refine reg.e_pass (i := 35) rfl (by kernel_rfl) (by kernel_rfl) (by kernel_rfl) (by kernel_rfl) (fun c a w h => hQP c _ _ w rfl h) (reg.unwanted_of 28 false 40 rfl (by kernel_rfl) (by simp [Act.put, q6z, q6s4, q6s40, q6s41, q6s42])) (hM.ls (by simp)) ?_
      refine reg.e_pass (i := 36) rfl (by kernel_rfl) (by kernel_rfl) (by kernel_rfl) (by kernel_rfl) (fun c a w h => hQP c _ _ w rfl h) (reg.unwanted_of 28 false 40 rfl (by kernel_rfl) (by simp [Act.put, q6z, q6s4, q6s40, q6s41, q6s42])) (hM.ls (by simp)) ?_
      refine reg.any_list #[true, true, true, true, true, true, true, true, true, true, true, true, true, true, true, true, true, true, true, true, true, true, true, true, true, true, true, true, true, true, true, true, true, true, true, true, true, false] (by kernel_rfl) ?_
      refine reg.any_abs (fun q => q.tmps.size = 68 ∧ (∀ h, q.tmps[40]'h = .bool true) ∧ (∀ h, q.tmps[48]'h = undef)) ⟨by simp [Act.put, q6z, q6s4, q6s40, q6s41, q6s42], reg.at_of (by simp [Act.put, q6z, q6s4, q6s40, q6s41, q6s42]), reg.at_of (by simp [Act.put, q6z, q6s4, q6s40, q6s41, q6s42])⟩ ?_
      clear q6z q6s4 q6s40 q6s41 q6s42
      rintro q7 ⟨q7z, q7s40, q7s48⟩ hq7
      have HQ7 : Hid (q7 = _) := hq7
      clear hq7
      refine reg.e_take (i := 37) (.bool true) rfl (by kernel_rfl) (by kernel_rfl) (by kernel_rfl) (by kernel_rfl) (fun c a w h => hQP c _ _ w rfl h) (reg.wanted_none rfl) (hM.ls (by simp)) (fun W hW => by simp [execOp, go_sem, Act.put, q7z, q7s40, q7s48]) ?_
      clear hQP
      refine reg.e_done (by kernel_rfl) ?_ _
      clear q7z q7s40 q7s48
      have hq7 := HQ7.out
      clear HQ7
      subst hq7
      have hq6 := HQ6.out
      clear HQ6
      subst hq6
      have hq4 := HQ4.out
      clear HQ4
      subst hq4
      have hq3 := HQ3.out
      clear HQ3
      subst hq3
      have hq2 := HQ2.out
      clear HQ2
      subst hq2
      have hq1 := HQ1.out
      clear HQ1
      subst hq1
      subst ha0
      go_simp
      repeat' (first | (go_big_may; first | (refine v_build rfl rfl bld_wrap0 ?hbv ?_; (case hbv => simp [Act.eval, Act.put])) | (refine v_fill rfl rfl row_wrap rfl rfl hM.at0 (wpl_vs _) rfl ?_; intro u hv hc; replace hM := hM.put0 hc hv; clear hv hc)) | go_values | go_skip | go_guarded | go_step | go_upon | (simp only [Int.not_lt, Int.not_le] at *; go_simp))
      exact bodyPost_ret (ret_2 rfl rfl (ld_var row_wrap hM.at0 rfl) rfl) rfl ⟨rfl, hM.below⟩
    have hqn : 1 ≤ (n : Int) ∧ (n : Int) ≤ 16 := Classical.not_not.1 hqn
    have HB2 : Hid (∀ u, Calls Try.prog 28 #[.int .i64 (n : Int), .int .i64 1, .int .i64 16] u fun e w' => e = .returned (.bool true) ∧ Below u.heap.size u w') := fun u => by
      have := HBT.out u
      rw [show (decide (1 ≤ (n : Int)) && decide ((n : Int) ≤ 16)) = true by rw [Bool.and_eq_true, decide_eq_true_eq, decide_eq_true_eq]; exact hqn] at this
      exact this
    obtain ⟨J, hJ⟩ : ∃ J : Nat, 15 + n = J := ⟨_, rfl⟩
    obtain ⟨k, hk⟩ : ∃ k : Nat, 16 - n = k := ⟨_, rfl⟩
    have HJ : Hid (IntKind.i64.wrap (15 + (n : Int)) = (J : Int)) := by show _ = _; rw [IntKind.wrap_i64]; omega
    have HK : Hid (IntKind.i64.wrap (16 - (n : Int)) = (k : Int)) := by show _ = _; rw [IntKind.wrap_i64]; omega
    have HSJ : Hid (∀ W, (Instr.slice 9 (.string s) (some (.int .i64 (J : Int))) none none).run Try.prog W = .ok (.string (s.extract J s.size)) W) := fun W => run_from s (J : Int) (by omega) (by omega) W
    have HRP : Hid (∀ u, Calls Try.prog 31 #[.string ⟨#[0]⟩, .int .i64 (k : Int)] u fun e w' => e = .returned (.string (rpt 0 k)) ∧ Below u.heap.size u w') := fun u => repeat_any 0 k (by omega) u
    have hto : ((nums s).getD 14 0).toNat = n := by rw [← hb14]; exact Int.toNat_natCast n
    have hzz : (s.extract J s.size = rpt 0 k) ↔ (nums s).drop (15 + ((nums s).getD 14 0).toNat) = List.replicate (16 - ((nums s).getD 14 0).toNat) 0 := by
      rw [hto, hJ, hk, ← nums_from, show List.replicate k (0 : Int) = nums (rpt 0 k) from (rpt_nums 0 k).symm]
      exact ⟨fun q => by rw [q], nums_inj⟩
    by_cases hqz : ¬ s.extract J s.size = rpt 0 k
    · have hnz : Hid (decide (s.extract J s.size ≠ rpt 0 k) = true) := decide_eq_true hqz
      have hE := rd_err HS.out (by rw [Bool.eq_false_iff]; intro q; have q := (rf_iff s).1 q; exact hqz (hzz.2 q.2.2.2.2.2))
      have HE : Hid (rdC s = 4 ∧ rdW s = wp0) := hE
      rw [HE.out.1, HE.out.2]
      clear hE hm hm' h4 h12 h13 hb12 hb13 hb14 hn l0 l1 m0 m1 hq4 h31 hq12 hq13 hqn HBT hzz hqz hto hJ hk
      go_enter Try.func12, Try.ntmps12
      repeat' (first | (go_big_may; first | (refine v_alloc rfl zer_wrap rfl ?_; intro u za hN; replace hM := hM.new hN; clear hN)) | go_values | go_skip | go_guarded | go_step | go_upon | (simp only [Int.not_lt, Int.not_le] at *; go_simp))
      clear h14 e14
      refine reg.wp_abs (fun a0 => a0.tmps.size = 68 ∧ (∀ h, a0.tmps[0]'h = .string s) ∧ (∀ h, a0.tmps[4]'h = .int .i64 (n : Int))) ⟨rfl, fun _ => rfl, fun _ => rfl⟩ ?_
      rintro a0 ⟨hsz, s0, s4⟩ ha0
      refine reg.wp_region_E (S := fun W => Ls W []) (E := fun _ => false) (by kernel_rfl) ?_
      replace hM := hM.drew
      refine reg.any_q (fun _ _ _ _ _ h => h) ?_
      intro hQP
      refine reg.e_take (i := 0) (.string s) rfl (by kernel_rfl) (by kernel_rfl) (by kernel_rfl) (by kernel_rfl) (fun c a w h => hQP c _ _ w rfl h) (reg.wanted_none rfl) (hM.ls (by simp)) (fun W hW => by simp [execOp, go_sem, Act.put, hsz, s0, s4]) ?_
      refine reg.e_take (i := 1) (.int .i64 (s.size : Int)) rfl (by kernel_rfl) (by kernel_rfl) (by kernel_rfl) (by kernel_rfl) (fun c a w h => hQP c _ _ w rfl h) (reg.wanted_none rfl) (hM.ls (by simp)) (fun W hW => by simp [execOp, go_sem, Act.put, hsz, s0, s4]) ?_
      refine reg.e_take (i := 2) (.bool false) rfl (by kernel_rfl) (by kernel_rfl) (by kernel_rfl) (by kernel_rfl) (fun c a w h => hQP c _ _ w rfl h) (reg.wanted_none rfl) (hM.ls (by simp)) (fun W hW => by simp [execOp, go_sem, Act.put, hsz, s0, s4, e1.out, E1.out]) ?_
      refine reg.e_take (i := 3) (.bool false) rfl (by kernel_rfl) (by kernel_rfl) (by kernel_rfl) (by kernel_rfl) (fun c a w h => hQP c _ _ w rfl h) (reg.wanted_none rfl) (hM.ls (by simp)) (fun W hW => by simp [execOp, go_sem, Act.put, hsz, s0, s4]) ?_
      refine reg.e_take (i := 4) (.string s) rfl (by kernel_rfl) (by kernel_rfl) (by kernel_rfl) (by kernel_rfl) (fun c a w h => hQP c _ _ w rfl h) (reg.wanted_of 3 false 15 rfl (by kernel_rfl) (by simp [Act.put, hsz])) (hM.ls (by simp)) (fun W hW => by simp [execOp, go_sem, Act.put, hsz, s0, s4]) ?_
      refine reg.e_take (i := 5) (.string (s.extract 0 4)) rfl (by kernel_rfl) (by kernel_rfl) (by kernel_rfl) (by kernel_rfl) (fun c a w h => hQP c _ _ w rfl h) (reg.wanted_of 3 false 15 rfl (by kernel_rfl) (by simp [Act.put, hsz])) (hM.ls (by simp)) (fun W hW => by simp [execOp, go_sem, Act.put, hsz, s0, s4, H4.out]) ?_
      refine reg.any_list #[true, true, true, true, true, true, false, false, false, false, false, false, false, false, false, false, false, false, false, false, false, false, false, false, false, false, false, false, false, false, false, false, false, false, false, false, false, false] (by kernel_rfl) ?_
      refine reg.any_abs (fun q => q.tmps.size = 68 ∧ (∀ h, q.tmps[0]'h = .string s) ∧ (∀ h, q.tmps[4]'h = .int .i64 (n : Int)) ∧ (∀ h, q.tmps[15]'h = .bool false) ∧ (∀ h, q.tmps[17]'h = .string (s.extract 0 4))) ⟨by simp [Act.put, hsz, s0, s4], reg.at_of (by simp [Act.put, hsz, s0, s4]), reg.at_of (by simp [Act.put, hsz, s0, s4]), reg.at_of (by simp [Act.put, hsz, s0, s4]), reg.at_of (by simp [Act.put, hsz, s0, s4])⟩ ?_
      clear hsz s0 s4
      rintro q1 ⟨q1z, q1s0, q1s4, q1s15, q1s17⟩ hq1
      have HQ1 : Hid (q1 = _) := hq1
      clear hq1
      refine reg.e_take (i := 6) (.bool false) rfl (by kernel_rfl) (by kernel_rfl) (by kernel_rfl) (by kernel_rfl) (fun c a w h => hQP c _ _ w rfl h) (reg.wanted_of 3 false 15 rfl (by kernel_rfl) (by simp [Act.put, q1z, q1s0, q1s4, q1s15, q1s17])) (hM.ls (by simp)) (fun W hW => ex_neqs rfl (by simp [go_sem, Act.put, q1z, q1s0, q1s4, q1s15, q1s17]) (by simp [go_sem, Act.put, q1z, q1s0, q1s4, q1s15, q1s17]) hne.out) ?_
      refine reg.e_take (i := 7) (.bool false) rfl (by kernel_rfl) (by kernel_rfl) (by kernel_rfl) (by kernel_rfl) (fun c a w h => hQP c _ _ w rfl h) (reg.wanted_none rfl) (hM.ls (by simp)) (fun W hW => by simp [execOp, go_sem, Act.put, q1z, q1s0, q1s4, q1s15, q1s17]) ?_
      refine reg.e_take (i := 8) (.bool false) rfl (by kernel_rfl) (by kernel_rfl) (by kernel_rfl) (by kernel_rfl) (fun c a w h => hQP c _ _ w rfl h) (reg.wanted_none rfl) (hM.ls (by simp)) (fun W hW => by simp [execOp, go_sem, Act.put, q1z, q1s0, q1s4, q1s15, q1s17]) ?_
      refine reg.e_take (i := 9) (.string s) rfl (by kernel_rfl) (by kernel_rfl) (by kernel_rfl) (by kernel_rfl) (fun c a w h => hQP c _ _ w rfl h) (reg.wanted_of 8 false 20 rfl (by kernel_rfl) (by simp [Act.put, q1z, q1s0, q1s4, q1s15, q1s17])) (hM.ls (by simp)) (fun W hW => by simp [execOp, go_sem, Act.put, q1z, q1s0, q1s4, q1s15, q1s17]) ?_
      refine reg.e_take (i := 10) (.int .u8 (bt s 12)) rfl (by kernel_rfl) (by kernel_rfl) (by kernel_rfl) (by kernel_rfl) (fun c a w h => hQP c _ _ w rfl h) (reg.wanted_of 8 false 20 rfl (by kernel_rfl) (by simp [Act.put, q1z, q1s0, q1s4, q1s15, q1s17])) (hM.ls (by simp)) (fun W hW => by simp [execOp, go_sem, Act.put, q1z, q1s0, q1s4, q1s15, q1s17, H12.out]) ?_
      refine reg.e_take (i := 11) (.bool true) rfl (by kernel_rfl) (by kernel_rfl) (by kernel_rfl) (by kernel_rfl) (fun c a w h => hQP c _ _ w rfl h) (reg.wanted_of 8 false 20 rfl (by kernel_rfl) (by simp [Act.put, q1z, q1s0, q1s4, q1s15, q1s17])) (hM.ls (by simp)) (fun W hW => by simp [execOp, go_sem, Act.put, q1z, q1s0, q1s4, q1s15, q1s17, e3.out]) ?_
      refine reg.any_list #[true, true, true, true, true, true, true, true, true, true, true, true, false, false, false, false, false, false, false, false, false, false, false, false, false, false, false, false, false, false, false, false, false, false, false, false, false, false] (by kernel_rfl) ?_
      refine reg.any_abs (fun q => q.tmps.size = 68 ∧ (∀ h, q.tmps[0]'h = .string s) ∧ (∀ h, q.tmps[4]'h = .int .i64 (n : Int)) ∧ (∀ h, q.tmps[20]'h = .bool false) ∧ (∀ h, q.tmps[23]'h = .bool true)) ⟨by simp [Act.put, q1z, q1s0, q1s4, q1s15, q1s17], reg.at_of (by simp [Act.put, q1z, q1s0, q1s4, q1s15, q1s17]), reg.at_of (by simp [Act.put, q1z, q1s0, q1s4, q1s15, q1s17]), reg.at_of (by simp [Act.put, q1z, q1s0, q1s4, q1s15, q1s17]), reg.at_of (by simp [Act.put, q1z, q1s0, q1s4, q1s15, q1s17])⟩ ?_
      clear q1z q1s0 q1s4 q1s15 q1s17
      rintro q2 ⟨q2z, q2s0, q2s4, q2s20, q2s23⟩ hq2
      have HQ2 : Hid (q2 = _) := hq2
      clear hq2
      refine reg.e_take (i := 12) (.bool true) rfl (by kernel_rfl) (by kernel_rfl) (by kernel_rfl) (by kernel_rfl) (fun c a w h => hQP c _ _ w rfl h) (reg.wanted_of 8 false 20 rfl (by kernel_rfl) (by simp [Act.put, q2z, q2s0, q2s4, q2s20, q2s23])) (hM.ls (by simp)) (fun W hW => by simp [execOp, go_sem, Act.put, q2z, q2s0, q2s4, q2s20, q2s23]) ?_
      refine reg.e_take (i := 13) (.string s) rfl (by kernel_rfl) (by kernel_rfl) (by kernel_rfl) (by kernel_rfl) (fun c a w h => hQP c _ _ w rfl h) (reg.wanted_of 12 true 24 rfl (by kernel_rfl) (by simp [Act.put, q2z, q2s0, q2s4, q2s20, q2s23])) (hM.ls (by simp)) (fun W hW => by simp [execOp, go_sem, Act.put, q2z, q2s0, q2s4, q2s20, q2s23]) ?_
      refine reg.e_take (i := 14) (.int .u8 (bt s 12)) rfl (by kernel_rfl) (by kernel_rfl) (by kernel_rfl) (by kernel_rfl) (fun c a w h => hQP c _ _ w rfl h) (reg.wanted_of 12 true 24 rfl (by kernel_rfl) (by simp [Act.put, q2z, q2s0, q2s4, q2s20, q2s23])) (hM.ls (by simp)) (fun W hW => by simp [execOp, go_sem, Act.put, q2z, q2s0, q2s4, q2s20, q2s23, H12.out]) ?_
      refine reg.e_take (i := 15) (.bool false) rfl (by kernel_rfl) (by kernel_rfl) (by kernel_rfl) (by kernel_rfl) (fun c a w h => hQP c _ _ w rfl h) (reg.wanted_of 12 true 24 rfl (by kernel_rfl) (by simp [Act.put, q2z, q2s0, q2s4, q2s20, q2s23])) (hM.ls (by simp)) (fun W hW => by simp [execOp, go_sem, Act.put, q2z, q2s0, q2s4, q2s20, q2s23, e4.out]) ?_
      refine reg.e_take (i := 16) (.bool false) rfl (by kernel_rfl) (by kernel_rfl) (by kernel_rfl) (by kernel_rfl) (fun c a w h => hQP c _ _ w rfl h) (reg.wanted_of 8 false 20 rfl (by kernel_rfl) (by simp [Act.put, q2z, q2s0, q2s4, q2s20, q2s23])) (hM.ls (by simp)) (fun W hW => by simp [execOp, go_sem, Act.put, q2z, q2s0, q2s4, q2s20, q2s23]) ?_
      refine reg.e_take (i := 17) (.bool false) rfl (by kernel_rfl) (by kernel_rfl) (by kernel_rfl) (by kernel_rfl) (fun c a w h => hQP c _ _ w rfl h) (reg.wanted_none rfl) (hM.ls (by simp)) (fun W hW => by simp [execOp, go_sem, Act.put, q2z, q2s0, q2s4, q2s20, q2s23]) ?_
      refine reg.any_list #[true, true, true, true, true, true, true, true, true, true, true, true, true, true, true, true, true, true, false, false, false, false, false, false, false, false, false, false, false, false, false, false, false, false, false, false, false, false] (by kernel_rfl) ?_
      refine reg.any_abs (fun q => q.tmps.size = 68 ∧ (∀ h, q.tmps[0]'h = .string s) ∧ (∀ h, q.tmps[4]'h = .int .i64 (n : Int)) ∧ (∀ h, q.tmps[29]'h = .bool false)) ⟨by simp [Act.put, q2z, q2s0, q2s4, q2s20, q2s23], reg.at_of (by simp [Act.put, q2z, q2s0, q2s4, q2s20, q2s23]), reg.at_of (by simp [Act.put, q2z, q2s0, q2s4, q2s20, q2s23]), reg.at_of (by simp [Act.put, q2z, q2s0, q2s4, q2s20, q2s23])⟩ ?_
      clear q2z q2s0 q2s4 q2s20 q2s23
      rintro q3 ⟨q3z, q3s0, q3s4, q3s29⟩ hq3
      have HQ3 : Hid (q3 = _) := hq3
      clear hq3
      refine reg.e_take (i := 18) (.bool false) rfl (by kernel_rfl) (by kernel_rfl) (by kernel_rfl) (by kernel_rfl) (fun c a w h => hQP c _ _ w rfl h) (reg.wanted_none rfl) (hM.ls (by simp)) (fun W hW => by simp [execOp, go_sem, Act.put, q3z, q3s0, q3s4, q3s29]) ?_
      refine reg.e_take (i := 19) (.string s) rfl (by kernel_rfl) (by kernel_rfl) (by kernel_rfl) (by kernel_rfl) (fun c a w h => hQP c _ _ w rfl h) (reg.wanted_of 18 false 30 rfl (by kernel_rfl) (by simp [Act.put, q3z, q3s0, q3s4, q3s29])) (hM.ls (by simp)) (fun W hW => by simp [execOp, go_sem, Act.put, q3z, q3s0, q3s4, q3s29]) ?_
      refine reg.e_take (i := 20) (.int .u8 (bt s 13)) rfl (by kernel_rfl) (by kernel_rfl) (by kernel_rfl) (by kernel_rfl) (fun c a w h => hQP c _ _ w rfl h) (reg.wanted_of 18 false 30 rfl (by kernel_rfl) (by simp [Act.put, q3z, q3s0, q3s4, q3s29])) (hM.ls (by simp)) (fun W hW => by simp [execOp, go_sem, Act.put, q3z, q3s0, q3s4, q3s29, H13.out]) ?_
      refine reg.e_take (i := 21) (.bool false) rfl (by kernel_rfl) (by kernel_rfl) (by kernel_rfl) (by kernel_rfl) (fun c a w h => hQP c _ _ w rfl h) (reg.wanted_of 18 false 30 rfl (by kernel_rfl) (by simp [Act.put, q3z, q3s0, q3s4, q3s29])) (hM.ls (by simp)) (fun W hW => by simp [execOp, go_sem, Act.put, q3z, q3s0, q3s4, q3s29, e5.out]) ?_
      refine reg.e_take (i := 22) (.bool false) rfl (by kernel_rfl) (by kernel_rfl) (by kernel_rfl) (by kernel_rfl) (fun c a w h => hQP c _ _ w rfl h) (reg.wanted_none rfl) (hM.ls (by simp)) (fun W hW => by simp [execOp, go_sem, Act.put, q3z, q3s0, q3s4, q3s29]) ?_
      refine reg.e_take (i := 23) (.bool false) rfl (by kernel_rfl) (by kernel_rfl) (by kernel_rfl) (by kernel_rfl) (fun c a w h => hQP c _ _ w rfl h) (reg.wanted_none rfl) (hM.ls (by simp)) (fun W hW => by simp [execOp, go_sem, Act.put, q3z, q3s0, q3s4, q3s29]) ?_
      refine reg.any_list #[true, true, true, true, true, true, true, true, true, true, true, true, true, true, true, true, true, true, true, true, true, true, true, true, false, false, false, false, false, false, false, false, false, false, false, false, false, false] (by kernel_rfl) ?_
      refine reg.any_abs (fun q => q.tmps.size = 68 ∧ (∀ h, q.tmps[0]'h = .string s) ∧ (∀ h, q.tmps[4]'h = .int .i64 (n : Int)) ∧ (∀ h, q.tmps[35]'h = .bool false)) ⟨by simp [Act.put, q3z, q3s0, q3s4, q3s29], reg.at_of (by simp [Act.put, q3z, q3s0, q3s4, q3s29]), reg.at_of (by simp [Act.put, q3z, q3s0, q3s4, q3s29]), reg.at_of (by simp [Act.put, q3z, q3s0, q3s4, q3s29])⟩ ?_
      clear q3z q3s0 q3s4 q3s29
      rintro q4 ⟨q4z, q4s0, q4s4, q4s35⟩ hq4
      have HQ4 : Hid (q4 = _) := hq4
      clear hq4
      refine reg.e_take (i := 24) (.int .i64 (n : Int)) rfl (by kernel_rfl) (by kernel_rfl) (by kernel_rfl) (by kernel_rfl) (fun c a w h => hQP c _ _ w rfl h) (reg.wanted_of 23 false 35 rfl (by kernel_rfl) (by simp [Act.put, q4z, q4s0, q4s4, q4s35])) (hM.ls (by simp)) (fun W hW => by simp [execOp, go_sem, Act.put, q4z, q4s0, q4s4, q4s35]) ?_
      refine reg.e_one 25 (by kernel_rfl) rfl ?_
      refine reg.r_call (i := 25) 28 #[.int .i64 (n : Int), .int .i64 1, .int .i64 16] rfl (reg.wanted_of 23 false 35 rfl (by kernel_rfl) (by simp [Act.put, q4z, q4s0, q4s4, q4s35])) (by simp [execOp, go_sem, Act.put, q4z, q4s0, q4s4, q4s35]) ((HB2.out _).mono ?_)
      rintro re ru5 ⟨rfl, rhv⟩
      replace hM := hM.call rhv
      clear rhv
      refine ⟨_, rfl, hM.ls (by simp), ?_⟩
      refine reg.e_take (i := 26) (.bool false) rfl (by kernel_rfl) (by kernel_rfl) (by kernel_rfl) (by kernel_rfl) (fun c a w h => hQP c _ _ w rfl h) (reg.wanted_of 23 false 35 rfl (by kernel_rfl) (by simp [Act.put, q4z, q4s0, q4s4, q4s35])) (hM.ls (by simp)) (fun W hW => by simp [execOp, go_sem, Act.put, q4z, q4s0, q4s4, q4s35]) ?_
      refine reg.e_take (i := 27) (.bool false) rfl (by kernel_rfl) (by kernel_rfl) (by kernel_rfl) (by kernel_rfl) (fun c a w h => hQP c _ _ w rfl h) (reg.wanted_none rfl) (hM.ls (by simp)) (fun W hW => by simp [execOp, go_sem, Act.put, q4z, q4s0, q4s4, q4s35]) ?_
      refine reg.e_take (i := 28) (.bool false) rfl (by kernel_rfl) (by kernel_rfl) (by kernel_rfl) (by kernel_rfl) (fun c a w h => hQP c _ _ w rfl h) (reg.wanted_none rfl) (hM.ls (by simp)) (fun W hW => by simp [execOp, go_sem, Act.put, q4z, q4s0, q4s4, q4s35]) ?_
      refine reg.e_take (i := 29) (.string s) rfl (by kernel_rfl) (by kernel_rfl) (by kernel_rfl) (by kernel_rfl) (fun c a w h => hQP c _ _ w rfl h) (reg.wanted_of 28 false 40 rfl (by kernel_rfl) (by simp [Act.put, q4z, q4s0, q4s4, q4s35])) (hM.ls (by simp)) (fun W hW => by simp [execOp, go_sem, Act.put, q4z, q4s0, q4s4, q4s35]) ?_
      refine reg.e_take (i := 30) (.int .i64 (n : Int)) rfl (by kernel_rfl) (by kernel_rfl) (by kernel_rfl) (by kernel_rfl) (fun c a w h => hQP c _ _ w rfl h) (reg.wanted_of 28 false 40 rfl (by kernel_rfl) (by simp [Act.put, q4z, q4s0, q4s4, q4s35])) (hM.ls (by simp)) (fun W hW => by simp [execOp, go_sem, Act.put, q4z, q4s0, q4s4, q4s35]) ?_
      refine reg.any_list #[true, true, true, true, true, true, true, true, true, true, true, true, true, true, true, true, true, true, true, true, true, true, true, true, true, true, true, true, true, true, true, false, false, false, false, false, false, false] (by kernel_rfl) ?_
      refine reg.any_abs (fun q => q.tmps.size = 68 ∧ (∀ h, q.tmps[4]'h = .int .i64 (n : Int)) ∧ (∀ h, q.tmps[40]'h = .bool false) ∧ (∀ h, q.tmps[41]'h = .string s) ∧ (∀ h, q.tmps[42]'h = .int .i64 (n : Int))) ⟨by simp [Act.put, q4z, q4s0, q4s4, q4s35], reg.at_of (by simp [Act.put, q4z, q4s0, q4s4, q4s35]), reg.at_of (by simp [Act.put, q4z, q4s0, q4s4, q4s35]), reg.at_of (by simp [Act.put, q4z, q4s0, q4s4, q4s35]), reg.at_of (by simp [Act.put, q4z, q4s0, q4s4, q4s35])⟩ ?_
      clear q4z q4s0 q4s4 q4s35
      rintro q6 ⟨q6z, q6s4, q6s40, q6s41, q6s42⟩ hq6
      have HQ6 : Hid (q6 = _) := hq6
      clear hq6
      refine reg.e_take (i := 31) (.int .i64 (J : Int)) rfl (by kernel_rfl) (by kernel_rfl) (by kernel_rfl) (by kernel_rfl) (fun c a w h => hQP c _ _ w rfl h) (reg.wanted_of 28 false 40 rfl (by kernel_rfl) (by simp [Act.put, q6z, q6s4, q6s40, q6s41, q6s42])) (hM.ls (by simp)) (fun W hW => by simp [execOp, go_sem, Act.put, q6z, q6s4, q6s40, q6s41, q6s42, HJ.out]) ?_
      refine reg.e_take (i := 32) (.string (s.extract J s.size)) rfl (by kernel_rfl) (by kernel_rfl) (by kernel_rfl) (by kernel_rfl) (fun c a w h => hQP c _ _ w rfl h) (reg.wanted_of 28 false 40 rfl (by kernel_rfl) (by simp [Act.put, q6z, q6s4, q6s40, q6s41, q6s42])) (hM.ls (by simp)) (fun W hW => by simp [execOp, go_sem, Act.put, q6z, q6s4, q6s40, q6s41, q6s42, HSJ.out]) ?_
      refine reg.e_take (i := 33) (.int .i64 (n : Int)) rfl (by kernel_rfl) (by kernel_rfl) (by kernel_rfl) (by kernel_rfl) (fun c a w h => hQP c _ _ w rfl h) (reg.wanted_of 28 false 40 rfl (by kernel_rfl) (by simp [Act.put, q6z, q6s4, q6s40, q6s41, q6s42])) (hM.ls (by simp)) (fun W hW => by simp [execOp, go_sem, Act.put, q6z, q6s4, q6s40, q6s41, q6s42]) ?_
      refine reg.e_take (i := 34) (.int .i64 (k : Int)) rfl (by kernel_rfl) (by kernel_rfl) (by kernel_rfl) (by kernel_rfl) (fun c a w h => hQP c _ _ w rfl h) (reg.wanted_of 28 false 40 rfl (by kernel_rfl) (by simp [Act.put, q6z, q6s4, q6s40, q6s41, q6s42])) (hM.ls (by simp)) (fun W hW => by simp [execOp, go_sem, Act.put, q6z, q6s4, q6s40, q6s41, q6s42, HK.out]) ?_
      refine reg.e_one 35 (by kernel_rfl) rfl ?_
      refine reg.r_call (i := 35) 31 #[.string { data := #[0] }, .int .i64 (k : Int)] rfl (reg.wanted_of 28 false 40 rfl (by kernel_rfl) (by simp [Act.put, q6z, q6s4, q6s40, q6s41, q6s42])) (by simp [execOp, go_sem, Act.put, q6z, q6s4, q6s40, q6s41, q6s42]) ((HRP.out _).mono ?_)
      rintro re ru7 ⟨rfl, rhv⟩
      replace hM := hM.call rhv
      clear rhv
      refine ⟨_, rfl, hM.ls (by simp), ?_⟩
      refine reg.e_take (i := 36) (.bool true) rfl (by kernel_rfl) (by kernel_rfl) (by kernel_rfl) (by kernel_rfl) (fun c a w h => hQP c _ _ w rfl h) (reg.wanted_of 28 false 40 rfl (by kernel_rfl) (by simp [Act.put, q6z, q6s4, q6s40, q6s41, q6s42])) (hM.ls (by simp)) (fun W hW => ex_neqs rfl (by simp [go_sem, Act.put, q6z, q6s4, q6s40, q6s41, q6s42]) (by simp [go_sem, Act.put, q6z, q6s4, q6s40, q6s41, q6s42]) hnz.out) ?_
      refine reg.e_take (i := 37) (.bool true) rfl (by kernel_rfl) (by kernel_rfl) (by kernel_rfl) (by kernel_rfl) (fun c a w h => hQP c _ _ w rfl h) (reg.wanted_none rfl) (hM.ls (by simp)) (fun W hW => by simp [execOp, go_sem, Act.put, q6z, q6s4, q6s40, q6s41, q6s42]) ?_
      clear hQP
      refine reg.e_done (by kernel_rfl) ?_ _
      clear q6z q6s4 q6s40 q6s41 q6s42
      have hq6 := HQ6.out
      clear HQ6
      subst hq6
      have hq4 := HQ4.out
      clear HQ4
      subst hq4
      have hq3 := HQ3.out
      clear HQ3
      subst hq3
      have hq2 := HQ2.out
      clear HQ2
      subst hq2
      have hq1 := HQ1.out
      clear HQ1
      subst hq1
      subst ha0
      go_simp
      repeat' (first | (go_big_may; first | (refine v_build rfl rfl bld_wrap0 ?hbv ?_; (case hbv => simp [Act.eval, Act.put])) | (refine v_fill rfl rfl row_wrap rfl rfl hM.at0 (wpl_vs _) rfl ?_; intro u hv hc; replace hM := hM.put0 hc hv; clear hv hc)) | go_values | go_skip | go_guarded | go_step | go_upon | (simp only [Int.not_lt, Int.not_le] at *; go_simp))
      exact bodyPost_ret (ret_2 rfl rfl (ld_var row_wrap hM.at0 rfl) rfl) rfl ⟨rfl, hM.below⟩
    have hqz : s.extract J s.size = rpt 0 k := Classical.not_not.1 hqz
    have hnz : Hid (decide (s.extract J s.size ≠ rpt 0 k) = false) := decide_eq_false (fun q => q hqz)
    have hE : rdC s = 0 := (rd_rf (by omega)).2 ((rf_iff s).2 ⟨h31, (four_iff (by omega)).1 hq4, by rw [← hb12]; exact .inr hq12, by rw [← hb13]; omega, by rw [← hb14]; exact hqn, hzz.1 hqz⟩)
    have HE : Hid (rdC s = 0 ∧ rdW s = rdV s) := ⟨hE, if_pos hE⟩
    rw [HE.out.1, HE.out.2]
    have HL4 : Hid (∀ u, Calls Try.prog 33 #[.string (s.extract 4 s.size)] u fun e w' => e = .returned (.int .i64 (lgL (nums s) 4)) ∧ Below u.heap.size u w') := fun u => lowNum_at s 4 (by omega) hm u
    have HL8 : Hid (∀ u, Calls Try.prog 33 #[.string (s.extract 8 s.size)] u fun e w' => e = .returned (.int .i64 (lgL (nums s) 8)) ∧ Below u.heap.size u w') := fun u => lowNum_at s 8 (by omega) hm u
    have HS4 : Hid (∀ W, (Instr.slice 9 (.string s) (some (.int .i64 4)) none none).run Try.prog W = .ok (.string (s.extract 4 s.size)) W) := fun W => run_from s 4 (by omega) (by omega) W
    have HS8 : Hid (∀ W, (Instr.slice 9 (.string s) (some (.int .i64 8)) none none).run Try.prog W = .ok (.string (s.extract 8 s.size)) W) := fun W => run_from s 8 (by omega) (by omega) W
    have HS15 : Hid (∀ W, (Instr.slice 9 (.string s) (some (.int .i64 15)) (some (.int .i64 (J : Int))) none).run Try.prog W = .ok (.string (s.extract 15 J)) W) := fun W => run_part s 15 (J : Int) (by omega) (by omega) (by omega) W
    have HG0 : Hid (decide (0 < bt s 12) = true) := by show _ = _; rw [hq12]; rfl
    have HBD : Hid (Value.agg #[.int .i64 (lgL (nums s) 4), .int .i64 (lgL (nums s) 8), .bool true, .int .i64 (bt s 13), .string (s.extract 15 J)] = ag (wpl (rdV s))) := by
      have e1 : (nums s).getD 12 0 = 128 := by rw [← hb12]; exact hq12
      have e2 : (rdV s).cmd = s.extract 15 J := by show s.extract 15 (15 + min ((nums s).getD 14 0).toNat 16) = _; rw [hto, ← hJ]; congr 2; omega
      have e3 : (rdV s).inn = true := by show decide ((nums s).getD 12 0 = 128) = _; rw [e1]; rfl
      show _ = Value.agg #[.int .i64 (lgL (nums s) 4), .int .i64 (lgL (nums s) 8), .bool (rdV s).inn, .int .i64 ((nums s).getD 13 0), .string (rdV s).cmd]
      rw [e2, e3, hb13]
    clear hE hm hm' h4 h12 h13 hb12 hb13 hb14 hn l0 l1 m0 m1 hq4 h31 hq12 hq13 hqn HBT hzz hqz hto hJ hk
    go_enter Try.func12, Try.ntmps12
    repeat' (first | (go_big_may; first | (refine v_alloc rfl zer_wrap rfl ?_; intro u za hN; replace hM := hM.new hN; clear hN)) | go_values | go_skip | go_guarded | go_step | go_upon | (simp only [Int.not_lt, Int.not_le] at *; go_simp))
    clear h14 e14
    refine reg.wp_abs (fun a0 => a0.tmps.size = 68 ∧ (∀ h, a0.tmps[0]'h = .string s) ∧ (∀ h, a0.tmps[4]'h = .int .i64 (n : Int))) ⟨rfl, fun _ => rfl, fun _ => rfl⟩ ?_
    rintro a0 ⟨hsz, s0, s4⟩ ha0
    refine reg.wp_region_E (S := fun W => Ls W []) (E := fun _ => false) (by kernel_rfl) ?_
    replace hM := hM.drew
    refine reg.any_q (fun _ _ _ _ _ h => h) ?_
    intro hQP
    refine reg.e_take (i := 0) (.string s) rfl (by kernel_rfl) (by kernel_rfl) (by kernel_rfl) (by kernel_rfl) (fun c a w h => hQP c _ _ w rfl h) (reg.wanted_none rfl) (hM.ls (by simp)) (fun W hW => by simp [execOp, go_sem, Act.put, hsz, s0, s4]) ?_
    refine reg.e_take (i := 1) (.int .i64 (s.size : Int)) rfl (by kernel_rfl) (by kernel_rfl) (by kernel_rfl) (by kernel_rfl) (fun c a w h => hQP c _ _ w rfl h) (reg.wanted_none rfl) (hM.ls (by simp)) (fun W hW => by simp [execOp, go_sem, Act.put, hsz, s0, s4]) ?_
    refine reg.e_take (i := 2) (.bool false) rfl (by kernel_rfl) (by kernel_rfl) (by kernel_rfl) (by kernel_rfl) (fun c a w h => hQP c _ _ w rfl h) (reg.wanted_none rfl) (hM.ls (by simp)) (fun W hW => by simp [execOp, go_sem, Act.put, hsz, s0, s4, e1.out, E1.out]) ?_
    refine reg.e_take (i := 3) (.bool false) rfl (by kernel_rfl) (by kernel_rfl) (by kernel_rfl) (by kernel_rfl) (fun c a w h => hQP c _ _ w rfl h) (reg.wanted_none rfl) (hM.ls (by simp)) (fun W hW => by simp [execOp, go_sem, Act.put, hsz, s0, s4]) ?_
    refine reg.e_take (i := 4) (.string s) rfl (by kernel_rfl) (by kernel_rfl) (by kernel_rfl) (by kernel_rfl) (fun c a w h => hQP c _ _ w rfl h) (reg.wanted_of 3 false 15 rfl (by kernel_rfl) (by simp [Act.put, hsz])) (hM.ls (by simp)) (fun W hW => by simp [execOp, go_sem, Act.put, hsz, s0, s4]) ?_
    refine reg.e_take (i := 5) (.string (s.extract 0 4)) rfl (by kernel_rfl) (by kernel_rfl) (by kernel_rfl) (by kernel_rfl) (fun c a w h => hQP c _ _ w rfl h) (reg.wanted_of 3 false 15 rfl (by kernel_rfl) (by simp [Act.put, hsz])) (hM.ls (by simp)) (fun W hW => by simp [execOp, go_sem, Act.put, hsz, s0, s4, H4.out]) ?_
    refine reg.any_list #[true, true, true, true, true, true, false, false, false, false, false, false, false, false, false, false, false, false, false, false, false, false, false, false, false, false, false, false, false, false, false, false, false, false, false, false, false, false] (by kernel_rfl) ?_
    refine reg.any_abs (fun q => q.tmps.size = 68 ∧ (∀ h, q.tmps[0]'h = .string s) ∧ (∀ h, q.tmps[4]'h = .int .i64 (n : Int)) ∧ (∀ h, q.tmps[15]'h = .bool false) ∧ (∀ h, q.tmps[17]'h = .string (s.extract 0 4))) ⟨by simp [Act.put, hsz, s0, s4], reg.at_of (by simp [Act.put, hsz, s0, s4]), reg.at_of (by simp [Act.put, hsz, s0, s4]), reg.at_of (by simp [Act.put, hsz, s0, s4]), reg.at_of (by simp [Act.put, hsz, s0, s4])⟩ ?_
    clear hsz s0 s4
    rintro q1 ⟨q1z, q1s0, q1s4, q1s15, q1s17⟩ hq1
    have HQ1 : Hid (q1 = _) := hq1
    clear hq1
    refine reg.e_take (i := 6) (.bool false) rfl (by kernel_rfl) (by kernel_rfl) (by kernel_rfl) (by kernel_rfl) (fun c a w h => hQP c _ _ w rfl h) (reg.wanted_of 3 false 15 rfl (by kernel_rfl) (by simp [Act.put, q1z, q1s0, q1s4, q1s15, q1s17])) (hM.ls (by simp)) (fun W hW => ex_neqs rfl (by simp [go_sem, Act.put, q1z, q1s0, q1s4, q1s15, q1s17]) (by simp [go_sem, Act.put, q1z, q1s0, q1s4, q1s15, q1s17]) hne.out) ?_
    refine reg.e_take (i := 7) (.bool false) rfl (by kernel_rfl) (by kernel_rfl) (by kernel_rfl) (by kernel_rfl) (fun c a w h => hQP c _ _ w rfl h) (reg.wanted_none rfl) (hM.ls (by simp)) (fun W hW => by simp [execOp, go_sem, Act.put, q1z, q1s0, q1s4, q1s15, q1s17]) ?_
    refine reg.e_take (i := 8) (.bool false) rfl (by kernel_rfl) (by kernel_rfl) (by kernel_rfl) (by kernel_rfl) (fun c a w h => hQP c _ _ w rfl h) (reg.wanted_none rfl) (hM.ls (by simp)) (fun W hW => by simp [execOp, go_sem, Act.put, q1z, q1s0, q1s4, q1s15, q1s17]) ?_
    refine reg.e_take (i := 9) (.string s) rfl (by kernel_rfl) (by kernel_rfl) (by kernel_rfl) (by kernel_rfl) (fun c a w h => hQP c _ _ w rfl h) (reg.wanted_of 8 false 20 rfl (by kernel_rfl) (by simp [Act.put, q1z, q1s0, q1s4, q1s15, q1s17])) (hM.ls (by simp)) (fun W hW => by simp [execOp, go_sem, Act.put, q1z, q1s0, q1s4, q1s15, q1s17]) ?_
    refine reg.e_take (i := 10) (.int .u8 (bt s 12)) rfl (by kernel_rfl) (by kernel_rfl) (by kernel_rfl) (by kernel_rfl) (fun c a w h => hQP c _ _ w rfl h) (reg.wanted_of 8 false 20 rfl (by kernel_rfl) (by simp [Act.put, q1z, q1s0, q1s4, q1s15, q1s17])) (hM.ls (by simp)) (fun W hW => by simp [execOp, go_sem, Act.put, q1z, q1s0, q1s4, q1s15, q1s17, H12.out]) ?_
    refine reg.e_take (i := 11) (.bool true) rfl (by kernel_rfl) (by kernel_rfl) (by kernel_rfl) (by kernel_rfl) (fun c a w h => hQP c _ _ w rfl h) (reg.wanted_of 8 false 20 rfl (by kernel_rfl) (by simp [Act.put, q1z, q1s0, q1s4, q1s15, q1s17])) (hM.ls (by simp)) (fun W hW => by simp [execOp, go_sem, Act.put, q1z, q1s0, q1s4, q1s15, q1s17, e3.out]) ?_
    refine reg.any_list #[true, true, true, true, true, true, true, true, true, true, true, true, false, false, false, false, false, false, false, false, false, false, false, false, false, false, false, false, false, false, false, false, false, false, false, false, false, false] (by kernel_rfl) ?_
    refine reg.any_abs (fun q => q.tmps.size = 68 ∧ (∀ h, q.tmps[0]'h = .string s) ∧ (∀ h, q.tmps[4]'h = .int .i64 (n : Int)) ∧ (∀ h, q.tmps[20]'h = .bool false) ∧ (∀ h, q.tmps[23]'h = .bool true)) ⟨by simp [Act.put, q1z, q1s0, q1s4, q1s15, q1s17], reg.at_of (by simp [Act.put, q1z, q1s0, q1s4, q1s15, q1s17]), reg.at_of (by simp [Act.put, q1z, q1s0, q1s4, q1s15, q1s17]), reg.at_of (by simp [Act.put, q1z, q1s0, q1s4, q1s15, q1s17]), reg.at_of (by simp [Act.put, q1z, q1s0, q1s4, q1s15, q1s17])⟩ ?_
    clear q1z q1s0 q1s4 q1s15 q1s17
    rintro q2 ⟨q2z, q2s0, q2s4, q2s20, q2s23⟩ hq2
    have HQ2 : Hid (q2 = _) := hq2
    clear hq2
    refine reg.e_take (i := 12) (.bool true) rfl (by kernel_rfl) (by kernel_rfl) (by kernel_rfl) (by kernel_rfl) (fun c a w h => hQP c _ _ w rfl h) (reg.wanted_of 8 false 20 rfl (by kernel_rfl) (by simp [Act.put, q2z, q2s0, q2s4, q2s20, q2s23])) (hM.ls (by simp)) (fun W hW => by simp [execOp, go_sem, Act.put, q2z, q2s0, q2s4, q2s20, q2s23]) ?_
    refine reg.e_take (i := 13) (.string s) rfl (by kernel_rfl) (by kernel_rfl) (by kernel_rfl) (by kernel_rfl) (fun c a w h => hQP c _ _ w rfl h) (reg.wanted_of 12 true 24 rfl (by kernel_rfl) (by simp [Act.put, q2z, q2s0, q2s4, q2s20, q2s23])) (hM.ls (by simp)) (fun W hW => by simp [execOp, go_sem, Act.put, q2z, q2s0, q2s4, q2s20, q2s23]) ?_
    refine reg.e_take (i := 14) (.int .u8 (bt s 12)) rfl (by kernel_rfl) (by kernel_rfl) (by kernel_rfl) (by kernel_rfl) (fun c a w h => hQP c _ _ w rfl h) (reg.wanted_of 12 true 24 rfl (by kernel_rfl) (by simp [Act.put, q2z, q2s0, q2s4, q2s20, q2s23])) (hM.ls (by simp)) (fun W hW => by simp [execOp, go_sem, Act.put, q2z, q2s0, q2s4, q2s20, q2s23, H12.out]) ?_
    refine reg.e_take (i := 15) (.bool false) rfl (by kernel_rfl) (by kernel_rfl) (by kernel_rfl) (by kernel_rfl) (fun c a w h => hQP c _ _ w rfl h) (reg.wanted_of 12 true 24 rfl (by kernel_rfl) (by simp [Act.put, q2z, q2s0, q2s4, q2s20, q2s23])) (hM.ls (by simp)) (fun W hW => by simp [execOp, go_sem, Act.put, q2z, q2s0, q2s4, q2s20, q2s23, e4.out]) ?_
    refine reg.e_take (i := 16) (.bool false) rfl (by kernel_rfl) (by kernel_rfl) (by kernel_rfl) (by kernel_rfl) (fun c a w h => hQP c _ _ w rfl h) (reg.wanted_of 8 false 20 rfl (by kernel_rfl) (by simp [Act.put, q2z, q2s0, q2s4, q2s20, q2s23])) (hM.ls (by simp)) (fun W hW => by simp [execOp, go_sem, Act.put, q2z, q2s0, q2s4, q2s20, q2s23]) ?_
    refine reg.e_take (i := 17) (.bool false) rfl (by kernel_rfl) (by kernel_rfl) (by kernel_rfl) (by kernel_rfl) (fun c a w h => hQP c _ _ w rfl h) (reg.wanted_none rfl) (hM.ls (by simp)) (fun W hW => by simp [execOp, go_sem, Act.put, q2z, q2s0, q2s4, q2s20, q2s23]) ?_
    refine reg.any_list #[true, true, true, true, true, true, true, true, true, true, true, true, true, true, true, true, true, true, false, false, false, false, false, false, false, false, false, false, false, false, false, false, false, false, false, false, false, false] (by kernel_rfl) ?_
    refine reg.any_abs (fun q => q.tmps.size = 68 ∧ (∀ h, q.tmps[0]'h = .string s) ∧ (∀ h, q.tmps[4]'h = .int .i64 (n : Int)) ∧ (∀ h, q.tmps[29]'h = .bool false)) ⟨by simp [Act.put, q2z, q2s0, q2s4, q2s20, q2s23], reg.at_of (by simp [Act.put, q2z, q2s0, q2s4, q2s20, q2s23]), reg.at_of (by simp [Act.put, q2z, q2s0, q2s4, q2s20, q2s23]), reg.at_of (by simp [Act.put, q2z, q2s0, q2s4, q2s20, q2s23])⟩ ?_
    clear q2z q2s0 q2s4 q2s20 q2s23
    rintro q3 ⟨q3z, q3s0, q3s4, q3s29⟩ hq3
    have HQ3 : Hid (q3 = _) := hq3
    clear hq3
    refine reg.e_take (i := 18) (.bool false) rfl (by kernel_rfl) (by kernel_rfl) (by kernel_rfl) (by kernel_rfl) (fun c a w h => hQP c _ _ w rfl h) (reg.wanted_none rfl) (hM.ls (by simp)) (fun W hW => by simp [execOp, go_sem, Act.put, q3z, q3s0, q3s4, q3s29]) ?_
    refine reg.e_take (i := 19) (.string s) rfl (by kernel_rfl) (by kernel_rfl) (by kernel_rfl) (by kernel_rfl) (fun c a w h => hQP c _ _ w rfl h) (reg.wanted_of 18 false 30 rfl (by kernel_rfl) (by simp [Act.put, q3z, q3s0, q3s4, q3s29])) (hM.ls (by simp)) (fun W hW => by simp [execOp, go_sem, Act.put, q3z, q3s0, q3s4, q3s29]) ?_
    refine reg.e_take (i := 20) (.int .u8 (bt s 13)) rfl (by kernel_rfl) (by kernel_rfl) (by kernel_rfl) (by kernel_rfl) (fun c a w h => hQP c _ _ w rfl h) (reg.wanted_of 18 false 30 rfl (by kernel_rfl) (by simp [Act.put, q3z, q3s0, q3s4, q3s29])) (hM.ls (by simp)) (fun W hW => by simp [execOp, go_sem, Act.put, q3z, q3s0, q3s4, q3s29, H13.out]) ?_
    refine reg.e_take (i := 21) (.bool false) rfl (by kernel_rfl) (by kernel_rfl) (by kernel_rfl) (by kernel_rfl) (fun c a w h => hQP c _ _ w rfl h) (reg.wanted_of 18 false 30 rfl (by kernel_rfl) (by simp [Act.put, q3z, q3s0, q3s4, q3s29])) (hM.ls (by simp)) (fun W hW => by simp [execOp, go_sem, Act.put, q3z, q3s0, q3s4, q3s29, e5.out]) ?_
    refine reg.e_take (i := 22) (.bool false) rfl (by kernel_rfl) (by kernel_rfl) (by kernel_rfl) (by kernel_rfl) (fun c a w h => hQP c _ _ w rfl h) (reg.wanted_none rfl) (hM.ls (by simp)) (fun W hW => by simp [execOp, go_sem, Act.put, q3z, q3s0, q3s4, q3s29]) ?_
    refine reg.e_take (i := 23) (.bool false) rfl (by kernel_rfl) (by kernel_rfl) (by kernel_rfl) (by kernel_rfl) (fun c a w h => hQP c _ _ w rfl h) (reg.wanted_none rfl) (hM.ls (by simp)) (fun W hW => by simp [execOp, go_sem, Act.put, q3z, q3s0, q3s4, q3s29]) ?_
    refine reg.any_list #[true, true, true, true, true, true, true, true, true, true, true, true, true, true, true, true, true, true, true, true, true, true, true, true, false, false, false, false, false, false, false, false, false, false, false, false, false, false] (by kernel_rfl) ?_
    refine reg.any_abs (fun q => q.tmps.size = 68 ∧ (∀ h, q.tmps[0]'h = .string s) ∧ (∀ h, q.tmps[4]'h = .int .i64 (n : Int)) ∧ (∀ h, q.tmps[35]'h = .bool false)) ⟨by simp [Act.put, q3z, q3s0, q3s4, q3s29], reg.at_of (by simp [Act.put, q3z, q3s0, q3s4, q3s29]), reg.at_of (by simp [Act.put, q3z, q3s0, q3s4, q3s29]), reg.at_of (by simp [Act.put, q3z, q3s0, q3s4, q3s29])⟩ ?_
    clear q3z q3s0 q3s4 q3s29
    rintro q4 ⟨q4z, q4s0, q4s4, q4s35⟩ hq4
    have HQ4 : Hid (q4 = _) := hq4
    clear hq4
    refine reg.e_take (i := 24) (.int .i64 (n : Int)) rfl (by kernel_rfl) (by kernel_rfl) (by kernel_rfl) (by kernel_rfl) (fun c a w h => hQP c _ _ w rfl h) (reg.wanted_of 23 false 35 rfl (by kernel_rfl) (by simp [Act.put, q4z, q4s0, q4s4, q4s35])) (hM.ls (by simp)) (fun W hW => by simp [execOp, go_sem, Act.put, q4z, q4s0, q4s4, q4s35]) ?_
    refine reg.e_one 25 (by kernel_rfl) rfl ?_
    refine reg.r_call (i := 25) 28 #[.int .i64 (n : Int), .int .i64 1, .int .i64 16] rfl (reg.wanted_of 23 false 35 rfl (by kernel_rfl) (by simp [Act.put, q4z, q4s0, q4s4, q4s35])) (by simp [execOp, go_sem, Act.put, q4z, q4s0, q4s4, q4s35]) ((HB2.out _).mono ?_)
    rintro re ru5 ⟨rfl, rhv⟩
    replace hM := hM.call rhv
    clear rhv
    refine ⟨_, rfl, hM.ls (by simp), ?_⟩
    refine reg.e_take (i := 26) (.bool false) rfl (by kernel_rfl) (by kernel_rfl) (by kernel_rfl) (by kernel_rfl) (fun c a w h => hQP c _ _ w rfl h) (reg.wanted_of 23 false 35 rfl (by kernel_rfl) (by simp [Act.put, q4z, q4s0, q4s4, q4s35])) (hM.ls (by simp)) (fun W hW => by simp [execOp, go_sem, Act.put, q4z, q4s0, q4s4, q4s35]) ?_
    refine reg.e_take (i := 27) (.bool false) rfl (by kernel_rfl) (by kernel_rfl) (by kernel_rfl) (by kernel_rfl) (fun c a w h => hQP c _ _ w rfl h) (reg.wanted_none rfl) (hM.ls (by simp)) (fun W hW => by simp [execOp, go_sem, Act.put, q4z, q4s0, q4s4, q4s35]) ?_
    refine reg.e_take (i := 28) (.bool false) rfl (by kernel_rfl) (by kernel_rfl) (by kernel_rfl) (by kernel_rfl) (fun c a w h => hQP c _ _ w rfl h) (reg.wanted_none rfl) (hM.ls (by simp)) (fun W hW => by simp [execOp, go_sem, Act.put, q4z, q4s0, q4s4, q4s35]) ?_
    refine reg.e_take (i := 29) (.string s) rfl (by kernel_rfl) (by kernel_rfl) (by kernel_rfl) (by kernel_rfl) (fun c a w h => hQP c _ _ w rfl h) (reg.wanted_of 28 false 40 rfl (by kernel_rfl) (by simp [Act.put, q4z, q4s0, q4s4, q4s35])) (hM.ls (by simp)) (fun W hW => by simp [execOp, go_sem, Act.put, q4z, q4s0, q4s4, q4s35]) ?_
    refine reg.e_take (i := 30) (.int .i64 (n : Int)) rfl (by kernel_rfl) (by kernel_rfl) (by kernel_rfl) (by kernel_rfl) (fun c a w h => hQP c _ _ w rfl h) (reg.wanted_of 28 false 40 rfl (by kernel_rfl) (by simp [Act.put, q4z, q4s0, q4s4, q4s35])) (hM.ls (by simp)) (fun W hW => by simp [execOp, go_sem, Act.put, q4z, q4s0, q4s4, q4s35]) ?_
    refine reg.any_list #[true, true, true, true, true, true, true, true, true, true, true, true, true, true, true, true, true, true, true, true, true, true, true, true, true, true, true, true, true, true, true, false, false, false, false, false, false, false] (by kernel_rfl) ?_
    refine reg.any_abs (fun q => q.tmps.size = 68 ∧ (∀ h, q.tmps[4]'h = .int .i64 (n : Int)) ∧ (∀ h, q.tmps[40]'h = .bool false) ∧ (∀ h, q.tmps[41]'h = .string s) ∧ (∀ h, q.tmps[42]'h = .int .i64 (n : Int))) ⟨by simp [Act.put, q4z, q4s0, q4s4, q4s35], reg.at_of (by simp [Act.put, q4z, q4s0, q4s4, q4s35]), reg.at_of (by simp [Act.put, q4z, q4s0, q4s4, q4s35]), reg.at_of (by simp [Act.put, q4z, q4s0, q4s4, q4s35]), reg.at_of (by simp [Act.put, q4z, q4s0, q4s4, q4s35])⟩ ?_
    clear q4z q4s0 q4s4 q4s35
    rintro q6 ⟨q6z, q6s4, q6s40, q6s41, q6s42⟩ hq6
    have HQ6 : Hid (q6 = _) := hq6
    clear hq6
    refine reg.e_take (i := 31) (.int .i64 (J : Int)) rfl (by kernel_rfl) (by kernel_rfl) (by kernel_rfl) (by kernel_rfl) (fun c a w h => hQP c _ _ w rfl h) (reg.wanted_of 28 false 40 rfl (by kernel_rfl) (by simp [Act.put, q6z, q6s4, q6s40, q6s41, q6s42])) (hM.ls (by simp)) (fun W hW => by simp [execOp, go_sem, Act.put, q6z, q6s4, q6s40, q6s41, q6s42, HJ.out]) ?_
    refine reg.e_take (i := 32) (.string (s.extract J s.size)) rfl (by kernel_rfl) (by kernel_rfl) (by kernel_rfl) (by kernel_rfl) (fun c a w h => hQP c _ _ w rfl h) (reg.wanted_of 28 false 40 rfl (by kernel_rfl) (by simp [Act.put, q6z, q6s4, q6s40, q6s41, q6s42])) (hM.ls (by simp)) (fun W hW => by simp [execOp, go_sem, Act.put, q6z, q6s4, q6s40, q6s41, q6s42, HSJ.out]) ?_
    refine reg.e_take (i := 33) (.int .i64 (n : Int)) rfl (by kernel_rfl) (by kernel_rfl) (by kernel_rfl) (by kernel_rfl) (fun c a w h => hQP c _ _ w rfl h) (reg.wanted_of 28 false 40 rfl (by kernel_rfl) (by simp [Act.put, q6z, q6s4, q6s40, q6s41, q6s42])) (hM.ls (by simp)) (fun W hW => by simp [execOp, go_sem, Act.put, q6z, q6s4, q6s40, q6s41, q6s42]) ?_
    refine reg.e_take (i := 34) (.int .i64 (k : Int)) rfl (by kernel_rfl) (by kernel_rfl) (by kernel_rfl) (by kernel_rfl) (fun c a w h => hQP c _ _ w rfl h) (reg.wanted_of 28 false 40 rfl (by kernel_rfl) (by simp [Act.put, q6z, q6s4, q6s40, q6s41, q6s42])) (hM.ls (by simp)) (fun W hW => by simp [execOp, go_sem, Act.put, q6z, q6s4, q6s40, q6s41, q6s42, HK.out]) ?_
    refine reg.e_one 35 (by kernel_rfl) rfl ?_
    refine reg.r_call (i := 35) 31 #[.string { data := #[0] }, .int .i64 (k : Int)] rfl (reg.wanted_of 28 false 40 rfl (by kernel_rfl) (by simp [Act.put, q6z, q6s4, q6s40, q6s41, q6s42])) (by simp [execOp, go_sem, Act.put, q6z, q6s4, q6s40, q6s41, q6s42]) ((HRP.out _).mono ?_)
    rintro re ru7 ⟨rfl, rhv⟩
    replace hM := hM.call rhv
    clear rhv
    refine ⟨_, rfl, hM.ls (by simp), ?_⟩
    refine reg.e_take (i := 36) (.bool false) rfl (by kernel_rfl) (by kernel_rfl) (by kernel_rfl) (by kernel_rfl) (fun c a w h => hQP c _ _ w rfl h) (reg.wanted_of 28 false 40 rfl (by kernel_rfl) (by simp [Act.put, q6z, q6s4, q6s40, q6s41, q6s42])) (hM.ls (by simp)) (fun W hW => ex_neqs rfl (by simp [go_sem, Act.put, q6z, q6s4, q6s40, q6s41, q6s42]) (by simp [go_sem, Act.put, q6z, q6s4, q6s40, q6s41, q6s42]) hnz.out) ?_
    refine reg.e_take (i := 37) (.bool false) rfl (by kernel_rfl) (by kernel_rfl) (by kernel_rfl) (by kernel_rfl) (fun c a w h => hQP c _ _ w rfl h) (reg.wanted_none rfl) (hM.ls (by simp)) (fun W hW => by simp [execOp, go_sem, Act.put, q6z, q6s4, q6s40, q6s41, q6s42]) ?_
    clear hQP
    refine reg.e_done (by kernel_rfl) ?_ _
    clear q6z q6s4 q6s40 q6s41 q6s42
    have hq6 := HQ6.out
    clear HQ6
    subst hq6
    have hq4 := HQ4.out
    clear HQ4
    subst hq4
    have hq3 := HQ3.out
    clear HQ3
    subst hq3
    have hq2 := HQ2.out
    clear HQ2
    subst hq2
    have hq1 := HQ1.out
    clear HQ1
    subst hq1
    subst ha0
    go_simp
    repeat' (first | go_values | go_skip | go_guarded | go_step | go_upon | (simp only [Int.not_lt, Int.not_le] at *; go_simp))
    refine reg.wp_abs (fun a0 => a0.tmps.size = 68 ∧ (∀ h, a0.tmps[0]'h = .string s) ∧ (∀ h, a0.tmps[2]'h = .pointer (some ⟨za, 0, none⟩)) ∧ (∀ h, a0.tmps[4]'h = .int .i64 (n : Int))) ⟨rfl, fun _ => rfl, fun _ => rfl, fun _ => rfl⟩ ?_
    rintro a0 ⟨hsz, s0, s2, s4⟩ ha0
    refine reg.wp_region_E (S := fun W => Ls W []) (E := fun _ => false) (by kernel_rfl) ?_
    replace hM := hM.drew
    refine reg.e_take (i := 0) (.string s) rfl (by kernel_rfl) (by kernel_rfl) (by kernel_rfl) (by kernel_rfl) (fun _ _ _ h => h) (reg.wanted_none rfl) (hM.ls (by simp)) (fun W hW => by simp [execOp, go_sem, Act.put, hsz, s0, s2, s4]) ?_
    refine reg.e_take (i := 1) (.string (s.extract 4 s.size)) rfl (by kernel_rfl) (by kernel_rfl) (by kernel_rfl) (by kernel_rfl) (fun _ _ _ h => h) (reg.wanted_none rfl) (hM.ls (by simp)) (fun W hW => by simp [execOp, go_sem, Act.put, hsz, s0, s2, s4, HS4.out]) ?_
    refine reg.e_take (i := 3) (.string s) rfl (by kernel_rfl) (by kernel_rfl) (by kernel_rfl) (by kernel_rfl) (fun _ _ _ h => h) (reg.wanted_none rfl) (hM.ls (by simp)) (fun W hW => by simp [execOp, go_sem, Act.put, hsz, s0, s2, s4]) ?_
    refine reg.e_take (i := 4) (.string (s.extract 8 s.size)) rfl (by kernel_rfl) (by kernel_rfl) (by kernel_rfl) (by kernel_rfl) (fun _ _ _ h => h) (reg.wanted_none rfl) (hM.ls (by simp)) (fun W hW => by simp [execOp, go_sem, Act.put, hsz, s0, s2, s4, HS8.out]) ?_
    refine reg.e_take (i := 6) (.string s) rfl (by kernel_rfl) (by kernel_rfl) (by kernel_rfl) (by kernel_rfl) (fun _ _ _ h => h) (reg.wanted_none rfl) (hM.ls (by simp)) (fun W hW => by simp [execOp, go_sem, Act.put, hsz, s0, s2, s4]) ?_
    refine reg.e_take (i := 7) (.int .u8 (bt s 12)) rfl (by kernel_rfl) (by kernel_rfl) (by kernel_rfl) (by kernel_rfl) (fun _ _ _ h => h) (reg.wanted_none rfl) (hM.ls (by simp)) (fun W hW => by simp [execOp, go_sem, Act.put, hsz, s0, s2, s4, H12.out]) ?_
    refine reg.e_take (i := 8) (.bool true) rfl (by kernel_rfl) (by kernel_rfl) (by kernel_rfl) (by kernel_rfl) (fun _ _ _ h => h) (reg.wanted_none rfl) (hM.ls (by simp)) (fun W hW => by simp [execOp, go_sem, Act.put, hsz, s0, s2, s4, HG0.out]) ?_
    refine reg.e_take (i := 9) (.string s) rfl (by kernel_rfl) (by kernel_rfl) (by kernel_rfl) (by kernel_rfl) (fun _ _ _ h => h) (reg.wanted_none rfl) (hM.ls (by simp)) (fun W hW => by simp [execOp, go_sem, Act.put, hsz, s0, s2, s4]) ?_
    refine reg.e_take (i := 10) (.int .u8 (bt s 13)) rfl (by kernel_rfl) (by kernel_rfl) (by kernel_rfl) (by kernel_rfl) (fun _ _ _ h => h) (reg.wanted_none rfl) (hM.ls (by simp)) (fun W hW => by simp [execOp, go_sem, Act.put, hsz, s0, s2, s4, H13.out]) ?_
    refine reg.e_take (i := 11) (.int .i64 (bt s 13)) rfl (by kernel_rfl) (by kernel_rfl) (by kernel_rfl) (by kernel_rfl) (fun _ _ _ h => h) (reg.wanted_none rfl) (hM.ls (by simp)) (fun W hW => by simp [execOp, go_sem, Act.put, hsz, s0, s2, s4, e13.out]) ?_
    refine reg.e_take (i := 12) (.string s) rfl (by kernel_rfl) (by kernel_rfl) (by kernel_rfl) (by kernel_rfl) (fun _ _ _ h => h) (reg.wanted_none rfl) (hM.ls (by simp)) (fun W hW => by simp [execOp, go_sem, Act.put, hsz, s0, s2, s4]) ?_
    refine reg.e_take (i := 13) (.int .i64 (n : Int)) rfl (by kernel_rfl) (by kernel_rfl) (by kernel_rfl) (by kernel_rfl) (fun _ _ _ h => h) (reg.wanted_none rfl) (hM.ls (by simp)) (fun W hW => by simp [execOp, go_sem, Act.put, hsz, s0, s2, s4]) ?_
    refine reg.e_take (i := 14) (.int .i64 (J : Int)) rfl (by kernel_rfl) (by kernel_rfl) (by kernel_rfl) (by kernel_rfl) (fun _ _ _ h => h) (reg.wanted_none rfl) (hM.ls (by simp)) (fun W hW => by simp [execOp, go_sem, Act.put, hsz, s0, s2, s4, HJ.out]) ?_
    refine reg.e_take (i := 15) (.string (s.extract 15 J)) rfl (by kernel_rfl) (by kernel_rfl) (by kernel_rfl) (by kernel_rfl) (fun _ _ _ h => h) (reg.wanted_none rfl) (hM.ls (by simp)) (fun W hW => by simp [execOp, go_sem, Act.put, hsz, s0, s2, s4, HS15.out]) ?_
    refine reg.e_one 2 (by kernel_rfl) rfl ?_
    refine reg.r_call (i := 2) 33 #[.string (s.extract 4 s.size)] rfl (reg.wanted_none rfl) (by simp [execOp, go_sem, Act.put, hsz, s0, s2, s4]) ((HL4.out _).mono ?_)
    rintro re ru1 ⟨rfl, rhv⟩
    replace hM := hM.call rhv
    clear rhv
    refine ⟨_, rfl, hM.ls (by simp), ?_⟩
    refine reg.e_one 5 (by kernel_rfl) rfl ?_
    refine reg.r_call (i := 5) 33 #[.string (s.extract 8 s.size)] rfl (reg.wanted_none rfl) (by simp [execOp, go_sem, Act.put, hsz, s0, s2, s4]) ((HL8.out _).mono ?_)
    rintro re ru2 ⟨rfl, rhv⟩
    replace hM := hM.call rhv
    clear rhv
    refine ⟨_, rfl, hM.ls (by simp), ?_⟩
    refine reg.e_take (i := 16) (ag (wpl (rdV s))) rfl (by kernel_rfl) (by kernel_rfl) (by kernel_rfl) (by kernel_rfl) (fun _ _ _ h => h) (reg.wanted_none rfl) (hM.ls (by simp)) (fun W hW => by simp [execOp, go_sem, Act.put, hsz, s0, s2, s4, HBD.out]) ?_
    refine reg.e_one 17 (by kernel_rfl) rfl ?_
    refine r_fill (i := 17) rfl (reg.wanted_none rfl) rfl row_wrap (by simp [go_sem, Act.put, hsz, s0, s2, s4]) (by simp [go_sem, Act.put, hsz, s0, s2, s4]) hM.at0 (wpl_vs (rdV s)) rfl ?_
    intro ru3 rhv rhc
    replace hM := hM.put0 rhc rhv
    clear rhc rhv
    refine ⟨hM.ls (by simp), ?_⟩
    refine reg.e_take (i := 18) (.int .i64 0) rfl (by kernel_rfl) (by kernel_rfl) (by kernel_rfl) (by kernel_rfl) (fun _ _ _ h => h) (reg.wanted_none rfl) (hM.ls (by simp)) (fun W hW => by simp [execOp, go_sem, Act.put, hsz, s0, s2, s4]) ?_
    refine reg.e_done (by kernel_rfl) ?_ _
    subst ha0
    clear hsz s0 s2 s4
    go_simp
    repeat' (first | go_values | go_skip | go_guarded | go_step | go_upon | (simp only [Int.not_lt, Int.not_le] at *; go_simp))
    exact bodyPost_ret (ret_2 rfl rfl (ld_var row_wrap hM.at0 rfl) rfl) rfl ⟨rfl, hM.below⟩
end Go.Proofs.Ytecknicmonhcaaa.bulk
