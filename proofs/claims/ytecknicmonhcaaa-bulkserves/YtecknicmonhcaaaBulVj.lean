/- plugref: Judged. (Written by tools/genbulv.py.) -/
import Derived.Test.YtecknicmonhcaaaBulV
namespace Go.Proofs.Ytecknicmonhcaaa.bulk
open Go Go.RowKit Go.PlainAid Go.Proofs.Ytecknicmonhcaaa.lane Go.Proofs.Ytecknicmonhcaaa.pipe Go.Proofs.Ytecknicmonhcaaa.strike
set_option linter.unusedVariables false
set_option linter.unusedSimpArgs false
set_option maxRecDepth 100000

set_option maxHeartbeats 8000000 in
theorem judged_any (x d : Mv) (w : World) : Calls Try.prog 18 #[ag (mvl x), ag (mvl d)] w fun e w' => e = .returned (.tuple #[ag (vdl (jdV x d)), .int .i64 (jdC x d)]) ∧ Below w.heap.size w w' := by
  have HI : Hid (∀ m u, Calls Try.prog 37 #[ag (mvl m)] u fun e w' => e = .returned (.bool (mvB m)) ∧ Below u.heap.size u w') := fun m u => move_any m u
  have hM := Mm.nil w
  cases h1 : mvB x
  case false =>
    have e := jd_no (h := x) (d := d) (by rw [h1]; simp)
    rw [e.1, e.2]
    clear e
    go_enter Try.func18, Try.ntmps18
    repeat' (first | (go_big_may; first | (refine v_box rfl rfl rfl ?_; intro u za hN; replace hM := Mm.new (L := []) hM hN; clear hN) | (refine v_box rfl rfl rfl ?_; intro u zb hN; replace hM := hM.new hN; clear hN) | (refine v_alloc rfl zer_verdict rfl ?_; intro u zr hN; replace hM := hM.new hN; clear hN) | (refine v_load rfl rfl row_move rfl hM.at2 (Nat.le_refl _) (cut_all rfl) ?_)) | go_values | go_skip | go_guarded | go_step | go_upon | (simp only [Int.not_lt, Int.not_le] at *; go_simp))
    refine (HI.out _ _).mono ?_
    rintro e u1 ⟨rfl, hb⟩
    replace hM := hM.call hb
    rw [h1]
    clear hb
    repeat' (first | (go_big_may; first | (refine v_build rfl rfl bld_verdict0 ?hbv ?_; (case hbv => simp [Act.eval, Act.put])) | (refine v_fill rfl rfl row_verdict rfl rfl hM.at0 (vdl_vs _) rfl ?_; intro u hv hc; replace hM := hM.put0 hc hv; clear hv hc)) | go_values | go_skip | go_guarded | go_step | go_upon | (simp only [Int.not_lt, Int.not_le] at *; go_simp))
    exact bodyPost_ret (ret_2 rfl rfl (ld_var row_verdict hM.at0 rfl) rfl) rfl ⟨rfl, hM.below⟩
  cases h2 : mvB d
  case false =>
    have e := jd_no (h := x) (d := d) (by rw [h2]; simp)
    rw [e.1, e.2]
    clear e
    go_enter Try.func18, Try.ntmps18
    repeat' (first | (go_big_may; first | (refine v_box rfl rfl rfl ?_; intro u za hN; replace hM := Mm.new (L := []) hM hN; clear hN) | (refine v_box rfl rfl rfl ?_; intro u zb hN; replace hM := hM.new hN; clear hN) | (refine v_alloc rfl zer_verdict rfl ?_; intro u zr hN; replace hM := hM.new hN; clear hN) | (refine v_load rfl rfl row_move rfl hM.at2 (Nat.le_refl _) (cut_all rfl) ?_)) | go_values | go_skip | go_guarded | go_step | go_upon | (simp only [Int.not_lt, Int.not_le] at *; go_simp))
    refine (HI.out _ _).mono ?_
    rintro e u1 ⟨rfl, hb⟩
    replace hM := hM.call hb
    rw [h1]
    clear hb
    repeat' (first | (go_big_may; first | (refine v_load rfl rfl row_move rfl hM.at1 (Nat.le_refl _) (cut_all rfl) ?_)) | go_values | go_skip | go_guarded | go_step | go_upon | (simp only [Int.not_lt, Int.not_le] at *; go_simp))
    refine (HI.out _ _).mono ?_
    rintro e u1 ⟨rfl, hb⟩
    replace hM := hM.call hb
    rw [h2]
    clear hb
    repeat' (first | (go_big_may; first | (refine v_build rfl rfl bld_verdict0 ?hbv ?_; (case hbv => simp [Act.eval, Act.put])) | (refine v_fill rfl rfl row_verdict rfl rfl hM.at0 (vdl_vs _) rfl ?_; intro u hv hc; replace hM := hM.put0 hc hv; clear hv hc)) | go_values | go_skip | go_guarded | go_step | go_upon | (simp only [Int.not_lt, Int.not_le] at *; go_simp))
    exact bodyPost_ret (ret_2 rfl rfl (ld_var row_verdict hM.at0 rfl) rfl) rfl ⟨rfl, hM.below⟩
  have e := jd_ok h1 h2
  have a1 := (mv_iff x).1 h1
  have a2 := (mv_iff d).1 h2
  have hr := cs_range h1 h2
  have hj := jc_cs h1 h2
  have hv := cmp_val d.len x.len
  rw [e.1, e.2]
  have hd1 : x.dir = 0 ∨ x.dir = 1 ∨ x.dir = 2 := by omega
  have hd2 : d.dir = 0 ∨ d.dir = 1 ∨ d.dir = 2 := by omega
  obtain ⟨c, hc⟩ : ∃ c, csV x d = c := ⟨_, rfl⟩
  rw [hc] at hr hj ⊢
  have HIB : Hid (∀ u, Calls Try.prog 38 #[.string ⟨#[2, 3, 7, 8, 10, 13]⟩, .int .u8 c] u fun e w' => (∃ r : Int, e = .returned (.int .i64 r) ∧ decide (0 ≤ r) = mkd c) ∧ w' = u) := fun u => by
    refine (index_any _ c u).mono ?_
    rintro e u' ⟨rfl, rfl⟩
    refine ⟨⟨_, rfl, ?_⟩, rfl⟩
    have := mkd_idx ⟨c.toNat, by omega⟩
    simp only [Int.toNat_of_nonneg (show 0 ≤ c by omega)] at this
    exact this
  obtain ⟨q, hq⟩ : ∃ q, min x.len d.len = q := ⟨_, rfl⟩
  have hif : (if d.len < x.len then d.len else x.len) = q := by rw [← hq]; split <;> omega
  have hm0 : 0 ≤ q := by omega
  have hm1 : q ≤ x.len := by omega
  have hm2 : x.len ≤ 4294967295 := by omega
  have HB : Hid (mvB x = true ∧ mvB d = true) := ⟨h1, h2⟩
  have HI1 : Hid (∀ W, (Instr.index 67 (ag (ivs tb27)) (.int .i64 x.dir)).run Try.prog W = .ok (ag (ivs (tb9 x.dir))) W) := fun W => ix27 _ hd1 W
  have HI2 : Hid (∀ W, (Instr.index 66 (ag (ivs (tb9 x.dir))) (.int .i64 d.dir)).run Try.prog W = .ok (ag (ivs (tb3 x.dir d.dir))) W) := fun W => ix9 _ _ hd1 hd2 W
  have eu : IntKind.u8.wrap c = c := by rw [IntKind.wrap_u8]; omega
  rw [hq]
  by_cases hc0 : d.len < x.len
  · have HI3 : Hid (∀ W, (Instr.index 65 (ag (ivs (tb3 x.dir d.dir))) (.int .i64 0)).run Try.prog W = .ok (.int .i64 c) W) := fun W => by
      have hcv : cmpI d.len x.len = -1 := by omega
      have := ix3 x.dir d.dir 0 hd1 hd2 (by omega) (fun _ _ => trivial) W
      rw [hcv] at hj
      rw [show (0 : Int) = 1 + -1 from rfl, hj] at this
      exact this
    have t1 : decide (d.len < x.len) = true := decide_eq_true hc0
    have t2 : decide (x.len < d.len) = false := decide_eq_false (by omega)
    clear e hc a1 a2 hv hj hd1 hd2 hr h1 h2 hc0
    go_enter Try.func18, Try.ntmps18
    repeat' (first | (go_big_may; first | (refine v_box rfl rfl rfl ?_; intro u za hN; replace hM := Mm.new (L := []) hM hN; clear hN) | (refine v_box rfl rfl rfl ?_; intro u zb hN; replace hM := hM.new hN; clear hN) | (refine v_alloc rfl zer_verdict rfl ?_; intro u zr hN; replace hM := hM.new hN; clear hN) | (refine v_load rfl rfl row_move rfl hM.at2 (Nat.le_refl _) (cut_all rfl) ?_)) | go_values | go_skip | go_guarded | go_step | go_upon | (simp only [Int.not_lt, Int.not_le] at *; go_simp))
    refine (HI.out _ _).mono ?_
    rintro e u1 ⟨rfl, hb⟩
    replace hM := hM.call hb
    rw [HB.out.1]
    clear hb
    repeat' (first | (go_big_may; first | (refine v_load rfl rfl row_move rfl hM.at1 (Nat.le_refl _) (cut_all rfl) ?_)) | go_values | go_skip | go_guarded | go_step | go_upon | (simp only [Int.not_lt, Int.not_le] at *; go_simp))
    refine (HI.out _ _).mono ?_
    rintro e u1 ⟨rfl, hb⟩
    replace hM := hM.call hb
    rw [HB.out.2]
    clear hb
    clear HI HB
    have HEU : Hid (IntKind.u8.wrap c = c ∧ min x.len d.len = q) := ⟨eu, hq⟩
    clear eu hif hq
    repeat' (first | (go_big_may; first | (refine v_get rfl rfl (by first | exact lod_int | exact lod_str | exact lod_fcs | exact lod_err | exact lod_bool | exact lod_txs) rfl hM.at2 rfl ?_) | (refine v_get rfl rfl (by first | exact lod_int | exact lod_str | exact lod_fcs | exact lod_err | exact lod_bool | exact lod_txs) rfl hM.at1 rfl ?_)) | go_values | go_skip | go_guarded | go_step | go_upon | (simp only [Int.not_lt, Int.not_le] at *; go_simp))
    refine reg.wp_abs (fun a0 => a0.tmps.size = 69 ∧ (∀ h, a0.tmps[2]'h = .pointer (some ⟨za, 0, none⟩)) ∧ (∀ h, a0.tmps[3]'h = .pointer (some ⟨zb, 0, none⟩)) ∧ (∀ h, a0.tmps[6]'h = .int .i64 0)) ⟨rfl, fun _ => rfl, fun _ => rfl, fun _ => rfl⟩ ?_
    rintro a0 ⟨hsz, s2, s3, s6⟩ ha0
    refine reg.wp_region_E (S := fun W => Ls W [(zb, 37, (mvl d)), (za, 37, (mvl x))]) (E := fun _ => false) (by kernel_rfl) ?_
    replace hM := hM.drew
    refine reg.any_q (fun _ _ _ _ _ h => h) ?_
    intro hQP
    refine reg.e_take (i := 0) (ag (ivs [1, 1, 1])) rfl (by kernel_rfl) (by kernel_rfl) (by kernel_rfl) (by kernel_rfl) (fun c a w h => hQP c _ _ w rfl h) (reg.wanted_none rfl) (hM.ls (by simp)) (fun W hW => by simp [execOp, go_sem, Act.put, hsz, s2, s3, s6, ivs, ag, tb27]) ?_
    refine reg.e_take (i := 1) (ag (ivs [2, 2, 2])) rfl (by kernel_rfl) (by kernel_rfl) (by kernel_rfl) (by kernel_rfl) (fun c a w h => hQP c _ _ w rfl h) (reg.wanted_none rfl) (hM.ls (by simp)) (fun W hW => by simp [execOp, go_sem, Act.put, hsz, s2, s3, s6, ivs, ag, tb27]) ?_
    refine reg.e_take (i := 2) (ag (ivs [3, 3, 3])) rfl (by kernel_rfl) (by kernel_rfl) (by kernel_rfl) (by kernel_rfl) (fun c a w h => hQP c _ _ w rfl h) (reg.wanted_none rfl) (hM.ls (by simp)) (fun W hW => by simp [execOp, go_sem, Act.put, hsz, s2, s3, s6, ivs, ag, tb27]) ?_
    refine reg.e_take (i := 3) (ag (ivs [1, 1, 1, 2, 2, 2, 3, 3, 3])) rfl (by kernel_rfl) (by kernel_rfl) (by kernel_rfl) (by kernel_rfl) (fun c a w h => hQP c _ _ w rfl h) (reg.wanted_none rfl) (hM.ls (by simp)) (fun W hW => by simp [execOp, go_sem, Act.put, hsz, s2, s3, s6, ivs, ag, tb27]) ?_
    refine reg.e_take (i := 4) (ag (ivs [4, 4, 4])) rfl (by kernel_rfl) (by kernel_rfl) (by kernel_rfl) (by kernel_rfl) (fun c a w h => hQP c _ _ w rfl h) (reg.wanted_none rfl) (hM.ls (by simp)) (fun W hW => by simp [execOp, go_sem, Act.put, hsz, s2, s3, s6, ivs, ag, tb27]) ?_
    refine reg.e_take (i := 5) (ag (ivs [5, 6, 7])) rfl (by kernel_rfl) (by kernel_rfl) (by kernel_rfl) (by kernel_rfl) (fun c a w h => hQP c _ _ w rfl h) (reg.wanted_none rfl) (hM.ls (by simp)) (fun W hW => by simp [execOp, go_sem, Act.put, hsz, s2, s3, s6, ivs, ag, tb27]) ?_
    refine reg.any_list #[true, true, true, true, true, true, false, false, false, false, false, false, false, false, false, false, false, false, false, false, false, false] (by kernel_rfl) ?_
    refine reg.any_abs (fun q => q.tmps.size = 69 ∧ (∀ h, q.tmps[2]'h = .pointer (some ⟨za, 0, none⟩)) ∧ (∀ h, q.tmps[3]'h = .pointer (some ⟨zb, 0, none⟩)) ∧ (∀ h, q.tmps[6]'h = .int .i64 0) ∧ (∀ h, q.tmps[31]'h = ag (ivs [1, 1, 1, 2, 2, 2, 3, 3, 3])) ∧ (∀ h, q.tmps[32]'h = ag (ivs [4, 4, 4])) ∧ (∀ h, q.tmps[33]'h = ag (ivs [5, 6, 7]))) ⟨by simp [Act.put, hsz, s2, s3, s6], reg.at_of (by simp [Act.put, hsz, s2, s3, s6]), reg.at_of (by simp [Act.put, hsz, s2, s3, s6]), reg.at_of (by simp [Act.put, hsz, s2, s3, s6]), reg.at_of (by simp [Act.put, hsz, s2, s3, s6]), reg.at_of (by simp [Act.put, hsz, s2, s3, s6]), reg.at_of (by simp [Act.put, hsz, s2, s3, s6])⟩ ?_
    clear hsz s2 s3 s6
    rintro q1 ⟨q1z, q1s2, q1s3, q1s6, q1s31, q1s32, q1s33⟩ hq1
    have HQ1 : Hid (q1 = _) := hq1
    clear hq1
    refine reg.e_take (i := 6) (ag (ivs [8, 8, 8])) rfl (by kernel_rfl) (by kernel_rfl) (by kernel_rfl) (by kernel_rfl) (fun c a w h => hQP c _ _ w rfl h) (reg.wanted_none rfl) (hM.ls (by simp)) (fun W hW => by simp [execOp, go_sem, Act.put, q1z, q1s2, q1s3, q1s6, q1s31, q1s32, q1s33, ivs, ag, tb27]) ?_
    refine reg.e_take (i := 7) (ag (ivs [4, 4, 4, 5, 6, 7, 8, 8, 8])) rfl (by kernel_rfl) (by kernel_rfl) (by kernel_rfl) (by kernel_rfl) (fun c a w h => hQP c _ _ w rfl h) (reg.wanted_none rfl) (hM.ls (by simp)) (fun W hW => by simp [execOp, go_sem, Act.put, q1z, q1s2, q1s3, q1s6, q1s31, q1s32, q1s33, ivs, ag, tb27]) ?_
    refine reg.e_take (i := 8) (ag (ivs [9, 9, 9])) rfl (by kernel_rfl) (by kernel_rfl) (by kernel_rfl) (by kernel_rfl) (fun c a w h => hQP c _ _ w rfl h) (reg.wanted_none rfl) (hM.ls (by simp)) (fun W hW => by simp [execOp, go_sem, Act.put, q1z, q1s2, q1s3, q1s6, q1s31, q1s32, q1s33, ivs, ag, tb27]) ?_
    refine reg.e_take (i := 9) (ag (ivs [10, 10, 10])) rfl (by kernel_rfl) (by kernel_rfl) (by kernel_rfl) (by kernel_rfl) (fun c a w h => hQP c _ _ w rfl h) (reg.wanted_none rfl) (hM.ls (by simp)) (fun W hW => by simp [execOp, go_sem, Act.put, q1z, q1s2, q1s3, q1s6, q1s31, q1s32, q1s33, ivs, ag, tb27]) ?_
    refine reg.e_take (i := 10) (ag (ivs [11, 12, 13])) rfl (by kernel_rfl) (by kernel_rfl) (by kernel_rfl) (by kernel_rfl) (fun c a w h => hQP c _ _ w rfl h) (reg.wanted_none rfl) (hM.ls (by simp)) (fun W hW => by simp [execOp, go_sem, Act.put, q1z, q1s2, q1s3, q1s6, q1s31, q1s32, q1s33, ivs, ag, tb27]) ?_
    refine reg.e_take (i := 11) (ag (ivs [9, 9, 9, 10, 10, 10, 11, 12, 13])) rfl (by kernel_rfl) (by kernel_rfl) (by kernel_rfl) (by kernel_rfl) (fun c a w h => hQP c _ _ w rfl h) (reg.wanted_none rfl) (hM.ls (by simp)) (fun W hW => by simp [execOp, go_sem, Act.put, q1z, q1s2, q1s3, q1s6, q1s31, q1s32, q1s33, ivs, ag, tb27]) ?_
    refine reg.any_list #[true, true, true, true, true, true, true, true, true, true, true, true, false, false, false, false, false, false, false, false, false, false] (by kernel_rfl) ?_
    refine reg.any_abs (fun q => q.tmps.size = 69 ∧ (∀ h, q.tmps[2]'h = .pointer (some ⟨za, 0, none⟩)) ∧ (∀ h, q.tmps[3]'h = .pointer (some ⟨zb, 0, none⟩)) ∧ (∀ h, q.tmps[6]'h = .int .i64 0) ∧ (∀ h, q.tmps[31]'h = ag (ivs [1, 1, 1, 2, 2, 2, 3, 3, 3])) ∧ (∀ h, q.tmps[35]'h = ag (ivs [4, 4, 4, 5, 6, 7, 8, 8, 8])) ∧ (∀ h, q.tmps[39]'h = ag (ivs [9, 9, 9, 10, 10, 10, 11, 12, 13]))) ⟨by simp [Act.put, q1z, q1s2, q1s3, q1s6, q1s31, q1s32, q1s33], reg.at_of (by simp [Act.put, q1z, q1s2, q1s3, q1s6, q1s31, q1s32, q1s33]), reg.at_of (by simp [Act.put, q1z, q1s2, q1s3, q1s6, q1s31, q1s32, q1s33]), reg.at_of (by simp [Act.put, q1z, q1s2, q1s3, q1s6, q1s31, q1s32, q1s33]), reg.at_of (by simp [Act.put, q1z, q1s2, q1s3, q1s6, q1s31, q1s32, q1s33]), reg.at_of (by simp [Act.put, q1z, q1s2, q1s3, q1s6, q1s31, q1s32, q1s33]), reg.at_of (by simp [Act.put, q1z, q1s2, q1s3, q1s6, q1s31, q1s32, q1s33])⟩ ?_
    clear q1z q1s2 q1s3 q1s6 q1s31 q1s32 q1s33
    rintro q2 ⟨q2z, q2s2, q2s3, q2s6, q2s31, q2s35, q2s39⟩ hq2
    have HQ2 : Hid (q2 = _) := hq2
    clear hq2
    refine reg.e_take (i := 12) (ag (ivs tb27)) rfl (by kernel_rfl) (by kernel_rfl) (by kernel_rfl) (by kernel_rfl) (fun c a w h => hQP c _ _ w rfl h) (reg.wanted_none rfl) (hM.ls (by simp)) (fun W hW => by simp [execOp, go_sem, Act.put, q2z, q2s2, q2s3, q2s6, q2s31, q2s35, q2s39, ivs, ag, tb27]) ?_
    refine reg.e_take (i := 13) (.pointer (some ⟨za, 0, none⟩)) rfl (by kernel_rfl) (by kernel_rfl) (by kernel_rfl) (by kernel_rfl) (fun c a w h => hQP c _ _ w rfl h) (reg.wanted_none rfl) (hM.ls (by simp)) (fun W hW => by simp [execOp, go_sem, Act.put, q2z, q2s2, q2s3, q2s6, q2s31, q2s35, q2s39]) ?_
    refine reg.e_take (i := 14) (.int .i64 x.dir) rfl (by kernel_rfl) (by kernel_rfl) (by kernel_rfl) (by kernel_rfl) (fun c a w h => hQP c _ _ w rfl h) (reg.wanted_none rfl) (hM.ls (by simp)) (fun W hW => ex_get rfl (by simp [go_sem, Act.put, q2z, q2s2, q2s3, q2s6, q2s31, q2s35, q2s39]) hW.at1 (show (mvl x)[0]? = some _ from rfl)) ?_
    refine reg.e_take (i := 15) (ag (ivs (tb9 x.dir))) rfl (by kernel_rfl) (by kernel_rfl) (by kernel_rfl) (by kernel_rfl) (fun c a w h => hQP c _ _ w rfl h) (reg.wanted_none rfl) (hM.ls (by simp)) (fun W hW => by simp [execOp, go_sem, Act.put, q2z, q2s2, q2s3, q2s6, q2s31, q2s35, q2s39, HI1.out]) ?_
    refine reg.e_take (i := 16) (.pointer (some ⟨zb, 0, none⟩)) rfl (by kernel_rfl) (by kernel_rfl) (by kernel_rfl) (by kernel_rfl) (fun c a w h => hQP c _ _ w rfl h) (reg.wanted_none rfl) (hM.ls (by simp)) (fun W hW => by simp [execOp, go_sem, Act.put, q2z, q2s2, q2s3, q2s6, q2s31, q2s35, q2s39]) ?_
    refine reg.e_take (i := 17) (.int .i64 d.dir) rfl (by kernel_rfl) (by kernel_rfl) (by kernel_rfl) (by kernel_rfl) (fun c a w h => hQP c _ _ w rfl h) (reg.wanted_none rfl) (hM.ls (by simp)) (fun W hW => ex_get rfl (by simp [go_sem, Act.put, q2z, q2s2, q2s3, q2s6, q2s31, q2s35, q2s39]) hW.at0 (show (mvl d)[0]? = some _ from rfl)) ?_
    refine reg.any_list #[true, true, true, true, true, true, true, true, true, true, true, true, true, true, true, true, true, true, false, false, false, false] (by kernel_rfl) ?_
    refine reg.any_abs (fun q => q.tmps.size = 69 ∧ (∀ h, q.tmps[6]'h = .int .i64 0) ∧ (∀ h, q.tmps[43]'h = ag (ivs (tb9 x.dir))) ∧ (∀ h, q.tmps[45]'h = .int .i64 d.dir)) ⟨by simp [Act.put, q2z, q2s2, q2s3, q2s6, q2s31, q2s35, q2s39], reg.at_of (by simp [Act.put, q2z, q2s2, q2s3, q2s6, q2s31, q2s35, q2s39]), reg.at_of (by simp [Act.put, q2z, q2s2, q2s3, q2s6, q2s31, q2s35, q2s39]), reg.at_of (by simp [Act.put, q2z, q2s2, q2s3, q2s6, q2s31, q2s35, q2s39])⟩ ?_
    clear q2z q2s2 q2s3 q2s6 q2s31 q2s35 q2s39
    rintro q3 ⟨q3z, q3s6, q3s43, q3s45⟩ hq3
    have HQ3 : Hid (q3 = _) := hq3
    clear hq3
    refine reg.e_take (i := 18) (ag (ivs (tb3 x.dir d.dir))) rfl (by kernel_rfl) (by kernel_rfl) (by kernel_rfl) (by kernel_rfl) (fun c a w h => hQP c _ _ w rfl h) (reg.wanted_none rfl) (hM.ls (by simp)) (fun W hW => by simp [execOp, go_sem, Act.put, q3z, q3s6, q3s43, q3s45, HI2.out]) ?_
    refine reg.e_take (i := 19) (.int .i64 0) rfl (by kernel_rfl) (by kernel_rfl) (by kernel_rfl) (by kernel_rfl) (fun c a w h => hQP c _ _ w rfl h) (reg.wanted_none rfl) (hM.ls (by simp)) (fun W hW => by simp [execOp, go_sem, Act.put, q3z, q3s6, q3s43, q3s45]) ?_
    refine reg.e_take (i := 20) (.int .i64 c) rfl (by kernel_rfl) (by kernel_rfl) (by kernel_rfl) (by kernel_rfl) (fun c a w h => hQP c _ _ w rfl h) (reg.wanted_none rfl) (hM.ls (by simp)) (fun W hW => by simp [execOp, go_sem, Act.put, q3z, q3s6, q3s43, q3s45, HI3.out]) ?_
    refine reg.e_take (i := 21) (.int .i64 c) rfl (by kernel_rfl) (by kernel_rfl) (by kernel_rfl) (by kernel_rfl) (fun c a w h => hQP c _ _ w rfl h) (reg.wanted_none rfl) (hM.ls (by simp)) (fun W hW => by simp [execOp, go_sem, Act.put, q3z, q3s6, q3s43, q3s45]) ?_
    clear hQP
    refine reg.e_done (by kernel_rfl) ?_ _
    clear q3z q3s6 q3s43 q3s45
    have hq3 := HQ3.out
    clear HQ3
    subst hq3
    have hq2 := HQ2.out
    clear HQ2
    subst hq2
    have hq1 := HQ1.out
    clear HQ1
    subst hq1
    subst ha0
    go_simp
    have eu := HEU.out.1
    repeat' (first | go_values | go_skip | go_guarded | go_step | go_upon | (simp only [Int.not_lt, Int.not_le] at *; go_simp))
    refine (HIB.out _).mono ?_
    rintro e u5 ⟨⟨r, rfl, hr⟩, rfl⟩
    clear HIB eu t1 t2
    have hif := HEU.out.2
    cases hk : mkd c
    · rw [hk] at hr
      have HK : Hid (mkd c = false) := hk
      clear hk
      repeat' (first | (go_big_may; first | (refine v_get rfl rfl (by first | exact lod_int | exact lod_str | exact lod_fcs | exact lod_err | exact lod_bool | exact lod_txs) rfl hM.at2 rfl ?_) | (refine v_get rfl rfl (by first | exact lod_int | exact lod_str | exact lod_fcs | exact lod_err | exact lod_bool | exact lod_txs) rfl hM.at1 rfl ?_) | (refine v_build rfl rfl (bld_vd4 c q (x.len - q)) ?hbv ?_; (case hbv => simp [Act.eval, Act.put])) | (refine v_fill rfl rfl row_verdict rfl rfl hM.at0 (vdl_vs ⟨c, q, x.len - q, 0⟩) rfl ?_; intro u hv hc; replace hM := hM.put0 hc hv; clear hv hc)) | go_values | go_skip | go_guarded | go_step | go_upon | (simp only [Int.not_lt, Int.not_le] at *; go_simp))
      exact bodyPost_ret (ret_2 rfl rfl (ld_var row_verdict hM.at0 rfl) rfl) rfl ⟨by rw [HK.out]; rfl, hM.below⟩
    · rw [hk] at hr
      have HK : Hid (mkd c = true) := hk
      clear hk hif
      repeat' (first | (go_big_may; first | (refine v_get rfl rfl (by first | exact lod_int | exact lod_str | exact lod_fcs | exact lod_err | exact lod_bool | exact lod_txs) rfl hM.at2 rfl ?_) | (refine v_get rfl rfl (by first | exact lod_int | exact lod_str | exact lod_fcs | exact lod_err | exact lod_bool | exact lod_txs) rfl hM.at1 rfl ?_) | (refine v_build rfl rfl (bld_vd3 c x.len 2) ?hbv ?_; (case hbv => simp [Act.eval, Act.put])) | (refine v_fill rfl rfl row_verdict rfl rfl hM.at0 (vdl_vs ⟨c, 0, x.len, 2⟩) rfl ?_; intro u hv hc; replace hM := hM.put0 hc hv; clear hv hc)) | go_values | go_skip | go_guarded | go_step | go_upon | (simp only [Int.not_lt, Int.not_le] at *; go_simp))
      exact bodyPost_ret (ret_2 rfl rfl (ld_var row_verdict hM.at0 rfl) rfl) rfl ⟨by rw [HK.out]; rfl, hM.below⟩
  by_cases hc2 : x.len < d.len
  · have HI3 : Hid (∀ W, (Instr.index 65 (ag (ivs (tb3 x.dir d.dir))) (.int .i64 2)).run Try.prog W = .ok (.int .i64 c) W) := fun W => by
      have hcv : cmpI d.len x.len = 1 := by omega
      have := ix3 x.dir d.dir 2 hd1 hd2 (by omega) (fun _ _ => trivial) W
      rw [hcv] at hj
      rw [show (2 : Int) = 1 + 1 from rfl, hj] at this
      exact this
    have t1 : decide (d.len < x.len) = false := decide_eq_false (by omega)
    have t2 : decide (x.len < d.len) = true := decide_eq_true hc2
    clear e hc a1 a2 hv hj hd1 hd2 hr h1 h2 hc0 hc2
    go_enter Try.func18, Try.ntmps18
    repeat' (first | (go_big_may; first | (refine v_box rfl rfl rfl ?_; intro u za hN; replace hM := Mm.new (L := []) hM hN; clear hN) | (refine v_box rfl rfl rfl ?_; intro u zb hN; replace hM := hM.new hN; clear hN) | (refine v_alloc rfl zer_verdict rfl ?_; intro u zr hN; replace hM := hM.new hN; clear hN) | (refine v_load rfl rfl row_move rfl hM.at2 (Nat.le_refl _) (cut_all rfl) ?_)) | go_values | go_skip | go_guarded | go_step | go_upon | (simp only [Int.not_lt, Int.not_le] at *; go_simp))
    refine (HI.out _ _).mono ?_
    rintro e u1 ⟨rfl, hb⟩
    replace hM := hM.call hb
    rw [HB.out.1]
    clear hb
    repeat' (first | (go_big_may; first | (refine v_load rfl rfl row_move rfl hM.at1 (Nat.le_refl _) (cut_all rfl) ?_)) | go_values | go_skip | go_guarded | go_step | go_upon | (simp only [Int.not_lt, Int.not_le] at *; go_simp))
    refine (HI.out _ _).mono ?_
    rintro e u1 ⟨rfl, hb⟩
    replace hM := hM.call hb
    rw [HB.out.2]
    clear hb
    clear HI HB
    have HEU : Hid (IntKind.u8.wrap c = c ∧ min x.len d.len = q) := ⟨eu, hq⟩
    clear eu hif hq
    repeat' (first | (go_big_may; first | (refine v_get rfl rfl (by first | exact lod_int | exact lod_str | exact lod_fcs | exact lod_err | exact lod_bool | exact lod_txs) rfl hM.at2 rfl ?_) | (refine v_get rfl rfl (by first | exact lod_int | exact lod_str | exact lod_fcs | exact lod_err | exact lod_bool | exact lod_txs) rfl hM.at1 rfl ?_)) | go_values | go_skip | go_guarded | go_step | go_upon | (simp only [Int.not_lt, Int.not_le] at *; go_simp))
    refine reg.wp_abs (fun a0 => a0.tmps.size = 69 ∧ (∀ h, a0.tmps[2]'h = .pointer (some ⟨za, 0, none⟩)) ∧ (∀ h, a0.tmps[3]'h = .pointer (some ⟨zb, 0, none⟩)) ∧ (∀ h, a0.tmps[6]'h = .int .i64 2)) ⟨rfl, fun _ => rfl, fun _ => rfl, fun _ => rfl⟩ ?_
    rintro a0 ⟨hsz, s2, s3, s6⟩ ha0
    refine reg.wp_region_E (S := fun W => Ls W [(zb, 37, (mvl d)), (za, 37, (mvl x))]) (E := fun _ => false) (by kernel_rfl) ?_
    replace hM := hM.drew
    refine reg.any_q (fun _ _ _ _ _ h => h) ?_
    intro hQP
    refine reg.e_take (i := 0) (ag (ivs [1, 1, 1])) rfl (by kernel_rfl) (by kernel_rfl) (by kernel_rfl) (by kernel_rfl) (fun c a w h => hQP c _ _ w rfl h) (reg.wanted_none rfl) (hM.ls (by simp)) (fun W hW => by simp [execOp, go_sem, Act.put, hsz, s2, s3, s6, ivs, ag, tb27]) ?_
    refine reg.e_take (i := 1) (ag (ivs [2, 2, 2])) rfl (by kernel_rfl) (by kernel_rfl) (by kernel_rfl) (by kernel_rfl) (fun c a w h => hQP c _ _ w rfl h) (reg.wanted_none rfl) (hM.ls (by simp)) (fun W hW => by simp [execOp, go_sem, Act.put, hsz, s2, s3, s6, ivs, ag, tb27]) ?_
    refine reg.e_take (i := 2) (ag (ivs [3, 3, 3])) rfl (by kernel_rfl) (by kernel_rfl) (by kernel_rfl) (by kernel_rfl) (fun c a w h => hQP c _ _ w rfl h) (reg.wanted_none rfl) (hM.ls (by simp)) (fun W hW => by simp [execOp, go_sem, Act.put, hsz, s2, s3, s6, ivs, ag, tb27]) ?_
    refine reg.e_take (i := 3) (ag (ivs [1, 1, 1, 2, 2, 2, 3, 3, 3])) rfl (by kernel_rfl) (by kernel_rfl) (by kernel_rfl) (by kernel_rfl) (fun c a w h => hQP c _ _ w rfl h) (reg.wanted_none rfl) (hM.ls (by simp)) (fun W hW => by simp [execOp, go_sem, Act.put, hsz, s2, s3, s6, ivs, ag, tb27]) ?_
    refine reg.e_take (i := 4) (ag (ivs [4, 4, 4])) rfl (by kernel_rfl) (by kernel_rfl) (by kernel_rfl) (by kernel_rfl) (fun c a w h => hQP c _ _ w rfl h) (reg.wanted_none rfl) (hM.ls (by simp)) (fun W hW => by simp [execOp, go_sem, Act.put, hsz, s2, s3, s6, ivs, ag, tb27]) ?_
    refine reg.e_take (i := 5) (ag (ivs [5, 6, 7])) rfl (by kernel_rfl) (by kernel_rfl) (by kernel_rfl) (by kernel_rfl) (fun c a w h => hQP c _ _ w rfl h) (reg.wanted_none rfl) (hM.ls (by simp)) (fun W hW => by simp [execOp, go_sem, Act.put, hsz, s2, s3, s6, ivs, ag, tb27]) ?_
    refine reg.any_list #[true, true, true, true, true, true, false, false, false, false, false, false, false, false, false, false, false, false, false, false, false, false] (by kernel_rfl) ?_
    refine reg.any_abs (fun q => q.tmps.size = 69 ∧ (∀ h, q.tmps[2]'h = .pointer (some ⟨za, 0, none⟩)) ∧ (∀ h, q.tmps[3]'h = .pointer (some ⟨zb, 0, none⟩)) ∧ (∀ h, q.tmps[6]'h = .int .i64 2) ∧ (∀ h, q.tmps[31]'h = ag (ivs [1, 1, 1, 2, 2, 2, 3, 3, 3])) ∧ (∀ h, q.tmps[32]'h = ag (ivs [4, 4, 4])) ∧ (∀ h, q.tmps[33]'h = ag (ivs [5, 6, 7]))) ⟨by simp [Act.put, hsz, s2, s3, s6], reg.at_of (by simp [Act.put, hsz, s2, s3, s6]), reg.at_of (by simp [Act.put, hsz, s2, s3, s6]), reg.at_of (by simp [Act.put, hsz, s2, s3, s6]), reg.at_of (by simp [Act.put, hsz, s2, s3, s6]), reg.at_of (by simp [Act.put, hsz, s2, s3, s6]), reg.at_of (by simp [Act.put, hsz, s2, s3, s6])⟩ ?_
    clear hsz s2 s3 s6
    rintro q1 ⟨q1z, q1s2, q1s3, q1s6, q1s31, q1s32, q1s33⟩ hq1
    have HQ1 : Hid (q1 = _) := hq1
    clear hq1
    refine reg.e_take (i := 6) (ag (ivs [8, 8, 8])) rfl (by kernel_rfl) (by kernel_rfl) (by kernel_rfl) (by kernel_rfl) (fun c a w h => hQP c _ _ w rfl h) (reg.wanted_none rfl) (hM.ls (by simp)) (fun W hW => by simp [execOp, go_sem, Act.put, q1z, q1s2, q1s3, q1s6, q1s31, q1s32, q1s33, ivs, ag, tb27]) ?_
    refine reg.e_take (i := 7) (ag (ivs [4, 4, 4, 5, 6, 7, 8, 8, 8])) rfl (by kernel_rfl) (by kernel_rfl) (by kernel_rfl) (by kernel_rfl) (fun c a w h => hQP c _ _ w rfl h) (reg.wanted_none rfl) (hM.ls (by simp)) (fun W hW => by simp [execOp, go_sem, Act.put, q1z, q1s2, q1s3, q1s6, q1s31, q1s32, q1s33, ivs, ag, tb27]) ?_
    refine reg.e_take (i := 8) (ag (ivs [9, 9, 9])) rfl (by kernel_rfl) (by kernel_rfl) (by kernel_rfl) (by kernel_rfl) (fun c a w h => hQP c _ _ w rfl h) (reg.wanted_none rfl) (hM.ls (by simp)) (fun W hW => by simp [execOp, go_sem, Act.put, q1z, q1s2, q1s3, q1s6, q1s31, q1s32, q1s33, ivs, ag, tb27]) ?_
    refine reg.e_take (i := 9) (ag (ivs [10, 10, 10])) rfl (by kernel_rfl) (by kernel_rfl) (by kernel_rfl) (by kernel_rfl) (fun c a w h => hQP c _ _ w rfl h) (reg.wanted_none rfl) (hM.ls (by simp)) (fun W hW => by simp [execOp, go_sem, Act.put, q1z, q1s2, q1s3, q1s6, q1s31, q1s32, q1s33, ivs, ag, tb27]) ?_
    refine reg.e_take (i := 10) (ag (ivs [11, 12, 13])) rfl (by kernel_rfl) (by kernel_rfl) (by kernel_rfl) (by kernel_rfl) (fun c a w h => hQP c _ _ w rfl h) (reg.wanted_none rfl) (hM.ls (by simp)) (fun W hW => by simp [execOp, go_sem, Act.put, q1z, q1s2, q1s3, q1s6, q1s31, q1s32, q1s33, ivs, ag, tb27]) ?_
    refine reg.e_take (i := 11) (ag (ivs [9, 9, 9, 10, 10, 10, 11, 12, 13])) rfl (by kernel_rfl) (by kernel_rfl) (by kernel_rfl) (by kernel_rfl) (fun c a w h => hQP c _ _ w rfl h) (reg.wanted_none rfl) (hM.ls (by simp)) (fun W hW => by simp [execOp, go_sem, Act.put, q1z, q1s2, q1s3, q1s6, q1s31, q1s32, q1s33, ivs, ag, tb27]) ?_
    refine reg.any_list #[true, true, true, true, true, true, true, true, true, true, true, true, false, false, false, false, false, false, false, false, false, false] (by kernel_rfl) ?_
    refine reg.any_abs (fun q => q.tmps.size = 69 ∧ (∀ h, q.tmps[2]'h = .pointer (some ⟨za, 0, none⟩)) ∧ (∀ h, q.tmps[3]'h = .pointer (some ⟨zb, 0, none⟩)) ∧ (∀ h, q.tmps[6]'h = .int .i64 2) ∧ (∀ h, q.tmps[31]'h = ag (ivs [1, 1, 1, 2, 2, 2, 3, 3, 3])) ∧ (∀ h, q.tmps[35]'h = ag (ivs [4, 4, 4, 5, 6, 7, 8, 8, 8])) ∧ (∀ h, q.tmps[39]'h = ag (ivs [9, 9, 9, 10, 10, 10, 11, 12, 13]))) ⟨by simp [Act.put, q1z, q1s2, q1s3, q1s6, q1s31, q1s32, q1s33], reg.at_of (by simp [Act.put, q1z, q1s2, q1s3, q1s6, q1s31, q1s32, q1s33]), reg.at_of (by simp [Act.put, q1z, q1s2, q1s3, q1s6, q1s31, q1s32, q1s33]), reg.at_of (by simp [Act.put, q1z, q1s2, q1s3, q1s6, q1s31, q1s32, q1s33]), reg.at_of (by simp [Act.put, q1z, q1s2, q1s3, q1s6, q1s31, q1s32, q1s33]), reg.at_of (by simp [Act.put, q1z, q1s2, q1s3, q1s6, q1s31, q1s32, q1s33]), reg.at_of (by simp [Act.put, q1z, q1s2, q1s3, q1s6, q1s31, q1s32, q1s33])⟩ ?_
    clear q1z q1s2 q1s3 q1s6 q1s31 q1s32 q1s33
    rintro q2 ⟨q2z, q2s2, q2s3, q2s6, q2s31, q2s35, q2s39⟩ hq2
    have HQ2 : Hid (q2 = _) := hq2
    clear hq2
    refine reg.e_take (i := 12) (ag (ivs tb27)) rfl (by kernel_rfl) (by kernel_rfl) (by kernel_rfl) (by kernel_rfl) (fun c a w h => hQP c _ _ w rfl h) (reg.wanted_none rfl) (hM.ls (by simp)) (fun W hW => by simp [execOp, go_sem, Act.put, q2z, q2s2, q2s3, q2s6, q2s31, q2s35, q2s39, ivs, ag, tb27]) ?_
    refine reg.e_take (i := 13) (.pointer (some ⟨za, 0, none⟩)) rfl (by kernel_rfl) (by kernel_rfl) (by kernel_rfl) (by kernel_rfl) (fun c a w h => hQP c _ _ w rfl h) (reg.wanted_none rfl) (hM.ls (by simp)) (fun W hW => by simp [execOp, go_sem, Act.put, q2z, q2s2, q2s3, q2s6, q2s31, q2s35, q2s39]) ?_
    refine reg.e_take (i := 14) (.int .i64 x.dir) rfl (by kernel_rfl) (by kernel_rfl) (by kernel_rfl) (by kernel_rfl) (fun c a w h => hQP c _ _ w rfl h) (reg.wanted_none rfl) (hM.ls (by simp)) (fun W hW => ex_get rfl (by simp [go_sem, Act.put, q2z, q2s2, q2s3, q2s6, q2s31, q2s35, q2s39]) hW.at1 (show (mvl x)[0]? = some _ from rfl)) ?_
    refine reg.e_take (i := 15) (ag (ivs (tb9 x.dir))) rfl (by kernel_rfl) (by kernel_rfl) (by kernel_rfl) (by kernel_rfl) (fun c a w h => hQP c _ _ w rfl h) (reg.wanted_none rfl) (hM.ls (by simp)) (fun W hW => by simp [execOp, go_sem, Act.put, q2z, q2s2, q2s3, q2s6, q2s31, q2s35, q2s39, HI1.out]) ?_
    refine reg.e_take (i := 16) (.pointer (some ⟨zb, 0, none⟩)) rfl (by kernel_rfl) (by kernel_rfl) (by kernel_rfl) (by kernel_rfl) (fun c a w h => hQP c _ _ w rfl h) (reg.wanted_none rfl) (hM.ls (by simp)) (fun W hW => by simp [execOp, go_sem, Act.put, q2z, q2s2, q2s3, q2s6, q2s31, q2s35, q2s39]) ?_
    refine reg.e_take (i := 17) (.int .i64 d.dir) rfl (by kernel_rfl) (by kernel_rfl) (by kernel_rfl) (by kernel_rfl) (fun c a w h => hQP c _ _ w rfl h) (reg.wanted_none rfl) (hM.ls (by simp)) (fun W hW => ex_get rfl (by simp [go_sem, Act.put, q2z, q2s2, q2s3, q2s6, q2s31, q2s35, q2s39]) hW.at0 (show (mvl d)[0]? = some _ from rfl)) ?_
    refine reg.any_list #[true, true, true, true, true, true, true, true, true, true, true, true, true, true, true, true, true, true, false, false, false, false] (by kernel_rfl) ?_
    refine reg.any_abs (fun q => q.tmps.size = 69 ∧ (∀ h, q.tmps[6]'h = .int .i64 2) ∧ (∀ h, q.tmps[43]'h = ag (ivs (tb9 x.dir))) ∧ (∀ h, q.tmps[45]'h = .int .i64 d.dir)) ⟨by simp [Act.put, q2z, q2s2, q2s3, q2s6, q2s31, q2s35, q2s39], reg.at_of (by simp [Act.put, q2z, q2s2, q2s3, q2s6, q2s31, q2s35, q2s39]), reg.at_of (by simp [Act.put, q2z, q2s2, q2s3, q2s6, q2s31, q2s35, q2s39]), reg.at_of (by simp [Act.put, q2z, q2s2, q2s3, q2s6, q2s31, q2s35, q2s39])⟩ ?_
    clear q2z q2s2 q2s3 q2s6 q2s31 q2s35 q2s39
    rintro q3 ⟨q3z, q3s6, q3s43, q3s45⟩ hq3
    have HQ3 : Hid (q3 = _) := hq3
    clear hq3
    refine reg.e_take (i := 18) (ag (ivs (tb3 x.dir d.dir))) rfl (by kernel_rfl) (by kernel_rfl) (by kernel_rfl) (by kernel_rfl) (fun c a w h => hQP c _ _ w rfl h) (reg.wanted_none rfl) (hM.ls (by simp)) (fun W hW => by simp [execOp, go_sem, Act.put, q3z, q3s6, q3s43, q3s45, HI2.out]) ?_
    refine reg.e_take (i := 19) (.int .i64 2) rfl (by kernel_rfl) (by kernel_rfl) (by kernel_rfl) (by kernel_rfl) (fun c a w h => hQP c _ _ w rfl h) (reg.wanted_none rfl) (hM.ls (by simp)) (fun W hW => by simp [execOp, go_sem, Act.put, q3z, q3s6, q3s43, q3s45]) ?_
    refine reg.e_take (i := 20) (.int .i64 c) rfl (by kernel_rfl) (by kernel_rfl) (by kernel_rfl) (by kernel_rfl) (fun c a w h => hQP c _ _ w rfl h) (reg.wanted_none rfl) (hM.ls (by simp)) (fun W hW => by simp [execOp, go_sem, Act.put, q3z, q3s6, q3s43, q3s45, HI3.out]) ?_
    refine reg.e_take (i := 21) (.int .i64 c) rfl (by kernel_rfl) (by kernel_rfl) (by kernel_rfl) (by kernel_rfl) (fun c a w h => hQP c _ _ w rfl h) (reg.wanted_none rfl) (hM.ls (by simp)) (fun W hW => by simp [execOp, go_sem, Act.put, q3z, q3s6, q3s43, q3s45]) ?_
    clear hQP
    refine reg.e_done (by kernel_rfl) ?_ _
    clear q3z q3s6 q3s43 q3s45
    have hq3 := HQ3.out
    clear HQ3
    subst hq3
    have hq2 := HQ2.out
    clear HQ2
    subst hq2
    have hq1 := HQ1.out
    clear HQ1
    subst hq1
    subst ha0
    go_simp
    have eu := HEU.out.1
    repeat' (first | go_values | go_skip | go_guarded | go_step | go_upon | (simp only [Int.not_lt, Int.not_le] at *; go_simp))
    refine (HIB.out _).mono ?_
    rintro e u5 ⟨⟨r, rfl, hr⟩, rfl⟩
    clear HIB eu t1 t2
    have hif := HEU.out.2
    cases hk : mkd c
    · rw [hk] at hr
      have HK : Hid (mkd c = false) := hk
      clear hk
      repeat' (first | (go_big_may; first | (refine v_get rfl rfl (by first | exact lod_int | exact lod_str | exact lod_fcs | exact lod_err | exact lod_bool | exact lod_txs) rfl hM.at2 rfl ?_) | (refine v_get rfl rfl (by first | exact lod_int | exact lod_str | exact lod_fcs | exact lod_err | exact lod_bool | exact lod_txs) rfl hM.at1 rfl ?_) | (refine v_build rfl rfl (bld_vd4 c q (x.len - q)) ?hbv ?_; (case hbv => simp [Act.eval, Act.put])) | (refine v_fill rfl rfl row_verdict rfl rfl hM.at0 (vdl_vs ⟨c, q, x.len - q, 0⟩) rfl ?_; intro u hv hc; replace hM := hM.put0 hc hv; clear hv hc)) | go_values | go_skip | go_guarded | go_step | go_upon | (simp only [Int.not_lt, Int.not_le] at *; go_simp))
      exact bodyPost_ret (ret_2 rfl rfl (ld_var row_verdict hM.at0 rfl) rfl) rfl ⟨by rw [HK.out]; rfl, hM.below⟩
    · rw [hk] at hr
      have HK : Hid (mkd c = true) := hk
      clear hk hif
      repeat' (first | (go_big_may; first | (refine v_get rfl rfl (by first | exact lod_int | exact lod_str | exact lod_fcs | exact lod_err | exact lod_bool | exact lod_txs) rfl hM.at2 rfl ?_) | (refine v_get rfl rfl (by first | exact lod_int | exact lod_str | exact lod_fcs | exact lod_err | exact lod_bool | exact lod_txs) rfl hM.at1 rfl ?_) | (refine v_build rfl rfl (bld_vd3 c x.len 2) ?hbv ?_; (case hbv => simp [Act.eval, Act.put])) | (refine v_fill rfl rfl row_verdict rfl rfl hM.at0 (vdl_vs ⟨c, 0, x.len, 2⟩) rfl ?_; intro u hv hc; replace hM := hM.put0 hc hv; clear hv hc)) | go_values | go_skip | go_guarded | go_step | go_upon | (simp only [Int.not_lt, Int.not_le] at *; go_simp))
      exact bodyPost_ret (ret_2 rfl rfl (ld_var row_verdict hM.at0 rfl) rfl) rfl ⟨by rw [HK.out]; rfl, hM.below⟩
  have HI3 : Hid (∀ W, (Instr.index 65 (ag (ivs (tb3 x.dir d.dir))) (.int .i64 1)).run Try.prog W = .ok (.int .i64 c) W) := fun W => by
    have hcv : cmpI d.len x.len = 0 := by omega
    have := ix3 x.dir d.dir 1 hd1 hd2 (by omega) (fun _ _ => trivial) W
    rw [hcv] at hj
    rw [show (1 : Int) = 1 + 0 from rfl, hj] at this
    exact this
  have t1 : decide (d.len < x.len) = false := decide_eq_false (by omega)
  have t2 : decide (x.len < d.len) = false := decide_eq_false (by omega)
  clear e hc a1 a2 hv hj hd1 hd2 hr h1 h2 hc0 hc2
  go_enter Try.func18, Try.ntmps18
  repeat' (first | (go_big_may; first | (refine v_box rfl rfl rfl ?_; intro u za hN; replace hM := Mm.new (L := []) hM hN; clear hN) | (refine v_box rfl rfl rfl ?_; intro u zb hN; replace hM := hM.new hN; clear hN) | (refine v_alloc rfl zer_verdict rfl ?_; intro u zr hN; replace hM := hM.new hN; clear hN) | (refine v_load rfl rfl row_move rfl hM.at2 (Nat.le_refl _) (cut_all rfl) ?_)) | go_values | go_skip | go_guarded | go_step | go_upon | (simp only [Int.not_lt, Int.not_le] at *; go_simp))
  refine (HI.out _ _).mono ?_
  rintro e u1 ⟨rfl, hb⟩
  replace hM := hM.call hb
  rw [HB.out.1]
  clear hb
  repeat' (first | (go_big_may; first | (refine v_load rfl rfl row_move rfl hM.at1 (Nat.le_refl _) (cut_all rfl) ?_)) | go_values | go_skip | go_guarded | go_step | go_upon | (simp only [Int.not_lt, Int.not_le] at *; go_simp))
  refine (HI.out _ _).mono ?_
  rintro e u1 ⟨rfl, hb⟩
  replace hM := hM.call hb
  rw [HB.out.2]
  clear hb
  clear HI HB
  have HEU : Hid (IntKind.u8.wrap c = c ∧ min x.len d.len = q) := ⟨eu, hq⟩
  clear eu hif hq
  repeat' (first | (go_big_may; first | (refine v_get rfl rfl (by first | exact lod_int | exact lod_str | exact lod_fcs | exact lod_err | exact lod_bool | exact lod_txs) rfl hM.at2 rfl ?_) | (refine v_get rfl rfl (by first | exact lod_int | exact lod_str | exact lod_fcs | exact lod_err | exact lod_bool | exact lod_txs) rfl hM.at1 rfl ?_)) | go_values | go_skip | go_guarded | go_step | go_upon | (simp only [Int.not_lt, Int.not_le] at *; go_simp))
  refine reg.wp_abs (fun a0 => a0.tmps.size = 69 ∧ (∀ h, a0.tmps[2]'h = .pointer (some ⟨za, 0, none⟩)) ∧ (∀ h, a0.tmps[3]'h = .pointer (some ⟨zb, 0, none⟩)) ∧ (∀ h, a0.tmps[6]'h = .int .i64 1)) ⟨rfl, fun _ => rfl, fun _ => rfl, fun _ => rfl⟩ ?_
  rintro a0 ⟨hsz, s2, s3, s6⟩ ha0
  refine reg.wp_region_E (S := fun W => Ls W [(zb, 37, (mvl d)), (za, 37, (mvl x))]) (E := fun _ => false) (by kernel_rfl) ?_
  replace hM := hM.drew
  refine reg.any_q (fun _ _ _ _ _ h => h) ?_
  intro hQP
  refine reg.e_take (i := 0) (ag (ivs [1, 1, 1])) rfl (by kernel_rfl) (by kernel_rfl) (by kernel_rfl) (by kernel_rfl) (fun c a w h => hQP c _ _ w rfl h) (reg.wanted_none rfl) (hM.ls (by simp)) (fun W hW => by simp [execOp, go_sem, Act.put, hsz, s2, s3, s6, ivs, ag, tb27]) ?_
  refine reg.e_take (i := 1) (ag (ivs [2, 2, 2])) rfl (by kernel_rfl) (by kernel_rfl) (by kernel_rfl) (by kernel_rfl) (fun c a w h => hQP c _ _ w rfl h) (reg.wanted_none rfl) (hM.ls (by simp)) (fun W hW => by simp [execOp, go_sem, Act.put, hsz, s2, s3, s6, ivs, ag, tb27]) ?_
  refine reg.e_take (i := 2) (ag (ivs [3, 3, 3])) rfl (by kernel_rfl) (by kernel_rfl) (by kernel_rfl) (by kernel_rfl) (fun c a w h => hQP c _ _ w rfl h) (reg.wanted_none rfl) (hM.ls (by simp)) (fun W hW => by simp [execOp, go_sem, Act.put, hsz, s2, s3, s6, ivs, ag, tb27]) ?_
  refine reg.e_take (i := 3) (ag (ivs [1, 1, 1, 2, 2, 2, 3, 3, 3])) rfl (by kernel_rfl) (by kernel_rfl) (by kernel_rfl) (by kernel_rfl) (fun c a w h => hQP c _ _ w rfl h) (reg.wanted_none rfl) (hM.ls (by simp)) (fun W hW => by simp [execOp, go_sem, Act.put, hsz, s2, s3, s6, ivs, ag, tb27]) ?_
  refine reg.e_take (i := 4) (ag (ivs [4, 4, 4])) rfl (by kernel_rfl) (by kernel_rfl) (by kernel_rfl) (by kernel_rfl) (fun c a w h => hQP c _ _ w rfl h) (reg.wanted_none rfl) (hM.ls (by simp)) (fun W hW => by simp [execOp, go_sem, Act.put, hsz, s2, s3, s6, ivs, ag, tb27]) ?_
  refine reg.e_take (i := 5) (ag (ivs [5, 6, 7])) rfl (by kernel_rfl) (by kernel_rfl) (by kernel_rfl) (by kernel_rfl) (fun c a w h => hQP c _ _ w rfl h) (reg.wanted_none rfl) (hM.ls (by simp)) (fun W hW => by simp [execOp, go_sem, Act.put, hsz, s2, s3, s6, ivs, ag, tb27]) ?_
  refine reg.any_list #[true, true, true, true, true, true, false, false, false, false, false, false, false, false, false, false, false, false, false, false, false, false] (by kernel_rfl) ?_
  refine reg.any_abs (fun q => q.tmps.size = 69 ∧ (∀ h, q.tmps[2]'h = .pointer (some ⟨za, 0, none⟩)) ∧ (∀ h, q.tmps[3]'h = .pointer (some ⟨zb, 0, none⟩)) ∧ (∀ h, q.tmps[6]'h = .int .i64 1) ∧ (∀ h, q.tmps[31]'h = ag (ivs [1, 1, 1, 2, 2, 2, 3, 3, 3])) ∧ (∀ h, q.tmps[32]'h = ag (ivs [4, 4, 4])) ∧ (∀ h, q.tmps[33]'h = ag (ivs [5, 6, 7]))) ⟨by simp [Act.put, hsz, s2, s3, s6], reg.at_of (by simp [Act.put, hsz, s2, s3, s6]), reg.at_of (by simp [Act.put, hsz, s2, s3, s6]), reg.at_of (by simp [Act.put, hsz, s2, s3, s6]), reg.at_of (by simp [Act.put, hsz, s2, s3, s6]), reg.at_of (by simp [Act.put, hsz, s2, s3, s6]), reg.at_of (by simp [Act.put, hsz, s2, s3, s6])⟩ ?_
  clear hsz s2 s3 s6
  rintro q1 ⟨q1z, q1s2, q1s3, q1s6, q1s31, q1s32, q1s33⟩ hq1
  have HQ1 : Hid (q1 = _) := hq1
  clear hq1
  refine reg.e_take (i := 6) (ag (ivs [8, 8, 8])) rfl (by kernel_rfl) (by kernel_rfl) (by kernel_rfl) (by kernel_rfl) (fun c a w h => hQP c _ _ w rfl h) (reg.wanted_none rfl) (hM.ls (by simp)) (fun W hW => by simp [execOp, go_sem, Act.put, q1z, q1s2, q1s3, q1s6, q1s31, q1s32, q1s33, ivs, ag, tb27]) ?_
  refine reg.e_take (i := 7) (ag (ivs [4, 4, 4, 5, 6, 7, 8, 8, 8])) rfl (by kernel_rfl) (by kernel_rfl) (by kernel_rfl) (by kernel_rfl) (fun c a w h => hQP c _ _ w rfl h) (reg.wanted_none rfl) (hM.ls (by simp)) (fun W hW => by simp [execOp, go_sem, Act.put, q1z, q1s2, q1s3, q1s6, q1s31, q1s32, q1s33, ivs, ag, tb27]) ?_
  refine reg.e_take (i := 8) (ag (ivs [9, 9, 9])) rfl (by kernel_rfl) (by kernel_rfl) (by kernel_rfl) (by kernel_rfl) (fun c a w h => hQP c _ _ w rfl h) (reg.wanted_none rfl) (hM.ls (by simp)) (fun W hW => by simp [execOp, go_sem, Act.put, q1z, q1s2, q1s3, q1s6, q1s31, q1s32, q1s33, ivs, ag, tb27]) ?_
  refine reg.e_take (i := 9) (ag (ivs [10, 10, 10])) rfl (by kernel_rfl) (by kernel_rfl) (by kernel_rfl) (by kernel_rfl) (fun c a w h => hQP c _ _ w rfl h) (reg.wanted_none rfl) (hM.ls (by simp)) (fun W hW => by simp [execOp, go_sem, Act.put, q1z, q1s2, q1s3, q1s6, q1s31, q1s32, q1s33, ivs, ag, tb27]) ?_
  refine reg.e_take (i := 10) (ag (ivs [11, 12, 13])) rfl (by kernel_rfl) (by kernel_rfl) (by kernel_rfl) (by kernel_rfl) (fun c a w h => hQP c _ _ w rfl h) (reg.wanted_none rfl) (hM.ls (by simp)) (fun W hW => by simp [execOp, go_sem, Act.put, q1z, q1s2, q1s3, q1s6, q1s31, q1s32, q1s33, ivs, ag, tb27]) ?_
  refine reg.e_take (i := 11) (ag (ivs [9, 9, 9, 10, 10, 10, 11, 12, 13])) rfl (by kernel_rfl) (by kernel_rfl) (by kernel_rfl) (by kernel_rfl) (fun c a w h => hQP c _ _ w rfl h) (reg.wanted_none rfl) (hM.ls (by simp)) (fun W hW => by simp [execOp, go_sem, Act.put, q1z, q1s2, q1s3, q1s6, q1s31, q1s32, q1s33, ivs, ag, tb27]) ?_
  refine reg.any_list #[true, true, true, true, true, true, true, true, true, true, true, true, false, false, false, false, false, false, false, false, false, false] (by kernel_rfl) ?_
  refine reg.any_abs (fun q => q.tmps.size = 69 ∧ (∀ h, q.tmps[2]'h = .pointer (some ⟨za, 0, none⟩)) ∧ (∀ h, q.tmps[3]'h = .pointer (some ⟨zb, 0, none⟩)) ∧ (∀ h, q.tmps[6]'h = .int .i64 1) ∧ (∀ h, q.tmps[31]'h = ag (ivs [1, 1, 1, 2, 2, 2, 3, 3, 3])) ∧ (∀ h, q.tmps[35]'h = ag (ivs [4, 4, 4, 5, 6, 7, 8, 8, 8])) ∧ (∀ h, q.tmps[39]'h = ag (ivs [9, 9, 9, 10, 10, 10, 11, 12, 13]))) ⟨by simp [Act.put, q1z, q1s2, q1s3, q1s6, q1s31, q1s32, q1s33], reg.at_of (by simp [Act.put, q1z, q1s2, q1s3, q1s6, q1s31, q1s32, q1s33]), reg.at_of (by simp [Act.put, q1z, q1s2, q1s3, q1s6, q1s31, q1s32, q1s33]), reg.at_of (by simp [Act.put, q1z, q1s2, q1s3, q1s6, q1s31, q1s32, q1s33]), reg.at_of (by simp [Act.put, q1z, q1s2, q1s3, q1s6, q1s31, q1s32, q1s33]), reg.at_of (by simp [Act.put, q1z, q1s2, q1s3, q1s6, q1s31, q1s32, q1s33]), reg.at_of (by simp [Act.put, q1z, q1s2, q1s3, q1s6, q1s31, q1s32, q1s33])⟩ ?_
  clear q1z q1s2 q1s3 q1s6 q1s31 q1s32 q1s33
  rintro q2 ⟨q2z, q2s2, q2s3, q2s6, q2s31, q2s35, q2s39⟩ hq2
  have HQ2 : Hid (q2 = _) := hq2
  clear hq2
  refine reg.e_take (i := 12) (ag (ivs tb27)) rfl (by kernel_rfl) (by kernel_rfl) (by kernel_rfl) (by kernel_rfl) (fun c a w h => hQP c _ _ w rfl h) (reg.wanted_none rfl) (hM.ls (by simp)) (fun W hW => by simp [execOp, go_sem, Act.put, q2z, q2s2, q2s3, q2s6, q2s31, q2s35, q2s39, ivs, ag, tb27]) ?_
  refine reg.e_take (i := 13) (.pointer (some ⟨za, 0, none⟩)) rfl (by kernel_rfl) (by kernel_rfl) (by kernel_rfl) (by kernel_rfl) (fun c a w h => hQP c _ _ w rfl h) (reg.wanted_none rfl) (hM.ls (by simp)) (fun W hW => by simp [execOp, go_sem, Act.put, q2z, q2s2, q2s3, q2s6, q2s31, q2s35, q2s39]) ?_
  refine reg.e_take (i := 14) (.int .i64 x.dir) rfl (by kernel_rfl) (by kernel_rfl) (by kernel_rfl) (by kernel_rfl) (fun c a w h => hQP c _ _ w rfl h) (reg.wanted_none rfl) (hM.ls (by simp)) (fun W hW => ex_get rfl (by simp [go_sem, Act.put, q2z, q2s2, q2s3, q2s6, q2s31, q2s35, q2s39]) hW.at1 (show (mvl x)[0]? = some _ from rfl)) ?_
  refine reg.e_take (i := 15) (ag (ivs (tb9 x.dir))) rfl (by kernel_rfl) (by kernel_rfl) (by kernel_rfl) (by kernel_rfl) (fun c a w h => hQP c _ _ w rfl h) (reg.wanted_none rfl) (hM.ls (by simp)) (fun W hW => by simp [execOp, go_sem, Act.put, q2z, q2s2, q2s3, q2s6, q2s31, q2s35, q2s39, HI1.out]) ?_
  refine reg.e_take (i := 16) (.pointer (some ⟨zb, 0, none⟩)) rfl (by kernel_rfl) (by kernel_rfl) (by kernel_rfl) (by kernel_rfl) (fun c a w h => hQP c _ _ w rfl h) (reg.wanted_none rfl) (hM.ls (by simp)) (fun W hW => by simp [execOp, go_sem, Act.put, q2z, q2s2, q2s3, q2s6, q2s31, q2s35, q2s39]) ?_
  refine reg.e_take (i := 17) (.int .i64 d.dir) rfl (by kernel_rfl) (by kernel_rfl) (by kernel_rfl) (by kernel_rfl) (fun c a w h => hQP c _ _ w rfl h) (reg.wanted_none rfl) (hM.ls (by simp)) (fun W hW => ex_get rfl (by simp [go_sem, Act.put, q2z, q2s2, q2s3, q2s6, q2s31, q2s35, q2s39]) hW.at0 (show (mvl d)[0]? = some _ from rfl)) ?_
  refine reg.any_list #[true, true, true, true, true, true, true, true, true, true, true, true, true, true, true, true, true, true, false, false, false, false] (by kernel_rfl) ?_
  refine reg.any_abs (fun q => q.tmps.size = 69 ∧ (∀ h, q.tmps[6]'h = .int .i64 1) ∧ (∀ h, q.tmps[43]'h = ag (ivs (tb9 x.dir))) ∧ (∀ h, q.tmps[45]'h = .int .i64 d.dir)) ⟨by simp [Act.put, q2z, q2s2, q2s3, q2s6, q2s31, q2s35, q2s39], reg.at_of (by simp [Act.put, q2z, q2s2, q2s3, q2s6, q2s31, q2s35, q2s39]), reg.at_of (by simp [Act.put, q2z, q2s2, q2s3, q2s6, q2s31, q2s35, q2s39]), reg.at_of (by simp [Act.put, q2z, q2s2, q2s3, q2s6, q2s31, q2s35, q2s39])⟩ ?_
  clear q2z q2s2 q2s3 q2s6 q2s31 q2s35 q2s39
  rintro q3 ⟨q3z, q3s6, q3s43, q3s45⟩ hq3
  have HQ3 : Hid (q3 = _) := hq3
  clear hq3
  refine reg.e_take (i := 18) (ag (ivs (tb3 x.dir d.dir))) rfl (by kernel_rfl) (by kernel_rfl) (by kernel_rfl) (by kernel_rfl) (fun c a w h => hQP c _ _ w rfl h) (reg.wanted_none rfl) (hM.ls (by simp)) (fun W hW => by simp [execOp, go_sem, Act.put, q3z, q3s6, q3s43, q3s45, HI2.out]) ?_
  refine reg.e_take (i := 19) (.int .i64 1) rfl (by kernel_rfl) (by kernel_rfl) (by kernel_rfl) (by kernel_rfl) (fun c a w h => hQP c _ _ w rfl h) (reg.wanted_none rfl) (hM.ls (by simp)) (fun W hW => by simp [execOp, go_sem, Act.put, q3z, q3s6, q3s43, q3s45]) ?_
  refine reg.e_take (i := 20) (.int .i64 c) rfl (by kernel_rfl) (by kernel_rfl) (by kernel_rfl) (by kernel_rfl) (fun c a w h => hQP c _ _ w rfl h) (reg.wanted_none rfl) (hM.ls (by simp)) (fun W hW => by simp [execOp, go_sem, Act.put, q3z, q3s6, q3s43, q3s45, HI3.out]) ?_
  refine reg.e_take (i := 21) (.int .i64 c) rfl (by kernel_rfl) (by kernel_rfl) (by kernel_rfl) (by kernel_rfl) (fun c a w h => hQP c _ _ w rfl h) (reg.wanted_none rfl) (hM.ls (by simp)) (fun W hW => by simp [execOp, go_sem, Act.put, q3z, q3s6, q3s43, q3s45]) ?_
  clear hQP
  refine reg.e_done (by kernel_rfl) ?_ _
  clear q3z q3s6 q3s43 q3s45
  have hq3 := HQ3.out
  clear HQ3
  subst hq3
  have hq2 := HQ2.out
  clear HQ2
  subst hq2
  have hq1 := HQ1.out
  clear HQ1
  subst hq1
  subst ha0
  go_simp
  have eu := HEU.out.1
  repeat' (first | go_values | go_skip | go_guarded | go_step | go_upon | (simp only [Int.not_lt, Int.not_le] at *; go_simp))
  refine (HIB.out _).mono ?_
  rintro e u5 ⟨⟨r, rfl, hr⟩, rfl⟩
  clear HIB eu t1 t2
  have hif := HEU.out.2
  cases hk : mkd c
  · rw [hk] at hr
    have HK : Hid (mkd c = false) := hk
    clear hk
    repeat' (first | (go_big_may; first | (refine v_get rfl rfl (by first | exact lod_int | exact lod_str | exact lod_fcs | exact lod_err | exact lod_bool | exact lod_txs) rfl hM.at2 rfl ?_) | (refine v_get rfl rfl (by first | exact lod_int | exact lod_str | exact lod_fcs | exact lod_err | exact lod_bool | exact lod_txs) rfl hM.at1 rfl ?_) | (refine v_build rfl rfl (bld_vd4 c q (x.len - q)) ?hbv ?_; (case hbv => simp [Act.eval, Act.put])) | (refine v_fill rfl rfl row_verdict rfl rfl hM.at0 (vdl_vs ⟨c, q, x.len - q, 0⟩) rfl ?_; intro u hv hc; replace hM := hM.put0 hc hv; clear hv hc)) | go_values | go_skip | go_guarded | go_step | go_upon | (simp only [Int.not_lt, Int.not_le] at *; go_simp))
    exact bodyPost_ret (ret_2 rfl rfl (ld_var row_verdict hM.at0 rfl) rfl) rfl ⟨by rw [HK.out]; rfl, hM.below⟩
  · rw [hk] at hr
    have HK : Hid (mkd c = true) := hk
    clear hk hif
    repeat' (first | (go_big_may; first | (refine v_get rfl rfl (by first | exact lod_int | exact lod_str | exact lod_fcs | exact lod_err | exact lod_bool | exact lod_txs) rfl hM.at2 rfl ?_) | (refine v_get rfl rfl (by first | exact lod_int | exact lod_str | exact lod_fcs | exact lod_err | exact lod_bool | exact lod_txs) rfl hM.at1 rfl ?_) | (refine v_build rfl rfl (bld_vd3 c x.len 2) ?hbv ?_; (case hbv => simp [Act.eval, Act.put])) | (refine v_fill rfl rfl row_verdict rfl rfl hM.at0 (vdl_vs ⟨c, 0, x.len, 2⟩) rfl ?_; intro u hv hc; replace hM := hM.put0 hc hv; clear hv hc)) | go_values | go_skip | go_guarded | go_step | go_upon | (simp only [Int.not_lt, Int.not_le] at *; go_simp))
    exact bodyPost_ret (ret_2 rfl rfl (ld_var row_verdict hM.at0 rfl) rfl) rfl ⟨by rw [HK.out]; rfl, hM.below⟩
end Go.Proofs.Ytecknicmonhcaaa.bulk
