/- slots, the document's answer: what Command answers. -/
import Derived.Test.YthjmcopknkemnaaZPb
import Derived.Test.YthjmcopknkemnaaZPc
namespace Go.Proofs.Ythjmcopknkemnaa.slots
open Go Go.RowKit
set_option linter.unusedVariables false
set_option linter.unusedSimpArgs false
set_option maxRecDepth 100000

abbrev crV (r : Cr) : Value := .tuple #[ag r.s, .int .i64 r.c, .int .i64 r.n]
set_option maxHeartbeats 64000000 in
theorem command_any (B : Bd) (k n e a : Int) (w : World) (hw : Wf B) : Calls Try.prog 68 #[ag (fl B), ag [k, n, e, a]] w fun r w' => r = .returned (crV (cmR B k n e a)) ∧ Below w.heap.size w w' := by
  have HW : Hid (Wf B) := hw
  have HL9 : Hid ((fl B).length = 594) := hw.length
  have HE9 : Hid (0 + 594 ≤ (fl B).length) := by show 0 + 594 ≤ _; rw [hw.length]; omega
  have HC9 : Hid (cut (fl B) 0 594 = fl B) := cut_all hw.length
  have HZL : Hid (z66.length = 66) := z_length
  have HZE : Hid (0 + 66 ≤ z66.length) := by show 0 + 66 ≤ _; rw [z_length]; omega
  have HZC : Hid (cut z66 0 66 = z66) := cut_all z_length
  have HQ0 : Hid (([k, n, e, a] : List Int)[0]? = some k) := rfl
  have HQn : Hid (([k, n, e, a] : List Int)[1]? = some n) := rfl
  have HQ3 : Hid (([k, n, e, a] : List Int)[3]? = some a) := rfl
  have HC4 : Hid (cut [k, n, e, a] 0 4 = [k, n, e, a]) := rfl
  have HE4 : Hid (0 + 4 ≤ ([k, n, e, a] : List Int).length) := Nat.le_refl _
  have HK : Hid (∀ u, Calls Try.prog 64 #[ag (fl B)] u fun r w' => r = .returned (.int .i64 (chE B)) ∧ Below u.heap.size u w') := fun u => board_any B u hw
  have hb := bld_0
  have hb1 := bld_1 1
  obtain ⟨R, hR⟩ : ∃ R, cmR B k n e a = R := ⟨_, rfl⟩
  have HR : Hid (cmR B k n e a = R) := hR
  rw [hR]
  clear hR hw
  obtain ⟨F, hF⟩ : ∃ F, fl B = F := ⟨_, rfl⟩
  have HF : Hid (fl B = F) := hF
  rw [hF] at HL9 HE9 HC9 HK ⊢
  clear hF
  have hM := Mm.nil w
  go_enter Try.func68, Try.ntmps68
  repeat' (first | (go_big_may; first | (refine a_box (t := 41) rfl rfl rfl ?_; intro u z2 hN; replace hM := hM.new hN; clear hN) | (refine a_box (t := 23) rfl rfl rfl ?_; intro u z3 hN; replace hM := hM.new hN; clear hN) | (refine a_build rfl rfl hb (by simp [Act.eval]) ?_) | (refine a_alloc rfl zer_slot rfl ?_; intro u z7 hN; replace hM := hM.new hN; clear hN) | (refine a_fill rfl rfl row_slot rfl rfl hM.at0 HZL.out List.length_replicate ?_; intro u hv hc; replace hM := hM.put0 hc hv; clear hv hc) | (refine a_load rfl rfl row_slots rfl hM.at3 HE9.out HC9.out ?_)) | go_values | go_skip | go_guarded | go_step | go_upon | (simp only [Int.not_lt, Int.not_le] at *; go_simp))
  rename_i _ _ _ _ z4 _ _ _
  have HI : Hid (CI w u [(z7, 38, z66), (z4, 38, List.replicate 66 0), (z3, 23, [k, n, e, a]), (z2, 41, F)] (.slice none 0 0) (.slice none 0 0) (onR B 0) (adR B 0)) := ⟨hM, Iw.nil _ _, Iw.nil _ _, fun j h => (by cases h), fun x hx => by
    simp only [List.mem_cons, List.not_mem_nil, or_false] at hx
    rcases hx with rfl | rfl | rfl | rfl
    · show (38 : Nat) ≠ 3; decide
    · show (38 : Nat) ≠ 3; decide
    · show (23 : Nat) ≠ 3; decide
    · show (41 : Nat) ≠ 3; decide⟩
  clear hM hb
  go_loopw [8, 9, 10, 11, 21] (fun v1 v2 _ _ i wr => ∃ j : Nat, j ≤ 9 ∧ i = .int .i64 (j : Int) ∧ Hid (CI w wr [(z7, 38, z66), (z4, 38, List.replicate 66 0), (z3, 23, [k, n, e, a]), (z2, 41, F)] v1 v2 (onR B j) (adR B j))) (fun _ _ _ _ i _ => 9 - (intOf i).toNat)
  case atStart => exact ⟨0, by omega, rfl, HI.out⟩
  case round =>
    obtain ⟨j, hj, rfl, HA⟩ := hrel
    have hI := HA.out
    clear HA HI
    by_cases hjt : j < 9
    · have hix := run_indexS F j hjt
      rw [← HF.out, fl_cut HW.out hjt, HF.out] at hix
      have HSL : Hid ((sl B j).length = 66) := HW.out.sl hjt
      have G0 : Hid ((sl B j)[0]? = some (cl (sl B j) 0)) := cl_at (by rw [HSL.out]; omega)
      have G1 : Hid ((sl B j)[1]? = some (cl (sl B j) 1)) := cl_at (by rw [HSL.out]; omega)
      have HLo : Hid ((onR B j).length ≤ 100) := Nat.le_trans (onR_len B j) (by omega)
      have HLa : Hid ((adR B j).length ≤ 100) := Nat.le_trans (adR_len B j) (by omega)
      cases hon : (cl (sl B j) 0 != 0)
      · have HN1 : Hid (onR B (j + 1) = onR B j) := onR_out hon
        have HN2 : Hid (adR B (j + 1) = adR B j) := adR_out hon
        repeat' (first | (go_big_may; first | (refine a_alloc rfl zer_slot rfl ?_; intro u z11 hN; replace hI := hI.new hN (by decide); clear hN) | (refine a_fill rfl rfl row_slot rfl rfl hI.mm.at0 HSL.out List.length_replicate ?_; intro u hv hc; replace hI := hI.put0 hc hv; clear hv hc) | (refine a_get rfl rfl rfl hI.mm.at0 G0.out ?_)) | go_values | go_skip | go_guarded | go_step | go_upon | (simp only [Int.not_lt, Int.not_le] at *; go_simp))
        go_roundw
        case rel => exact ⟨j + 1, by omega, by go_num, by rw [HN1.out, HN2.out]; exact hI.tail⟩
        case measure => simp [intOf]; omega
      · have HN1 : Hid (onR B (j + 1) = onR B j ++ [(j : Int)]) := onR_in hon
        have HN2 : Hid (adR B (j + 1) = adR B j ++ [cl (sl B j) 1]) := adR_in hon
        repeat' (first | (go_big_may; first | (refine a_alloc rfl zer_slot rfl ?_; intro u z11 hN; replace hI := hI.new hN (by decide); clear hN) | (refine a_fill rfl rfl row_slot rfl rfl hI.mm.at0 HSL.out List.length_replicate ?_; intro u hv hc; replace hI := hI.put0 hc hv; clear hv hc) | (refine a_get rfl rfl rfl hI.mm.at0 G0.out ?_) | (refine a_get rfl rfl rfl hI.mm.at0 G1.out ?_) | (refine a_bs rfl rfl rfl ?_; intro u g hbg hcell; replace hI := hI.call hbg; clear hbg) | (refine a_app1 rfl rfl rfl rfl hI hcell HLo.out ?_; intro u v1' hI2; clear hI hcell; have hI := hI2; clear hI2) | (refine a_app2 rfl rfl rfl rfl hI hcell HLa.out ?_; intro u v2' hI2; clear hI hcell; have hI := hI2; clear hI2)) | go_values | go_skip | go_guarded | go_step | go_upon | (simp only [Int.not_lt, Int.not_le] at *; go_simp))
        go_roundw
        case rel => exact ⟨j + 1, by omega, by go_num, by rw [HN1.out, HN2.out]; exact hI.tail⟩
        case measure => simp [intOf]; omega
    have hj9 : j = 9 := by omega
    subst hj9
    clear hj hjt
    have hM := hI.mm
    have HLF1 : Hid (∀ u, Below wr.heap.size wr u → Calls Try.prog 84 #[u8] u fun e w' => e = .returned (.int .i64 (lst (onR B 9) : Int)) ∧ u = w') := fun u hu => leastFree_any _ _ u (hI.i1.ris.below hu) (Nat.le_trans (onR_len B 9) (by omega))
    have HLF2 : Hid (∀ u, Below wr.heap.size wr u → Calls Try.prog 84 #[u9] u fun e w' => e = .returned (.int .i64 (lst (adR B 9) : Int)) ∧ u = w') := fun u hu => leastFree_any _ _ u (hI.i2.ris.below hu) (Nat.le_trans (adR_len B 9) (by omega))
    have HBw : Hid (Below wr.heap.size wr wr) := Below.refl _ _
    clear hI
    by_cases hck : chk B = false
    · have HX : Hid (R = ⟨z66, 0, 0⟩) := by show R = _; rw [← HR.out]; exact cm_0 hck
      have hE : chE B = 4 := by unfold chE; rw [hck]; rfl
      rw [hE] at HK
      clear hck hE
      repeat' (first | (go_big_may; first | (refine a_load rfl rfl row_board rfl hM.at3 HE9.out HC9.out ?_)) | go_values | go_skip | go_guarded | go_step | go_upon | (simp only [Int.not_lt, Int.not_le] at *; go_simp))
      refine (HK.out _).mono ?_
      rintro r v ⟨rfl, hv⟩
      replace hM := hM.call hv
      have HBv : Hid (Below wr.heap.size wr v) := hv
      clear hv
      repeat' (first | (go_big_may; first | (refine a_load rfl rfl row_slot rfl hM.at0 HZE.out HZC.out ?_) | (refine a_fill rfl rfl row_slot rfl rfl hM.at1 HZL.out List.length_replicate ?_; intro u hv hc; replace hM := hM.put1 hc hv; clear hv hc)) | go_values | go_skip | go_guarded | go_step | go_upon | (simp only [Int.not_lt, Int.not_le] at *; go_simp))
      rw [HX.out]
      exact bodyPost_ret (ret_3 Try.results68 rfl (ld_var row_slot hM.at1 HZL.out) rfl rfl) rfl ⟨rfl, hM.below⟩
    have hE : chE B = 0 := by unfold chE; rw [if_pos (by simpa using hck)]
    rw [hE] at HK
    clear hE
    by_cases c1 : k = 1
    · have HX : Hid (R = ⟨z66, 1, 0⟩) := by show R = _; rw [← HR.out, c1]; exact cm_1 hck
      have e1 : (k == 1) = true := by simpa using c1
      clear hck c1
      repeat' (first | (go_big_may; first | (refine a_load rfl rfl row_board rfl hM.at3 HE9.out HC9.out ?_)) | go_values | go_skip | go_guarded | go_step | go_upon | (simp only [Int.not_lt, Int.not_le] at *; go_simp))
      refine (HK.out _).mono ?_
      rintro r v ⟨rfl, hv⟩
      replace hM := hM.call hv
      have HBv : Hid (Below wr.heap.size wr v) := hv
      clear hv
      repeat' (first | (go_big_may; first | (refine a_get rfl rfl rfl hM.at2 HQ0.out ?_) | (refine a_load rfl rfl row_slot rfl hM.at0 HZE.out HZC.out ?_) | (refine a_fill rfl rfl row_slot rfl rfl hM.at1 HZL.out List.length_replicate ?_; intro u hv hc; replace hM := hM.put1 hc hv; clear hv hc)) | go_values | go_skip | go_guarded | go_step | go_upon | (simp only [Int.not_lt, Int.not_le] at *; go_simp))
      rw [HX.out]
      exact bodyPost_ret (ret_3 Try.results68 rfl (ld_var row_slot hM.at1 HZL.out) rfl rfl) rfl ⟨rfl, hM.below⟩
    have e1 : (k == 1) = false := by simpa using c1
    have hok : Ok B := (chk_iff HW.out).1 (by simpa using hck)
    rw [fr_on hok] at HLF1
    rw [la_on HW.out hok] at HLF2
    by_cases c2 : k = 2
    · have e2 : (k == 2) = true := by simpa using c2
      have hfl := fr_le B
      by_cases hf : fr B ≤ 8
      · have HX : Hid (R = ⟨one 1, 1, (fr B : Int)⟩) := by show R = _; rw [← HR.out, c2, cm_2 hck, if_pos hf]
        have H1L : Hid ((one 1).length = 66) := one_len 1
        clear hck c1 c2 hok
        generalize fr B = f at *
        generalize one 1 = o1 at *
        repeat' (first | (go_big_may; first | (refine a_load rfl rfl row_board rfl hM.at3 HE9.out HC9.out ?_)) | go_values | go_skip | go_guarded | go_step | go_upon | (simp only [Int.not_lt, Int.not_le] at *; go_simp))
        refine (HK.out _).mono ?_
        rintro r v ⟨rfl, hv⟩
        replace hM := hM.call hv
        have HBv : Hid (Below wr.heap.size wr v) := hv
        clear hv
        repeat' (first | (go_big_may; first | (refine a_get rfl rfl rfl hM.at2 HQ0.out ?_)) | go_values | go_skip | go_guarded | go_step | go_upon | (simp only [Int.not_lt, Int.not_le] at *; go_simp))
        refine (HLF1.out _ HBv.out).mono ?_
        rintro r v ⟨rfl, rfl⟩
        repeat' (first | (go_big_may; first | (refine a_build rfl rfl hb1 (by simp [Act.eval]) ?_) | (refine a_fill rfl rfl row_slot rfl rfl hM.at1 H1L.out List.length_replicate ?_; intro u hv hc; replace hM := hM.put1 hc hv; clear hv hc)) | go_values | go_skip | go_guarded | go_step | go_upon | (simp only [Int.not_lt, Int.not_le] at *; go_simp))
        rw [HX.out]
        exact bodyPost_ret (ret_3 Try.results68 rfl (ld_var row_slot hM.at1 H1L.out) rfl rfl) rfl ⟨rfl, hM.below⟩
      · have HX : Hid (R = ⟨z66, 9, 0⟩) := by show R = _; rw [← HR.out, c2, cm_2 hck, if_neg hf]
        clear hck c1 c2 hok
        generalize fr B = f at *
        repeat' (first | (go_big_may; first | (refine a_load rfl rfl row_board rfl hM.at3 HE9.out HC9.out ?_)) | go_values | go_skip | go_guarded | go_step | go_upon | (simp only [Int.not_lt, Int.not_le] at *; go_simp))
        refine (HK.out _).mono ?_
        rintro r v ⟨rfl, hv⟩
        replace hM := hM.call hv
        have HBv : Hid (Below wr.heap.size wr v) := hv
        clear hv
        repeat' (first | (go_big_may; first | (refine a_get rfl rfl rfl hM.at2 HQ0.out ?_)) | go_values | go_skip | go_guarded | go_step | go_upon | (simp only [Int.not_lt, Int.not_le] at *; go_simp))
        refine (HLF1.out _ HBv.out).mono ?_
        rintro r v ⟨rfl, rfl⟩
        repeat' (first | (go_big_may; first | (refine a_load rfl rfl row_slot rfl hM.at0 HZE.out HZC.out ?_) | (refine a_fill rfl rfl row_slot rfl rfl hM.at1 HZL.out List.length_replicate ?_; intro u hv hc; replace hM := hM.put1 hc hv; clear hv hc)) | go_values | go_skip | go_guarded | go_step | go_upon | (simp only [Int.not_lt, Int.not_le] at *; go_simp))
        rw [HX.out]
        exact bodyPost_ret (ret_3 Try.results68 rfl (ld_var row_slot hM.at1 HZL.out) rfl rfl) rfl ⟨rfl, hM.below⟩
    have e2 : (k == 2) = false := by simpa using c2
    have HB39 : Hid (∀ u, Calls Try.prog 32 #[.int .i64 k, .int .i64 3, .int .i64 9] u fun e w' => e = .returned (.bool (decide (3 ≤ k) && decide (k ≤ 9))) ∧ u = w') := between_any _ _ _
    have HB18 : Hid (∀ u, Calls Try.prog 32 #[.int .i64 n, .int .i64 1, .int .i64 8] u fun e w' => e = .returned (.bool (slB n)) ∧ u = w') := between_any _ _ _
    cases h39 : (decide (3 ≤ k) && decide (k ≤ 9))
    · have HX : Hid (R = ⟨z66, 5, 0⟩) := by
        show R = _
        rw [← HR.out]
        refine cm_5 hck c1 c2 (fun h => ?_)
        rw [decide_eq_true h.1, decide_eq_true h.2.1] at h39
        cases h39
      rw [h39] at HB39
      clear hck c1 c2 hok h39
      repeat' (first | (go_big_may; first | (refine a_load rfl rfl row_board rfl hM.at3 HE9.out HC9.out ?_)) | go_values | go_skip | go_guarded | go_step | go_upon | (simp only [Int.not_lt, Int.not_le] at *; go_simp))
      refine (HK.out _).mono ?_
      rintro r v ⟨rfl, hv⟩
      replace hM := hM.call hv
      have HBv : Hid (Below wr.heap.size wr v) := hv
      clear hv
      repeat' (first | (go_big_may; first | (refine a_get rfl rfl rfl hM.at2 HQ0.out ?_)) | go_values | go_skip | go_guarded | go_step | go_upon | (simp only [Int.not_lt, Int.not_le] at *; go_simp))
      refine (HB39.out _).mono ?_
      rintro r v ⟨rfl, rfl⟩
      repeat' (first | (go_big_may; first | (refine a_load rfl rfl row_slot rfl hM.at0 HZE.out HZC.out ?_) | (refine a_fill rfl rfl row_slot rfl rfl hM.at1 HZL.out List.length_replicate ?_; intro u hv hc; replace hM := hM.put1 hc hv; clear hv hc)) | go_values | go_skip | go_guarded | go_step | go_upon | (simp only [Int.not_lt, Int.not_le] at *; go_simp))
      rw [HX.out]
      exact bodyPost_ret (ret_3 Try.results68 rfl (ld_var row_slot hM.at1 HZL.out) rfl rfl) rfl ⟨rfl, hM.below⟩
    rw [h39] at HB39
    have hk39 : 3 ≤ k ∧ k ≤ 9 := by simpa using h39
    clear h39
    cases h18 : slB n
    · have HX : Hid (R = ⟨z66, 5, 0⟩) := by
        show R = _
        rw [← HR.out]
        refine cm_5 hck c1 c2 (fun h => ?_)
        rw [h18] at h
        exact absurd h.2.2 (by simp)
      rw [h18] at HB18
      clear hck c1 c2 hok h18 hk39
      repeat' (first | (go_big_may; first | (refine a_load rfl rfl row_board rfl hM.at3 HE9.out HC9.out ?_)) | go_values | go_skip | go_guarded | go_step | go_upon | (simp only [Int.not_lt, Int.not_le] at *; go_simp))
      refine (HK.out _).mono ?_
      rintro r v ⟨rfl, hv⟩
      replace hM := hM.call hv
      have HBv : Hid (Below wr.heap.size wr v) := hv
      clear hv
      repeat' (first | (go_big_may; first | (refine a_get rfl rfl rfl hM.at2 HQ0.out ?_)) | go_values | go_skip | go_guarded | go_step | go_upon | (simp only [Int.not_lt, Int.not_le] at *; go_simp))
      refine (HB39.out _).mono ?_
      rintro r v ⟨rfl, rfl⟩
      repeat' (first | (go_big_may; first | (refine a_get rfl rfl rfl hM.at2 HQn.out ?_)) | go_values | go_skip | go_guarded | go_step | go_upon | (simp only [Int.not_lt, Int.not_le] at *; go_simp))
      refine (HB18.out _).mono ?_
      rintro r v ⟨rfl, rfl⟩
      repeat' (first | (go_big_may; first | (refine a_load rfl rfl row_slot rfl hM.at0 HZE.out HZC.out ?_) | (refine a_fill rfl rfl row_slot rfl rfl hM.at1 HZL.out List.length_replicate ?_; intro u hv hc; replace hM := hM.put1 hc hv; clear hv hc)) | go_values | go_skip | go_guarded | go_step | go_upon | (simp only [Int.not_lt, Int.not_le] at *; go_simp))
      rw [HX.out]
      exact bodyPost_ret (ret_3 Try.results68 rfl (ld_var row_slot hM.at1 HZL.out) rfl rfl) rfl ⟨rfl, hM.below⟩
    rw [h18] at HB18
    have HRb : Hid (cmR B k n e a = ⟨(beh (sl B n.toNat) (la B : Int) k e a).1, (beh (sl B n.toNat) (la B : Int) k e a).2, n⟩) := cm_b hck c1 c2 ⟨hk39.1, hk39.2, h18⟩
    obtain ⟨m, hm1, hm2, rfl⟩ : ∃ m : Nat, 1 ≤ m ∧ m ≤ 8 ∧ n = m := ⟨n.toNat, (sl_in h18).1, (sl_in h18).2.1, (sl_in h18).2.2.symm⟩
    have ht : ((m : Int)).toNat = m := by omega
    rw [ht] at HRb
    have HQ1 : Hid (([k, (m : Int), e, a] : List Int)[1]? = some (m : Int)) := rfl
    have hs : (sl B m).length = 66 := HW.out.sl (by omega)
    have hr : right (sl B m) = true := hok.right m (by omega)
    have HSE : Hid (m * 66 + 66 ≤ F.length) := by show _ ≤ _; rw [HL9.out]; omega
    have HSC : Hid (cut F (m * 66) 66 = sl B m) := by show _ = _; rw [← HF.out]; exact fl_cut HW.out (by omega)
    generalize (la B : Int) = lb at *
    generalize sl B m = s at *
    have HS : Hid (s.length = 66) := hs
    have HC6 : Hid (cut s 0 66 = s) := cut_all hs
    have HE6 : Hid (0 + 66 ≤ s.length) := by show 0 + 66 ≤ _; omega
    have G0 : Hid (s[0]? = some (cl s 0)) := cl_at (by omega)
    have HRR : Hid (R = ⟨(beh s lb k e a).1, (beh s lb k e a).2, (m : Int)⟩) := by show R = _; rw [← HR.out, HRb.out]
    clear HR HRb hck h18 ht hok HLF1 c1 c2
    by_cases h0 : cl s 0 = 0
    · have e0 : (cl s 0 == 0) = true := by simpa using h0
      have HX : Hid (R = ⟨s, 11, (m : Int)⟩) := by show R = _; rw [HRR.out]; unfold beh st; rw [if_pos h0]
      clear HRR h0 hs hr hk39
      repeat' (first | (go_big_may; first | (refine a_load rfl rfl row_board rfl hM.at3 HE9.out HC9.out ?_)) | go_values | go_skip | go_guarded | go_step | go_upon | (simp only [Int.not_lt, Int.not_le] at *; go_simp))
      refine (HK.out _).mono ?_
      rintro r v ⟨rfl, hv⟩
      replace hM := hM.call hv
      have HBv : Hid (Below wr.heap.size wr v) := hv
      clear hv
      repeat' (first | (go_big_may; first | (refine a_get rfl rfl rfl hM.at2 HQ0.out ?_)) | go_values | go_skip | go_guarded | go_step | go_upon | (simp only [Int.not_lt, Int.not_le] at *; go_simp))
      refine (HB39.out _).mono ?_
      rintro r v ⟨rfl, rfl⟩
      repeat' (first | (go_big_may; first | (refine a_get rfl rfl rfl hM.at2 HQn.out ?_)) | go_values | go_skip | go_guarded | go_step | go_upon | (simp only [Int.not_lt, Int.not_le] at *; go_simp))
      refine (HB18.out _).mono ?_
      rintro r v ⟨rfl, rfl⟩
      go_upto_region 23 with (go_big_may; first | (refine a_get rfl rfl rfl hM.at3 HQ0.out ?_) | (refine a_get rfl rfl rfl hM.at2 HQn.out ?_) | (refine a_load rfl rfl row_slot rfl hM.at3 HSE.out HSC.out ?_) | (refine a_alloc rfl zer_slot rfl ?_; intro u z13 hN; replace hM := hM.new hN; clear hN) | (refine a_fill rfl rfl row_slot rfl rfl hM.at0 HS.out List.length_replicate ?_; intro u hv hc; replace hM := hM.put0 hc hv; clear hv hc) | (refine a_get rfl rfl rfl hM.at0 G0.out ?_))
      go_simp
      rename World => u
      refine wp_abs (fun a0 => a0.tmps.size = 126 ∧ (∀ h, a0.tmps[4]'h = .pointer (some ⟨z4, 0, none⟩)) ∧ (∀ h, a0.tmps[3]'h = .pointer (some ⟨z3, 0, none⟩)) ∧ (∀ h, a0.tmps[13]'h = .pointer (some ⟨z13, 0, none⟩))) ⟨rfl, fun _ => rfl, fun _ => rfl, fun _ => rfl⟩ ?_
      rintro a0 ⟨hsz, s4, s3, sX⟩ ha0
      refine wp_region_held (S := fun W => ∃ l : List Int, l.length = 66 ∧ Mm w W [(z13, 38, s), (z7, 38, z66), (z4, 38, l), (z3, 23, [k, (m : Int), e, a]), (z2, 41, F)]) (by kernel_rfl) ?_
      have hd0 : Mm w u.drew [(z13, 38, s), (z7, 38, z66), (z4, 38, List.replicate 66 0), (z3, 23, [k, (m : Int), e, a]), (z2, 41, F)] := ⟨hM.lies, hM.own, hM.ap, hM.below.drew⟩
      have hS0 : ∃ l : List Int, l.length = 66 ∧ Mm w u.drew [(z13, 38, s), (z7, 38, z66), (z4, 38, l), (z3, 23, [k, (m : Int), e, a]), (z2, 41, F)] := ⟨_, List.length_replicate, hd0⟩
      refine h_take (i := 0) (ag s) rfl (by kernel_rfl) (by kernel_rfl) (by kernel_rfl) (fun _ _ _ h => h) rfl hS0 (fun W hW => by
        obtain ⟨l, hl, hm⟩ := hW
        exact ex_load rfl row_slot (by simp [go_sem, Act.put, hsz, s4, s3, sX]) hm.at0 HE6.out HC6.out) ?_
      refine h_take (i := 1) (.pointer (some ⟨z3, 1, none⟩)) rfl (by kernel_rfl) (by kernel_rfl) (by kernel_rfl) (fun _ _ _ h => h) rfl hS0 (fun W hW => by simp [execOp, go_sem, Act.put, hsz, s4, s3, sX]) ?_
      refine h_take (i := 2) (.int .i64 (m : Int)) rfl (by kernel_rfl) (by kernel_rfl) (by kernel_rfl) (fun _ _ _ h => h) rfl hS0 (fun W hW => by
        obtain ⟨l, hl, hm⟩ := hW
        exact ex_get rfl (by simp [go_sem, Act.put, hsz]) hm.at3 HQ1.out) ?_
      refine h_fill (i := 3) rfl (by kernel_rfl) rfl rfl row_slot (by simp [go_sem, Act.put, hsz, s4, s3, sX]) (by simp [go_sem, Act.put, hsz]) hd0.at2 HS.out List.length_replicate (fun u3 hl3 hc3 => ?_)
      have hd3 := hd0.put2 hc3 hl3
      have hS3 : ∃ l : List Int, l.length = 66 ∧ Mm w u3 [(z13, 38, s), (z7, 38, z66), (z4, 38, l), (z3, 23, [k, (m : Int), e, a]), (z2, 41, F)] := ⟨_, HS.out, hd3⟩
      refine ⟨hS3, ?_⟩
      refine h_take (i := 4) (.int .i64 11) rfl (by kernel_rfl) (by kernel_rfl) (by kernel_rfl) (fun _ _ _ h => h) rfl hS3 (fun W hW => by simp [execOp, go_sem, Act.put, hsz, s4, s3, sX]) ?_
      refine h_take (i := 5) (.int .i64 (m : Int)) rfl (by kernel_rfl) (by kernel_rfl) (by kernel_rfl) (fun _ _ _ h => h) rfl hS3 (fun W hW => by simp [execOp, go_sem, Act.put, hsz, s4, s3, sX]) ?_
      refine wpAnyH_done (by kernel_rfl) ?_ _
      subst ha0
      clear hsz s4 s3 sX hS0 hS3 hd0 hM
      go_simp
      repeat' (first | go_values | go_skip | go_guarded | go_step | go_upon | (simp only [Int.not_lt, Int.not_le] at *; go_simp))
      rw [HX.out]
      exact bodyPost_ret (ret_3 Try.results68 rfl (ld_var row_slot hd3.at2 HS.out) rfl rfl) rfl ⟨rfl, hd3.below⟩
    have e0 : (cl s 0 == 0) = false := by simpa using h0
    by_cases k3 : k = 3
    · have e3 : (k == 3) = true := by simpa using k3
      have HX : Hid (R = ⟨z66, 1, (m : Int)⟩) := by show R = _; rw [HRR.out]; unfold beh st; rw [if_neg h0, if_pos k3]
      clear HRR h0 hs hr hk39 k3
      repeat' (first | (go_big_may; first | (refine a_load rfl rfl row_board rfl hM.at3 HE9.out HC9.out ?_)) | go_values | go_skip | go_guarded | go_step | go_upon | (simp only [Int.not_lt, Int.not_le] at *; go_simp))
      refine (HK.out _).mono ?_
      rintro r v ⟨rfl, hv⟩
      replace hM := hM.call hv
      have HBv : Hid (Below wr.heap.size wr v) := hv
      clear hv
      repeat' (first | (go_big_may; first | (refine a_get rfl rfl rfl hM.at2 HQ0.out ?_)) | go_values | go_skip | go_guarded | go_step | go_upon | (simp only [Int.not_lt, Int.not_le] at *; go_simp))
      refine (HB39.out _).mono ?_
      rintro r v ⟨rfl, rfl⟩
      repeat' (first | (go_big_may; first | (refine a_get rfl rfl rfl hM.at2 HQn.out ?_)) | go_values | go_skip | go_guarded | go_step | go_upon | (simp only [Int.not_lt, Int.not_le] at *; go_simp))
      refine (HB18.out _).mono ?_
      rintro r v ⟨rfl, rfl⟩
      go_upto_region 25 with (go_big_may; first | (refine a_get rfl rfl rfl hM.at3 HQ0.out ?_) | (refine a_get rfl rfl rfl hM.at2 HQn.out ?_) | (refine a_load rfl rfl row_slot rfl hM.at3 HSE.out HSC.out ?_) | (refine a_alloc rfl zer_slot rfl ?_; intro u z13 hN; replace hM := hM.new hN; clear hN) | (refine a_fill rfl rfl row_slot rfl rfl hM.at0 HS.out List.length_replicate ?_; intro u hv hc; replace hM := hM.put0 hc hv; clear hv hc) | (refine a_get rfl rfl rfl hM.at0 G0.out ?_))
      go_simp
      rename World => u
      refine wp_abs (fun a0 => a0.tmps.size = 126 ∧ (∀ h, a0.tmps[4]'h = .pointer (some ⟨z4, 0, none⟩)) ∧ (∀ h, a0.tmps[3]'h = .pointer (some ⟨z3, 0, none⟩)) ∧ (∀ h, a0.tmps[7]'h = .pointer (some ⟨z7, 0, none⟩))) ⟨rfl, fun _ => rfl, fun _ => rfl, fun _ => rfl⟩ ?_
      rintro a0 ⟨hsz, s4, s3, sX⟩ ha0
      refine wp_region_held (S := fun W => ∃ l : List Int, l.length = 66 ∧ Mm w W [(z13, 38, s), (z7, 38, z66), (z4, 38, l), (z3, 23, [k, (m : Int), e, a]), (z2, 41, F)]) (by kernel_rfl) ?_
      have hd0 : Mm w u.drew [(z13, 38, s), (z7, 38, z66), (z4, 38, List.replicate 66 0), (z3, 23, [k, (m : Int), e, a]), (z2, 41, F)] := ⟨hM.lies, hM.own, hM.ap, hM.below.drew⟩
      have hS0 : ∃ l : List Int, l.length = 66 ∧ Mm w u.drew [(z13, 38, s), (z7, 38, z66), (z4, 38, l), (z3, 23, [k, (m : Int), e, a]), (z2, 41, F)] := ⟨_, List.length_replicate, hd0⟩
      refine h_take (i := 0) (ag z66) rfl (by kernel_rfl) (by kernel_rfl) (by kernel_rfl) (fun _ _ _ h => h) rfl hS0 (fun W hW => by
        obtain ⟨l, hl, hm⟩ := hW
        exact ex_load rfl row_slot (by simp [go_sem, Act.put, hsz, s4, s3, sX]) hm.at1 HZE.out HZC.out) ?_
      refine h_take (i := 1) (.pointer (some ⟨z3, 1, none⟩)) rfl (by kernel_rfl) (by kernel_rfl) (by kernel_rfl) (fun _ _ _ h => h) rfl hS0 (fun W hW => by simp [execOp, go_sem, Act.put, hsz, s4, s3, sX]) ?_
      refine h_take (i := 2) (.int .i64 (m : Int)) rfl (by kernel_rfl) (by kernel_rfl) (by kernel_rfl) (fun _ _ _ h => h) rfl hS0 (fun W hW => by
        obtain ⟨l, hl, hm⟩ := hW
        exact ex_get rfl (by simp [go_sem, Act.put, hsz]) hm.at3 HQ1.out) ?_
      refine h_fill (i := 3) rfl (by kernel_rfl) rfl rfl row_slot (by simp [go_sem, Act.put, hsz, s4, s3, sX]) (by simp [go_sem, Act.put, hsz]) hd0.at2 HZL.out List.length_replicate (fun u3 hl3 hc3 => ?_)
      have hd3 := hd0.put2 hc3 hl3
      have hS3 : ∃ l : List Int, l.length = 66 ∧ Mm w u3 [(z13, 38, s), (z7, 38, z66), (z4, 38, l), (z3, 23, [k, (m : Int), e, a]), (z2, 41, F)] := ⟨_, HZL.out, hd3⟩
      refine ⟨hS3, ?_⟩
      refine h_take (i := 4) (.int .i64 1) rfl (by kernel_rfl) (by kernel_rfl) (by kernel_rfl) (fun _ _ _ h => h) rfl hS3 (fun W hW => by simp [execOp, go_sem, Act.put, hsz, s4, s3, sX]) ?_
      refine h_take (i := 5) (.int .i64 (m : Int)) rfl (by kernel_rfl) (by kernel_rfl) (by kernel_rfl) (fun _ _ _ h => h) rfl hS3 (fun W hW => by simp [execOp, go_sem, Act.put, hsz, s4, s3, sX]) ?_
      refine wpAnyH_done (by kernel_rfl) ?_ _
      subst ha0
      clear hsz s4 s3 sX hS0 hS3 hd0 hM
      go_simp
      repeat' (first | go_values | go_skip | go_guarded | go_step | go_upon | (simp only [Int.not_lt, Int.not_le] at *; go_simp))
      rw [HX.out]
      exact bodyPost_ret (ret_3 Try.results68 rfl (ld_var row_slot hd3.at2 HZL.out) rfl rfl) rfl ⟨rfl, hd3.below⟩
    have e3 : (k == 3) = false := by simpa using k3
    by_cases k4 : k = 4
    · have e4 : (k == 4) = true := by simpa using k4
      by_cases h1 : ¬ cl s 0 = 1
      · have en1 : (cl s 0 != 1) = true := by simpa using h1
        have HX : Hid (R = ⟨s, 19, (m : Int)⟩) := by show R = _; rw [HRR.out]; unfold beh adr st; rw [if_neg h0, if_neg k3, if_pos k4, if_neg h1]
        clear HRR h0 hs hr hk39 k3 k4 h1
        repeat' (first | (go_big_may; first | (refine a_load rfl rfl row_board rfl hM.at3 HE9.out HC9.out ?_)) | go_values | go_skip | go_guarded | go_step | go_upon | (simp only [Int.not_lt, Int.not_le] at *; go_simp))
        refine (HK.out _).mono ?_
        rintro r v ⟨rfl, hv⟩
        replace hM := hM.call hv
        have HBv : Hid (Below wr.heap.size wr v) := hv
        clear hv
        repeat' (first | (go_big_may; first | (refine a_get rfl rfl rfl hM.at2 HQ0.out ?_)) | go_values | go_skip | go_guarded | go_step | go_upon | (simp only [Int.not_lt, Int.not_le] at *; go_simp))
        refine (HB39.out _).mono ?_
        rintro r v ⟨rfl, rfl⟩
        repeat' (first | (go_big_may; first | (refine a_get rfl rfl rfl hM.at2 HQn.out ?_)) | go_values | go_skip | go_guarded | go_step | go_upon | (simp only [Int.not_lt, Int.not_le] at *; go_simp))
        refine (HB18.out _).mono ?_
        rintro r v ⟨rfl, rfl⟩
        go_upto_region 28 with (go_big_may; first | (refine a_get rfl rfl rfl hM.at3 HQ0.out ?_) | (refine a_get rfl rfl rfl hM.at2 HQn.out ?_) | (refine a_load rfl rfl row_slot rfl hM.at3 HSE.out HSC.out ?_) | (refine a_alloc rfl zer_slot rfl ?_; intro u z13 hN; replace hM := hM.new hN; clear hN) | (refine a_fill rfl rfl row_slot rfl rfl hM.at0 HS.out List.length_replicate ?_; intro u hv hc; replace hM := hM.put0 hc hv; clear hv hc) | (refine a_get rfl rfl rfl hM.at0 G0.out ?_))
        go_simp
        rename World => u
        refine wp_abs (fun a0 => a0.tmps.size = 126 ∧ (∀ h, a0.tmps[4]'h = .pointer (some ⟨z4, 0, none⟩)) ∧ (∀ h, a0.tmps[3]'h = .pointer (some ⟨z3, 0, none⟩)) ∧ (∀ h, a0.tmps[13]'h = .pointer (some ⟨z13, 0, none⟩))) ⟨rfl, fun _ => rfl, fun _ => rfl, fun _ => rfl⟩ ?_
        rintro a0 ⟨hsz, s4, s3, sX⟩ ha0
        refine wp_region_held (S := fun W => ∃ l : List Int, l.length = 66 ∧ Mm w W [(z13, 38, s), (z7, 38, z66), (z4, 38, l), (z3, 23, [k, (m : Int), e, a]), (z2, 41, F)]) (by kernel_rfl) ?_
        have hd0 : Mm w u.drew [(z13, 38, s), (z7, 38, z66), (z4, 38, List.replicate 66 0), (z3, 23, [k, (m : Int), e, a]), (z2, 41, F)] := ⟨hM.lies, hM.own, hM.ap, hM.below.drew⟩
        have hS0 : ∃ l : List Int, l.length = 66 ∧ Mm w u.drew [(z13, 38, s), (z7, 38, z66), (z4, 38, l), (z3, 23, [k, (m : Int), e, a]), (z2, 41, F)] := ⟨_, List.length_replicate, hd0⟩
        refine h_take (i := 0) (ag s) rfl (by kernel_rfl) (by kernel_rfl) (by kernel_rfl) (fun _ _ _ h => h) rfl hS0 (fun W hW => by
          obtain ⟨l, hl, hm⟩ := hW
          exact ex_load rfl row_slot (by simp [go_sem, Act.put, hsz, s4, s3, sX]) hm.at0 HE6.out HC6.out) ?_
        refine h_take (i := 1) (.pointer (some ⟨z3, 1, none⟩)) rfl (by kernel_rfl) (by kernel_rfl) (by kernel_rfl) (fun _ _ _ h => h) rfl hS0 (fun W hW => by simp [execOp, go_sem, Act.put, hsz, s4, s3, sX]) ?_
        refine h_take (i := 2) (.int .i64 (m : Int)) rfl (by kernel_rfl) (by kernel_rfl) (by kernel_rfl) (fun _ _ _ h => h) rfl hS0 (fun W hW => by
          obtain ⟨l, hl, hm⟩ := hW
          exact ex_get rfl (by simp [go_sem, Act.put, hsz]) hm.at3 HQ1.out) ?_
        refine h_fill (i := 3) rfl (by kernel_rfl) rfl rfl row_slot (by simp [go_sem, Act.put, hsz, s4, s3, sX]) (by simp [go_sem, Act.put, hsz]) hd0.at2 HS.out List.length_replicate (fun u3 hl3 hc3 => ?_)
        have hd3 := hd0.put2 hc3 hl3
        have hS3 : ∃ l : List Int, l.length = 66 ∧ Mm w u3 [(z13, 38, s), (z7, 38, z66), (z4, 38, l), (z3, 23, [k, (m : Int), e, a]), (z2, 41, F)] := ⟨_, HS.out, hd3⟩
        refine ⟨hS3, ?_⟩
        refine h_take (i := 4) (.int .i64 19) rfl (by kernel_rfl) (by kernel_rfl) (by kernel_rfl) (fun _ _ _ h => h) rfl hS3 (fun W hW => by simp [execOp, go_sem, Act.put, hsz, s4, s3, sX]) ?_
        refine h_take (i := 5) (.int .i64 (m : Int)) rfl (by kernel_rfl) (by kernel_rfl) (by kernel_rfl) (fun _ _ _ h => h) rfl hS3 (fun W hW => by simp [execOp, go_sem, Act.put, hsz, s4, s3, sX]) ?_
        refine wpAnyH_done (by kernel_rfl) ?_ _
        subst ha0
        clear hsz s4 s3 sX hS0 hS3 hd0 hM
        go_simp
        repeat' (first | go_values | go_skip | go_guarded | go_step | go_upon | (simp only [Int.not_lt, Int.not_le] at *; go_simp))
        rw [HX.out]
        exact bodyPost_ret (ret_3 Try.results68 rfl (ld_var row_slot hd3.at2 HS.out) rfl rfl) rfl ⟨rfl, hd3.below⟩
      have h1 : cl s 0 = 1 := by omega
      have en1 : (cl s 0 != 1) = false := by simpa using h1
      have HX : Hid (R = ⟨((s.set 0 2).set 1 lb).set 3 1, 1, (m : Int)⟩) := by show R = _; rw [HRR.out]; unfold beh adr st; rw [if_neg h0, if_neg k3, if_pos k4, if_pos h1]
      have HVL : Hid ((((s.set 0 2).set 1 lb).set 3 1).length = 66) := by show _ = 66; simp [hs]
      have HVE : Hid (0 + 66 ≤ (((s.set 0 2).set 1 lb).set 3 1).length) := by show 0 + 66 ≤ _; rw [HVL.out]; omega
      have HVC : Hid (cut (((s.set 0 2).set 1 lb).set 3 1) 0 66 = ((s.set 0 2).set 1 lb).set 3 1) := cut_all HVL.out
      have HP0 : Hid (0 < s.length) := by show 0 < _; omega
      have HP1 : Hid (1 < (s.set 0 2).length) := by show 1 < _; rw [List.length_set]; omega
      have HP3 : Hid (3 < ((s.set 0 2).set 1 lb).length) := by show 3 < _; rw [List.length_set, List.length_set]; omega
      clear HRR h0 hs hr hk39 k3 k4 h1
      repeat' (first | (go_big_may; first | (refine a_load rfl rfl row_board rfl hM.at3 HE9.out HC9.out ?_)) | go_values | go_skip | go_guarded | go_step | go_upon | (simp only [Int.not_lt, Int.not_le] at *; go_simp))
      refine (HK.out _).mono ?_
      rintro r v ⟨rfl, hv⟩
      replace hM := hM.call hv
      have HBv : Hid (Below wr.heap.size wr v) := hv
      clear hv
      repeat' (first | (go_big_may; first | (refine a_get rfl rfl rfl hM.at2 HQ0.out ?_)) | go_values | go_skip | go_guarded | go_step | go_upon | (simp only [Int.not_lt, Int.not_le] at *; go_simp))
      refine (HB39.out _).mono ?_
      rintro r v ⟨rfl, rfl⟩
      repeat' (first | (go_big_may; first | (refine a_get rfl rfl rfl hM.at2 HQn.out ?_)) | go_values | go_skip | go_guarded | go_step | go_upon | (simp only [Int.not_lt, Int.not_le] at *; go_simp))
      refine (HB18.out _).mono ?_
      rintro r v ⟨rfl, rfl⟩
      repeat' (first | (go_big_may; first | (refine a_get rfl rfl rfl hM.at3 HQ0.out ?_) | (refine a_get rfl rfl rfl hM.at2 HQn.out ?_) | (refine a_load rfl rfl row_slot rfl hM.at3 HSE.out HSC.out ?_) | (refine a_alloc rfl zer_slot rfl ?_; intro u z13 hN; have HBu : Hid (Below wr.heap.size wr u) := bsq HBv.out hN.below; have HZ13 : Hid (wr.heap.size ≤ z13) := (by rw [hN.at']; exact HBv.out.size); replace hM := hM.new hN; clear hN) | (refine a_fill rfl rfl row_slot rfl rfl hM.at0 HS.out List.length_replicate ?_; intro u hv hc; have HBx : Hid (Below wr.heap.size wr u) := hc.below _ _ HZ13.out HBu.out; replace hM := hM.put0 hc hv; clear hv hc) | (refine a_get rfl rfl rfl hM.at0 G0.out ?_)) | go_values | go_skip | go_guarded | go_step | go_upon | (simp only [Int.not_lt, Int.not_le] at *; go_simp))
      refine (HLF2.out _ HBx.out).mono ?_
      rintro r v ⟨rfl, rfl⟩
      go_upto_region 30 with (first | (refine a_put rfl rfl rfl rfl hM.at0 HP0.out ?_; intro u hv hc; replace hM := hM.put0 hc hv; clear hv hc) | (refine a_put rfl rfl rfl rfl hM.at0 HP1.out ?_; intro u hv hc; replace hM := hM.put0 hc hv; clear hv hc) | (refine a_put rfl rfl rfl rfl hM.at0 HP3.out ?_; intro u hv hc; replace hM := hM.put0 hc hv; clear hv hc))
      go_simp
      rename World => u
      refine wp_abs (fun a0 => a0.tmps.size = 126 ∧ (∀ h, a0.tmps[4]'h = .pointer (some ⟨z4, 0, none⟩)) ∧ (∀ h, a0.tmps[3]'h = .pointer (some ⟨z3, 0, none⟩)) ∧ (∀ h, a0.tmps[13]'h = .pointer (some ⟨z13, 0, none⟩))) ⟨rfl, fun _ => rfl, fun _ => rfl, fun _ => rfl⟩ ?_
      rintro a0 ⟨hsz, s4, s3, sX⟩ ha0
      refine wp_region_held (S := fun W => ∃ l : List Int, l.length = 66 ∧ Mm w W [(z13, 38, ((s.set 0 2).set 1 lb).set 3 1), (z7, 38, z66), (z4, 38, l), (z3, 23, [k, (m : Int), e, a]), (z2, 41, F)]) (by kernel_rfl) ?_
      have hd0 : Mm w u.drew [(z13, 38, ((s.set 0 2).set 1 lb).set 3 1), (z7, 38, z66), (z4, 38, List.replicate 66 0), (z3, 23, [k, (m : Int), e, a]), (z2, 41, F)] := ⟨hM.lies, hM.own, hM.ap, hM.below.drew⟩
      have hS0 : ∃ l : List Int, l.length = 66 ∧ Mm w u.drew [(z13, 38, ((s.set 0 2).set 1 lb).set 3 1), (z7, 38, z66), (z4, 38, l), (z3, 23, [k, (m : Int), e, a]), (z2, 41, F)] := ⟨_, List.length_replicate, hd0⟩
      refine h_take (i := 0) (ag (((s.set 0 2).set 1 lb).set 3 1)) rfl (by kernel_rfl) (by kernel_rfl) (by kernel_rfl) (fun _ _ _ h => h) rfl hS0 (fun W hW => by
        obtain ⟨l, hl, hm⟩ := hW
        exact ex_load rfl row_slot (by simp [go_sem, Act.put, hsz, s4, s3, sX]) hm.at0 HVE.out HVC.out) ?_
      refine h_take (i := 1) (.pointer (some ⟨z3, 1, none⟩)) rfl (by kernel_rfl) (by kernel_rfl) (by kernel_rfl) (fun _ _ _ h => h) rfl hS0 (fun W hW => by simp [execOp, go_sem, Act.put, hsz, s4, s3, sX]) ?_
      refine h_take (i := 2) (.int .i64 (m : Int)) rfl (by kernel_rfl) (by kernel_rfl) (by kernel_rfl) (fun _ _ _ h => h) rfl hS0 (fun W hW => by
        obtain ⟨l, hl, hm⟩ := hW
        exact ex_get rfl (by simp [go_sem, Act.put, hsz]) hm.at3 HQ1.out) ?_
      refine h_fill (i := 3) rfl (by kernel_rfl) rfl rfl row_slot (by simp [go_sem, Act.put, hsz, s4, s3, sX]) (by simp [go_sem, Act.put, hsz]) hd0.at2 HVL.out List.length_replicate (fun u3 hl3 hc3 => ?_)
      have hd3 := hd0.put2 hc3 hl3
      have hS3 : ∃ l : List Int, l.length = 66 ∧ Mm w u3 [(z13, 38, ((s.set 0 2).set 1 lb).set 3 1), (z7, 38, z66), (z4, 38, l), (z3, 23, [k, (m : Int), e, a]), (z2, 41, F)] := ⟨_, HVL.out, hd3⟩
      refine ⟨hS3, ?_⟩
      refine h_take (i := 4) (.int .i64 1) rfl (by kernel_rfl) (by kernel_rfl) (by kernel_rfl) (fun _ _ _ h => h) rfl hS3 (fun W hW => by simp [execOp, go_sem, Act.put, hsz, s4, s3, sX]) ?_
      refine h_take (i := 5) (.int .i64 (m : Int)) rfl (by kernel_rfl) (by kernel_rfl) (by kernel_rfl) (fun _ _ _ h => h) rfl hS3 (fun W hW => by simp [execOp, go_sem, Act.put, hsz, s4, s3, sX]) ?_
      refine wpAnyH_done (by kernel_rfl) ?_ _
      subst ha0
      clear hsz s4 s3 sX hS0 hS3 hd0 hM
      go_simp
      repeat' (first | go_values | go_skip | go_guarded | go_step | go_upon | (simp only [Int.not_lt, Int.not_le] at *; go_simp))
      rw [HX.out]
      exact bodyPost_ret (ret_3 Try.results68 rfl (ld_var row_slot hd3.at2 HVL.out) rfl rfl) rfl ⟨rfl, hd3.below⟩
    have e4 : (k == 4) = false := by simpa using k4
    by_cases k5 : k = 5
    · have e5 : (k == 5) = true := by simpa using k5
      have HX0 : Hid (R = ⟨(cfg s a).1, (cfg s a).2, (m : Int)⟩) := by show R = _; rw [HRR.out]; unfold beh st; rw [if_neg h0, if_neg k3, if_neg k4, if_pos k5]
      have HCF : Hid (∀ u, Calls Try.prog 85 #[ag s, .int .i64 a] u fun r w' => r = .returned (.tuple #[ag (cfg s a).1, .int .i64 (cfg s a).2]) ∧ Below u.heap.size u w') := fun u => configured_any s a u hs hr h0
      have HTL : Hid ((cfg s a).1.length = 66) := cfg_length hs
      generalize cfg s a = y at *
      obtain ⟨y1, y2⟩ := y
      have HX : Hid (R = ⟨y1, y2, (m : Int)⟩) := HX0.out
      have HTE : Hid (0 + 66 ≤ y1.length) := by show 0 + 66 ≤ _; rw [show y1.length = 66 from HTL.out]; omega
      have HTC : Hid (cut y1 0 66 = y1) := cut_all HTL.out
      clear HRR HX0 h0 hs hr hk39 k3 k4 k5
      repeat' (first | (go_big_may; first | (refine a_load rfl rfl row_board rfl hM.at3 HE9.out HC9.out ?_)) | go_values | go_skip | go_guarded | go_step | go_upon | (simp only [Int.not_lt, Int.not_le] at *; go_simp))
      refine (HK.out _).mono ?_
      rintro r v ⟨rfl, hv⟩
      replace hM := hM.call hv
      have HBv : Hid (Below wr.heap.size wr v) := hv
      clear hv
      repeat' (first | (go_big_may; first | (refine a_get rfl rfl rfl hM.at2 HQ0.out ?_)) | go_values | go_skip | go_guarded | go_step | go_upon | (simp only [Int.not_lt, Int.not_le] at *; go_simp))
      refine (HB39.out _).mono ?_
      rintro r v ⟨rfl, rfl⟩
      repeat' (first | (go_big_may; first | (refine a_get rfl rfl rfl hM.at2 HQn.out ?_)) | go_values | go_skip | go_guarded | go_step | go_upon | (simp only [Int.not_lt, Int.not_le] at *; go_simp))
      refine (HB18.out _).mono ?_
      rintro r v ⟨rfl, rfl⟩
      repeat' (first | (go_big_may; first | (refine a_get rfl rfl rfl hM.at3 HQ0.out ?_) | (refine a_get rfl rfl rfl hM.at3 HQ3.out ?_) | (refine a_get rfl rfl rfl hM.at2 HQn.out ?_) | (refine a_load rfl rfl row_slot rfl hM.at3 HSE.out HSC.out ?_) | (refine a_alloc rfl zer_slot rfl ?_; intro u z13 hN; replace hM := hM.new hN; clear hN) | (refine a_fill rfl rfl row_slot rfl rfl hM.at0 HS.out List.length_replicate ?_; intro u hv hc; replace hM := hM.put0 hc hv; clear hv hc) | (refine a_get rfl rfl rfl hM.at0 G0.out ?_) | (refine a_load rfl rfl row_slot rfl hM.at0 HE6.out HC6.out ?_) | (refine a_load rfl rfl row_cmd rfl hM.at3 HE4.out HC4.out ?_)) | go_values | go_skip | go_guarded | go_step | go_upon | (simp only [Int.not_lt, Int.not_le] at *; go_simp))
      refine (HCF.out _).mono ?_
      rintro r v ⟨rfl, hv⟩
      replace hM := hM.call hv
      clear hv
      go_upto_region 33 with (first | (refine a_alloc rfl zer_slot rfl ?_; intro u z14 hN; replace hM := hM.new hN; clear hN) | (refine a_fill rfl rfl row_slot rfl rfl hM.at0 HTL.out List.length_replicate ?_; intro u hv hc; replace hM := hM.put0 hc hv; clear hv hc))
      go_simp
      rename World => u
      refine wp_abs (fun a0 => a0.tmps.size = 126 ∧ (∀ h, a0.tmps[4]'h = .pointer (some ⟨z4, 0, none⟩)) ∧ (∀ h, a0.tmps[3]'h = .pointer (some ⟨z3, 0, none⟩)) ∧ (∀ h, a0.tmps[14]'h = .pointer (some ⟨z14, 0, none⟩)) ∧ (∀ h, a0.tmps[15]'h = .int .i64 y2)) ⟨rfl, fun _ => rfl, fun _ => rfl, fun _ => rfl, fun _ => rfl⟩ ?_
      rintro a0 ⟨hsz, s4, s3, sX, sY⟩ ha0
      refine wp_region_held (S := fun W => ∃ l : List Int, l.length = 66 ∧ Mm w W [(z14, 38, y1), (z13, 38, s), (z7, 38, z66), (z4, 38, l), (z3, 23, [k, (m : Int), e, a]), (z2, 41, F)]) (by kernel_rfl) ?_
      have hd0 : Mm w u.drew [(z14, 38, y1), (z13, 38, s), (z7, 38, z66), (z4, 38, List.replicate 66 0), (z3, 23, [k, (m : Int), e, a]), (z2, 41, F)] := ⟨hM.lies, hM.own, hM.ap, hM.below.drew⟩
      have hS0 : ∃ l : List Int, l.length = 66 ∧ Mm w u.drew [(z14, 38, y1), (z13, 38, s), (z7, 38, z66), (z4, 38, l), (z3, 23, [k, (m : Int), e, a]), (z2, 41, F)] := ⟨_, List.length_replicate, hd0⟩
      refine h_take (i := 0) (ag y1) rfl (by kernel_rfl) (by kernel_rfl) (by kernel_rfl) (fun _ _ _ h => h) rfl hS0 (fun W hW => by
        obtain ⟨l, hl, hm⟩ := hW
        exact ex_load rfl row_slot (by simp [go_sem, Act.put, hsz, s4, s3, sX, sY]) hm.at0 HTE.out HTC.out) ?_
      refine h_take (i := 1) (.int .i64 y2) rfl (by kernel_rfl) (by kernel_rfl) (by kernel_rfl) (fun _ _ _ h => h) rfl hS0 (fun W hW => by simp [execOp, go_sem, Act.put, hsz, s4, s3, sX, sY]) ?_
      refine h_take (i := 2) (.pointer (some ⟨z3, 1, none⟩)) rfl (by kernel_rfl) (by kernel_rfl) (by kernel_rfl) (fun _ _ _ h => h) rfl hS0 (fun W hW => by simp [execOp, go_sem, Act.put, hsz, s4, s3, sX, sY]) ?_
      refine h_take (i := 3) (.int .i64 (m : Int)) rfl (by kernel_rfl) (by kernel_rfl) (by kernel_rfl) (fun _ _ _ h => h) rfl hS0 (fun W hW => by
        obtain ⟨l, hl, hm⟩ := hW
        exact ex_get rfl (by simp [go_sem, Act.put, hsz]) hm.at4 HQ1.out) ?_
      refine h_fill (i := 4) rfl (by kernel_rfl) rfl rfl row_slot (by simp [go_sem, Act.put, hsz, s4, s3, sX, sY]) (by simp [go_sem, Act.put, hsz]) hd0.at3 HTL.out List.length_replicate (fun u3 hl3 hc3 => ?_)
      have hd3 := hd0.put3 hc3 hl3
      have hS3 : ∃ l : List Int, l.length = 66 ∧ Mm w u3 [(z14, 38, y1), (z13, 38, s), (z7, 38, z66), (z4, 38, l), (z3, 23, [k, (m : Int), e, a]), (z2, 41, F)] := ⟨_, HTL.out, hd3⟩
      refine ⟨hS3, ?_⟩
      refine h_take (i := 5) (.int .i64 y2) rfl (by kernel_rfl) (by kernel_rfl) (by kernel_rfl) (fun _ _ _ h => h) rfl hS3 (fun W hW => by simp [execOp, go_sem, Act.put, hsz, s4, s3, sX, sY]) ?_
      refine h_take (i := 6) (.int .i64 (m : Int)) rfl (by kernel_rfl) (by kernel_rfl) (by kernel_rfl) (fun _ _ _ h => h) rfl hS3 (fun W hW => by simp [execOp, go_sem, Act.put, hsz, s4, s3, sX, sY]) ?_
      refine wpAnyH_done (by kernel_rfl) ?_ _
      subst ha0
      clear hsz s4 s3 sX sY hS0 hS3 hd0 hM
      go_simp
      repeat' (first | go_values | go_skip | go_guarded | go_step | go_upon | (simp only [Int.not_lt, Int.not_le] at *; go_simp))
      rw [HX.out]
      exact bodyPost_ret (ret_3 Try.results68 rfl (ld_var row_slot hd3.at3 HTL.out) rfl rfl) rfl ⟨rfl, hd3.below⟩
    have e5 : (k == 5) = false := by simpa using k5
    have HX0 : Hid (R = ⟨(atE s k e a).1, (atE s k e a).2, (m : Int)⟩) := by show R = _; rw [HRR.out]; unfold beh st; rw [if_neg h0, if_neg k3, if_neg k4, if_neg k5]
    have HCF : Hid (∀ u, Calls Try.prog 86 #[ag s, ag [k, (m : Int), e, a]] u fun r w' => r = .returned (.tuple #[ag (atE s k e a).1, .int .i64 (atE s k e a).2]) ∧ Below u.heap.size u w') := fun u => endDone_any s k (m : Int) e a u hs (by omega) hr
    have HTL : Hid ((atE s k e a).1.length = 66) := atE_length hs
    generalize atE s k e a = y at *
    obtain ⟨y1, y2⟩ := y
    have HX : Hid (R = ⟨y1, y2, (m : Int)⟩) := HX0.out
    have HTE : Hid (0 + 66 ≤ y1.length) := by show 0 + 66 ≤ _; rw [show y1.length = 66 from HTL.out]; omega
    have HTC : Hid (cut y1 0 66 = y1) := cut_all HTL.out
    clear HRR HX0 h0 hs hr hk39 k3 k4 k5
    repeat' (first | (go_big_may; first | (refine a_load rfl rfl row_board rfl hM.at3 HE9.out HC9.out ?_)) | go_values | go_skip | go_guarded | go_step | go_upon | (simp only [Int.not_lt, Int.not_le] at *; go_simp))
    refine (HK.out _).mono ?_
    rintro r v ⟨rfl, hv⟩
    replace hM := hM.call hv
    have HBv : Hid (Below wr.heap.size wr v) := hv
    clear hv
    repeat' (first | (go_big_may; first | (refine a_get rfl rfl rfl hM.at2 HQ0.out ?_)) | go_values | go_skip | go_guarded | go_step | go_upon | (simp only [Int.not_lt, Int.not_le] at *; go_simp))
    refine (HB39.out _).mono ?_
    rintro r v ⟨rfl, rfl⟩
    repeat' (first | (go_big_may; first | (refine a_get rfl rfl rfl hM.at2 HQn.out ?_)) | go_values | go_skip | go_guarded | go_step | go_upon | (simp only [Int.not_lt, Int.not_le] at *; go_simp))
    refine (HB18.out _).mono ?_
    rintro r v ⟨rfl, rfl⟩
    repeat' (first | (go_big_may; first | (refine a_get rfl rfl rfl hM.at3 HQ0.out ?_) | (refine a_get rfl rfl rfl hM.at3 HQ3.out ?_) | (refine a_get rfl rfl rfl hM.at2 HQn.out ?_) | (refine a_load rfl rfl row_slot rfl hM.at3 HSE.out HSC.out ?_) | (refine a_alloc rfl zer_slot rfl ?_; intro u z13 hN; replace hM := hM.new hN; clear hN) | (refine a_fill rfl rfl row_slot rfl rfl hM.at0 HS.out List.length_replicate ?_; intro u hv hc; replace hM := hM.put0 hc hv; clear hv hc) | (refine a_get rfl rfl rfl hM.at0 G0.out ?_) | (refine a_load rfl rfl row_slot rfl hM.at0 HE6.out HC6.out ?_) | (refine a_load rfl rfl row_cmd rfl hM.at3 HE4.out HC4.out ?_)) | go_values | go_skip | go_guarded | go_step | go_upon | (simp only [Int.not_lt, Int.not_le] at *; go_simp))
    refine (HCF.out _).mono ?_
    rintro r v ⟨rfl, hv⟩
    replace hM := hM.call hv
    clear hv
    go_upto_region 35 with (first | (refine a_alloc rfl zer_slot rfl ?_; intro u z14 hN; replace hM := hM.new hN; clear hN) | (refine a_fill rfl rfl row_slot rfl rfl hM.at0 HTL.out List.length_replicate ?_; intro u hv hc; replace hM := hM.put0 hc hv; clear hv hc))
    go_simp
    rename World => u
    refine wp_abs (fun a0 => a0.tmps.size = 126 ∧ (∀ h, a0.tmps[4]'h = .pointer (some ⟨z4, 0, none⟩)) ∧ (∀ h, a0.tmps[3]'h = .pointer (some ⟨z3, 0, none⟩)) ∧ (∀ h, a0.tmps[16]'h = .pointer (some ⟨z14, 0, none⟩)) ∧ (∀ h, a0.tmps[17]'h = .int .i64 y2)) ⟨rfl, fun _ => rfl, fun _ => rfl, fun _ => rfl, fun _ => rfl⟩ ?_
    rintro a0 ⟨hsz, s4, s3, sX, sY⟩ ha0
    refine wp_region_held (S := fun W => ∃ l : List Int, l.length = 66 ∧ Mm w W [(z14, 38, y1), (z13, 38, s), (z7, 38, z66), (z4, 38, l), (z3, 23, [k, (m : Int), e, a]), (z2, 41, F)]) (by kernel_rfl) ?_
    have hd0 : Mm w u.drew [(z14, 38, y1), (z13, 38, s), (z7, 38, z66), (z4, 38, List.replicate 66 0), (z3, 23, [k, (m : Int), e, a]), (z2, 41, F)] := ⟨hM.lies, hM.own, hM.ap, hM.below.drew⟩
    have hS0 : ∃ l : List Int, l.length = 66 ∧ Mm w u.drew [(z14, 38, y1), (z13, 38, s), (z7, 38, z66), (z4, 38, l), (z3, 23, [k, (m : Int), e, a]), (z2, 41, F)] := ⟨_, List.length_replicate, hd0⟩
    refine h_take (i := 0) (ag y1) rfl (by kernel_rfl) (by kernel_rfl) (by kernel_rfl) (fun _ _ _ h => h) rfl hS0 (fun W hW => by
      obtain ⟨l, hl, hm⟩ := hW
      exact ex_load rfl row_slot (by simp [go_sem, Act.put, hsz, s4, s3, sX, sY]) hm.at0 HTE.out HTC.out) ?_
    refine h_take (i := 1) (.int .i64 y2) rfl (by kernel_rfl) (by kernel_rfl) (by kernel_rfl) (fun _ _ _ h => h) rfl hS0 (fun W hW => by simp [execOp, go_sem, Act.put, hsz, s4, s3, sX, sY]) ?_
    refine h_take (i := 2) (.pointer (some ⟨z3, 1, none⟩)) rfl (by kernel_rfl) (by kernel_rfl) (by kernel_rfl) (fun _ _ _ h => h) rfl hS0 (fun W hW => by simp [execOp, go_sem, Act.put, hsz, s4, s3, sX, sY]) ?_
    refine h_take (i := 3) (.int .i64 (m : Int)) rfl (by kernel_rfl) (by kernel_rfl) (by kernel_rfl) (fun _ _ _ h => h) rfl hS0 (fun W hW => by
      obtain ⟨l, hl, hm⟩ := hW
      exact ex_get rfl (by simp [go_sem, Act.put, hsz]) hm.at4 HQ1.out) ?_
    refine h_fill (i := 4) rfl (by kernel_rfl) rfl rfl row_slot (by simp [go_sem, Act.put, hsz, s4, s3, sX, sY]) (by simp [go_sem, Act.put, hsz]) hd0.at3 HTL.out List.length_replicate (fun u3 hl3 hc3 => ?_)
    have hd3 := hd0.put3 hc3 hl3
    have hS3 : ∃ l : List Int, l.length = 66 ∧ Mm w u3 [(z14, 38, y1), (z13, 38, s), (z7, 38, z66), (z4, 38, l), (z3, 23, [k, (m : Int), e, a]), (z2, 41, F)] := ⟨_, HTL.out, hd3⟩
    refine ⟨hS3, ?_⟩
    refine h_take (i := 5) (.int .i64 y2) rfl (by kernel_rfl) (by kernel_rfl) (by kernel_rfl) (fun _ _ _ h => h) rfl hS3 (fun W hW => by simp [execOp, go_sem, Act.put, hsz, s4, s3, sX, sY]) ?_
    refine h_take (i := 6) (.int .i64 (m : Int)) rfl (by kernel_rfl) (by kernel_rfl) (by kernel_rfl) (fun _ _ _ h => h) rfl hS3 (fun W hW => by simp [execOp, go_sem, Act.put, hsz, s4, s3, sX, sY]) ?_
    refine wpAnyH_done (by kernel_rfl) ?_ _
    subst ha0
    clear hsz s4 s3 sX sY hS0 hS3 hd0 hM
    go_simp
    repeat' (first | go_values | go_skip | go_guarded | go_step | go_upon | (simp only [Int.not_lt, Int.not_le] at *; go_simp))
    rw [HX.out]
    exact bodyPost_ret (ret_3 Try.results68 rfl (ld_var row_slot hd3.at3 HTL.out) rfl rfl) rfl ⟨rfl, hd3.below⟩
end Go.Proofs.Ythjmcopknkemnaa.slots

/- slots, the document's answer: what Done answers. -/
namespace Go.Proofs.Ythjmcopknkemnaa.slots
open Go Go.RowKit
set_option linter.unusedVariables false
set_option linter.unusedSimpArgs false
set_option maxRecDepth 100000

theorem cmR_n {B : Bd} {k n e a : Int} : 0 ≤ (cmR B k n e a).n ∧ (cmR B k n e a).n ≤ 8 := by
  by_cases c0 : chk B = false
  · rw [cm_0 c0]; exact ⟨Int.le_refl _, by decide⟩
  by_cases c1 : k = 1
  · subst c1; rw [cm_1 c0]; exact ⟨Int.le_refl _, by decide⟩
  by_cases c2 : k = 2
  · subst c2
    rw [cm_2 c0]
    by_cases f : fr B ≤ 8
    · rw [if_pos f]
      show (0 : Int) ≤ (fr B : Int) ∧ (fr B : Int) ≤ 8
      omega
    · rw [if_neg f]; exact ⟨Int.le_refl _, by decide⟩
  by_cases c3 : 3 ≤ k ∧ k ≤ 9 ∧ slB n = true
  · rw [cm_b c0 c1 c2 c3]
    have := sl_in c3.2.2
    show (0 : Int) ≤ n ∧ n ≤ 8
    omega
  · rw [cm_5 c0 c1 c2 c3]; exact ⟨Int.le_refl _, by decide⟩
set_option maxHeartbeats 8000000 in
theorem done_any (B : Bd) (k n e a : Int) (w : World) (hw : Wf B) : Calls Try.prog 42 #[ag (fl B), ag [k, n, e, a]] w fun r w' => r = .returned (ansV (doB B k n e a)) ∧ Below w.heap.size w w' := by
  have HL : Hid ((fl B).length = 594) := hw.length
  have HE : Hid (0 + 594 ≤ (fl B).length) := by show 0 + 594 ≤ _; rw [hw.length]; omega
  have HC : Hid (cut (fl B) 0 594 = fl B) := cut_all hw.length
  have HC4 : Hid (cut [k, n, e, a] 0 4 = [k, n, e, a]) := rfl
  have HE4 : Hid (0 + 4 ≤ ([k, n, e, a] : List Int).length) := Nat.le_refl _
  have HCm : Hid (∀ u, Calls Try.prog 68 #[ag (fl B), ag [k, n, e, a]] u fun r w' => r = .returned (.tuple #[ag (cmR B k n e a).s, .int .i64 (cmR B k n e a).c, .int .i64 (cmR B k n e a).n]) ∧ Below u.heap.size u w') := fun u => command_any B k n e a u hw
  have HSL : Hid ((cmR B k n e a).s.length = 66) := cmR_len hw
  have hn := cmR_n (B := B) (k := k) (n := n) (e := e) (a := a)
  rw [← dn_do hw]
  generalize cmR B k n e a = r at *
  obtain ⟨rs, rc, rn⟩ := r
  simp only at hn HSL HCm
  obtain ⟨m, rfl⟩ : ∃ m : Nat, rn = m := ⟨rn.toNat, by omega⟩
  have hm8 : m ≤ 8 := by omega
  have HSC : Hid (cut rs 0 66 = rs) := cut_all HSL.out
  have HSE : Hid (0 + 66 ≤ rs.length) := by show 0 + 66 ≤ _; rw [HSL.out]; omega
  have hM := Mm.nil w
  by_cases hc : rc = 1 ∧ 0 < m
  · have HD : Hid (dnB B ⟨rs, rc, (m : Int)⟩ = B.set m rs) := by
      show _ = _
      unfold dnB
      have ht : ((m : Int)).toNat = m := by omega
      show (if rc = 1 ∧ (0 : Int) < (m : Int) then B.set ((m : Int)).toNat rs else B) = _
      rw [if_pos ⟨hc.1, by omega⟩, ht]
    have e1 : (rc == 1) = true := by simpa using hc.1
    have e2 : decide ((m : Int) > 0) = true := decide_eq_true (by omega)
    have HP : Hid (putL (fl B) (m * 66) rs = fl (B.set m rs)) := fl_put hw (by omega) HSL.out
    have HL2 : Hid ((fl (B.set m rs)).length = 594) := (hw.set HSL.out).length
    have HPE : Hid (m * 66 + 66 ≤ (fl B).length) := by show _ ≤ _; rw [hw.length]; omega
    have HE2 : Hid (0 + 594 ≤ (fl (B.set m rs)).length) := by show 0 + 594 ≤ _; rw [HL2.out]; omega
    have HC2 : Hid (cut (fl (B.set m rs)) 0 594 = fl (B.set m rs)) := cut_all HL2.out
    rw [HD.out]
    have e3 : 0 < m := hc.2
    clear hw hn hc HD
    go_enter Try.func42, Try.ntmps42
    repeat' (first | (go_big_may; first | (refine a_box (t := 41) rfl rfl rfl ?_; intro u z2 hN; replace hM := hM.new hN; clear hN) | (refine a_box (t := 23) rfl rfl rfl ?_; intro u z3 hN; replace hM := hM.new hN; clear hN) | (refine a_alloc rfl zer_board rfl ?_; intro u z4 hN; replace hM := hM.new hN; clear hN) | (refine a_load rfl rfl row_board rfl hM.at2 HE.out HC.out ?_) | (refine a_load rfl rfl row_cmd rfl hM.at1 HE4.out HC4.out ?_)) | go_values | go_skip | go_guarded | go_step | go_upon | (simp only [Int.not_lt, Int.not_le] at *; go_simp))
    refine (HCm.out _).mono ?_
    rintro r u ⟨rfl, hv⟩
    replace hM := hM.call hv
    clear hv
    repeat' (first | (go_big_may; first | (refine a_alloc rfl zer_slot rfl ?_; intro u z7 hN; replace hM := hM.new hN; clear hN) | (refine a_fill rfl rfl row_slot rfl rfl hM.at0 HSL.out List.length_replicate ?_; intro u hv hc; replace hM := hM.put0 hc hv; clear hv hc) | (refine a_load rfl rfl row_slot rfl hM.at0 HSE.out HSC.out ?_) | (refine a_store rfl rfl row_slot rfl rfl hM.at3 HSL.out HPE.out HP.out ?_; intro u hv hc; replace hM := hM.put3 hc hv; clear hv hc) | (refine a_load rfl rfl row_board rfl hM.at3 HE2.out HC2.out ?_) | (refine a_fill rfl rfl row_board rfl rfl hM.at1 HL2.out rep_594 ?_; intro u hv hc; replace hM := hM.put1 hc hv; clear hv hc)) | go_values | go_skip | go_guarded | go_step | go_upon | (simp only [Int.not_lt, Int.not_le] at *; go_simp))
    exact bodyPost_ret (ret_3 Try.results42 rfl (ld_var row_board hM.at1 HL2.out) rfl rfl) rfl ⟨rfl, hM.below⟩
  · have HD : Hid (dnB B ⟨rs, rc, (m : Int)⟩ = B) := by
      show _ = _
      unfold dnB
      show (if rc = 1 ∧ (0 : Int) < (m : Int) then B.set ((m : Int)).toNat rs else B) = _
      rw [if_neg (fun h => hc ⟨h.1, by omega⟩)]
    have ee : (rc == 1) = false ∨ (rc == 1) = true ∧ ¬ 0 < m := by
      by_cases z : rc = 1
      · exact .inr ⟨by simpa using z, fun h => hc ⟨z, h⟩⟩
      · exact .inl (by simpa using z)
    rw [HD.out]
    clear hw hn hc HD
    rcases ee with e1 | ⟨e1, e2⟩
    all_goals
      go_enter Try.func42, Try.ntmps42
      repeat' (first | (go_big_may; first | (refine a_box (t := 41) rfl rfl rfl ?_; intro u z2 hN; replace hM := hM.new hN; clear hN) | (refine a_box (t := 23) rfl rfl rfl ?_; intro u z3 hN; replace hM := hM.new hN; clear hN) | (refine a_alloc rfl zer_board rfl ?_; intro u z4 hN; replace hM := hM.new hN; clear hN) | (refine a_load rfl rfl row_board rfl hM.at2 HE.out HC.out ?_) | (refine a_load rfl rfl row_cmd rfl hM.at1 HE4.out HC4.out ?_)) | go_values | go_skip | go_guarded | go_step | go_upon | (simp only [Int.not_lt, Int.not_le] at *; go_simp))
      refine (HCm.out _).mono ?_
      rintro r u ⟨rfl, hv⟩
      replace hM := hM.call hv
      clear hv
      repeat' (first | (go_big_may; first | (refine a_alloc rfl zer_slot rfl ?_; intro u z7 hN; replace hM := hM.new hN; clear hN) | (refine a_fill rfl rfl row_slot rfl rfl hM.at0 HSL.out List.length_replicate ?_; intro u hv hc; replace hM := hM.put0 hc hv; clear hv hc) | (refine a_load rfl rfl row_board rfl hM.at3 HE.out HC.out ?_) | (refine a_fill rfl rfl row_board rfl rfl hM.at1 HL.out rep_594 ?_; intro u hv hc; replace hM := hM.put1 hc hv; clear hv hc)) | go_values | go_skip | go_guarded | go_step | go_upon | (simp only [Int.not_lt, Int.not_le] at *; go_simp))
      exact bodyPost_ret (ret_3 Try.results42 rfl (ld_var row_board hM.at1 HL.out) rfl rfl) rfl ⟨rfl, hM.below⟩
end Go.Proofs.Ythjmcopknkemnaa.slots
