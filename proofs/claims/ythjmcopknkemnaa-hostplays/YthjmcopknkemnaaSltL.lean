/- slots: what Halt answers; a first slot is on. -/
import Derived.Test.YthjmcopknkemnaaSltK
import Derived.Test.YthjmcopknkemnaaSltP
namespace Go.Proofs.Ythjmcopknkemnaa.slots
open Go Go.RowKit
set_option linter.unusedVariables false
set_option linter.unusedSimpArgs false
set_option maxRecDepth 100000

set_option maxHeartbeats 8000000 in
theorem halt_any (B : Bd) (n e : Int) (w : World) (hw : Wf B) : Calls Try.prog 48 #[ag (fl B), .int .i64 n, .int .i64 e] w fun r w' => r = .returned (ag (fl (hlt B n e))) ∧ Below w.heap.size w w' := by
  have HL : Hid ((fl B).length = 594) := hw.length
  have HE : Hid (0 + 594 ≤ (fl B).length) := by show 0 + 594 ≤ _; rw [hw.length]; omega
  have HC : Hid (cut (fl B) 0 594 = fl B) := cut_all hw.length
  have HK : Hid (∀ u, Calls Try.prog 53 #[ag (fl B)] u fun r w' => r = .returned (.int .i64 (chE B)) ∧ Below u.heap.size u w') := fun u => check_any B u hw
  have HS : Hid (∀ u, Calls Try.prog 73 #[.int .i64 n] u fun r w' => r = .returned (.bool (slB n)) ∧ u = w') := isSlot_any n
  have HN : Hid (∀ u, Calls Try.prog 74 #[.int .i64 e] u fun r w' => r = .returned (.bool (edB e)) ∧ u = w') := isEnd_any e
  have hM := Mm.nil w
  by_cases hb : chk B = false
  · have HQ : Hid (hlt B n e = B) := by show _ = _; unfold hlt; rw [if_neg (by rw [hb]; simp)]
    have hE : chE B = 4 := by unfold chE; rw [hb]; rfl
    rw [hE] at HK
    clear hb hE hw
    go_enter Try.func48, Try.ntmps48
    repeat' (first | (go_big_may; first | (refine a_box rfl rfl rfl ?_; intro u zb hN; replace hM := hM.new hN; clear hN) | (refine a_alloc rfl zer_board rfl ?_; intro u zb hN; replace hM := hM.new hN; clear hN) | (refine a_load rfl rfl row_board rfl hM.at1 HE.out HC.out ?_)) | go_values | go_skip | go_guarded | go_step | go_upon | (simp only [Int.not_lt, Int.not_le] at *; go_simp))
    refine (HK.out _).mono ?_
    rintro r u ⟨rfl, hv⟩
    replace hM := hM.call hv
    clear hv
    repeat' (first | (go_big_may; first | (refine a_load rfl rfl row_board rfl hM.at1 HE.out HC.out ?_) | (refine a_fill rfl rfl row_board rfl rfl hM.at0 HL.out rep_594 ?_; intro u hv hc; replace hM := hM.put0 hc hv; clear hv hc)) | go_values | go_skip | go_guarded | go_step | go_upon | (simp only [Int.not_lt, Int.not_le] at *; go_simp))
    rw [HQ.out]
    exact bodyPost_ret (ret_1 Try.results48 rfl (ld_var row_board hM.at0 HL.out)) rfl ⟨rfl, hM.below⟩
  have hE : chE B = 0 := by unfold chE; rw [if_pos (by simpa using hb)]
  rw [hE] at HK
  by_cases hsn : slB n = false
  · have HQ : Hid (hlt B n e = B) := by show _ = _; unfold hlt; rw [if_neg (by rw [hsn]; simp)]
    rw [hsn] at HS
    clear hb hE hw hsn
    go_enter Try.func48, Try.ntmps48
    repeat' (first | (go_big_may; first | (refine a_box rfl rfl rfl ?_; intro u zb hN; replace hM := hM.new hN; clear hN) | (refine a_alloc rfl zer_board rfl ?_; intro u zb hN; replace hM := hM.new hN; clear hN) | (refine a_load rfl rfl row_board rfl hM.at1 HE.out HC.out ?_)) | go_values | go_skip | go_guarded | go_step | go_upon | (simp only [Int.not_lt, Int.not_le] at *; go_simp))
    refine (HK.out _).mono ?_
    rintro r u ⟨rfl, hv⟩
    replace hM := hM.call hv
    clear hv
    repeat' (first | go_values | go_skip | go_guarded | go_step | go_upon | (simp only [Int.not_lt, Int.not_le] at *; go_simp))
    refine (HS.out _).mono ?_
    rintro r u ⟨rfl, rfl⟩
    repeat' (first | (go_big_may; first | (refine a_load rfl rfl row_board rfl hM.at1 HE.out HC.out ?_) | (refine a_fill rfl rfl row_board rfl rfl hM.at0 HL.out rep_594 ?_; intro u hv hc; replace hM := hM.put0 hc hv; clear hv hc)) | go_values | go_skip | go_guarded | go_step | go_upon | (simp only [Int.not_lt, Int.not_le] at *; go_simp))
    rw [HQ.out]
    exact bodyPost_ret (ret_1 Try.results48 rfl (ld_var row_board hM.at0 HL.out)) rfl ⟨rfl, hM.below⟩
  have hsn : slB n = true := by simpa using hsn
  rw [hsn] at HS
  by_cases hee : edB e = false
  · have HQ : Hid (hlt B n e = B) := by show _ = _; unfold hlt; rw [if_neg (by rw [hee]; simp)]
    rw [hee] at HN
    clear hb hE hw hsn hee
    go_enter Try.func48, Try.ntmps48
    repeat' (first | (go_big_may; first | (refine a_box rfl rfl rfl ?_; intro u zb hN; replace hM := hM.new hN; clear hN) | (refine a_alloc rfl zer_board rfl ?_; intro u zb hN; replace hM := hM.new hN; clear hN) | (refine a_load rfl rfl row_board rfl hM.at1 HE.out HC.out ?_)) | go_values | go_skip | go_guarded | go_step | go_upon | (simp only [Int.not_lt, Int.not_le] at *; go_simp))
    refine (HK.out _).mono ?_
    rintro r u ⟨rfl, hv⟩
    replace hM := hM.call hv
    clear hv
    repeat' (first | go_values | go_skip | go_guarded | go_step | go_upon | (simp only [Int.not_lt, Int.not_le] at *; go_simp))
    refine (HS.out _).mono ?_
    rintro r u ⟨rfl, rfl⟩
    repeat' (first | go_values | go_skip | go_guarded | go_step | go_upon | (simp only [Int.not_lt, Int.not_le] at *; go_simp))
    refine (HN.out _).mono ?_
    rintro r u ⟨rfl, rfl⟩
    repeat' (first | (go_big_may; first | (refine a_load rfl rfl row_board rfl hM.at1 HE.out HC.out ?_) | (refine a_fill rfl rfl row_board rfl rfl hM.at0 HL.out rep_594 ?_; intro u hv hc; replace hM := hM.put0 hc hv; clear hv hc)) | go_values | go_skip | go_guarded | go_step | go_upon | (simp only [Int.not_lt, Int.not_le] at *; go_simp))
    rw [HQ.out]
    exact bodyPost_ret (ret_1 Try.results48 rfl (ld_var row_board hM.at0 HL.out)) rfl ⟨rfl, hM.below⟩
  have hee : edB e = true := by simpa using hee
  rw [hee] at HN
  obtain ⟨m, hm1, hm2, rfl⟩ : ∃ m : Nat, 1 ≤ m ∧ m ≤ 8 ∧ n = m := ⟨n.toNat, (sl_in hsn).1, (sl_in hsn).2.1, (sl_in hsn).2.2.symm⟩
  obtain ⟨j, hj1, hj2, rfl⟩ : ∃ j : Nat, 1 ≤ j ∧ j ≤ 31 ∧ e = j := ⟨e.toNat, (ed_in hee).1, (ed_in hee).2.1, (ed_in hee).2.2.symm⟩
  have htm : ((m : Int)).toNat = m := by omega
  have htj : ((j : Int)).toNat = j := by omega
  have HG : Hid ((fl B)[m * 66 + 2 + j]? = some (cl (sl B m) (2 + j))) := by show _ = _; rw [Nat.add_assoc]; exact fl_at hw (by omega) (by omega)
  have HJ : Hid (m * 66 + 2 + j < (fl B).length) := by show _ < _; rw [hw.length]; omega
  by_cases h1 : cl (sl B m) (2 + j) = 1
  · have HQ : Hid (hlt B (m : Int) (j : Int) = B.set m ((sl B m).set (2 + j) 2)) := by
      show _ = _
      unfold hlt en
      rw [htm, htj, if_pos ⟨by simpa using hb, hsn, hee, h1⟩]
    have HF : Hid ((fl B).set (m * 66 + 2 + j) 2 = fl (B.set m ((sl B m).set (2 + j) 2))) := by show _ = _; rw [Nat.add_assoc]; exact fl_set hw (by omega) (by omega)
    have HL2 : Hid ((fl (B.set m ((sl B m).set (2 + j) 2))).length = 594) := (hw.set (by rw [List.length_set]; exact hw.sl (by omega))).length
    have e1 : (cl (sl B m) (2 + j) == 1) = true := by simpa using h1
    rw [HQ.out]
    generalize fl (B.set m ((sl B m).set (2 + j) 2)) = F2 at *
    have HC2 : Hid (cut F2 0 594 = F2) := cut_all HL2.out
    have HE2 : Hid (0 + 594 ≤ F2.length) := by show 0 + 594 ≤ _; rw [HL2.out]; omega
    clear hb hE hw hsn hee htm htj h1 HQ
    go_enter Try.func48, Try.ntmps48
    repeat' (first | (go_big_may; first | (refine a_box rfl rfl rfl ?_; intro u zb hN; replace hM := hM.new hN; clear hN) | (refine a_alloc rfl zer_board rfl ?_; intro u zb hN; replace hM := hM.new hN; clear hN) | (refine a_load rfl rfl row_board rfl hM.at1 HE.out HC.out ?_)) | go_values | go_skip | go_guarded | go_step | go_upon | (simp only [Int.not_lt, Int.not_le] at *; go_simp))
    refine (HK.out _).mono ?_
    rintro r u ⟨rfl, hv⟩
    replace hM := hM.call hv
    clear hv
    repeat' (first | go_values | go_skip | go_guarded | go_step | go_upon | (simp only [Int.not_lt, Int.not_le] at *; go_simp))
    refine (HS.out _).mono ?_
    rintro r u ⟨rfl, rfl⟩
    repeat' (first | go_values | go_skip | go_guarded | go_step | go_upon | (simp only [Int.not_lt, Int.not_le] at *; go_simp))
    refine (HN.out _).mono ?_
    rintro r u ⟨rfl, rfl⟩
    repeat' (first | (go_big_may; first | (refine a_get rfl rfl rfl hM.at1 HG.out ?_) | (refine a_put rfl rfl rfl rfl hM.at1 HJ.out ?_; intro u hv hc; replace hM := hM.put1 hc hv; clear hv hc; rw [HF.out] at hM) | (refine a_load rfl rfl row_board rfl hM.at1 HE2.out HC2.out ?_) | (refine a_fill rfl rfl row_board rfl rfl hM.at0 HL2.out rep_594 ?_; intro u hv hc; replace hM := hM.put0 hc hv; clear hv hc)) | go_values | go_skip | go_guarded | go_step | go_upon | (simp only [Int.not_lt, Int.not_le] at *; go_simp))
    exact bodyPost_ret (ret_1 Try.results48 rfl (ld_var row_board hM.at0 HL2.out)) rfl ⟨rfl, hM.below⟩
  · have HQ : Hid (hlt B (m : Int) (j : Int) = B) := by
      show _ = _
      unfold hlt en
      rw [htm, htj, if_neg (fun h => h1 h.2.2.2)]
    have e1 : (cl (sl B m) (2 + j) == 1) = false := by simpa using h1
    rw [HQ.out]
    clear hb hE hw hsn hee htm htj h1 HQ
    go_enter Try.func48, Try.ntmps48
    repeat' (first | (go_big_may; first | (refine a_box rfl rfl rfl ?_; intro u zb hN; replace hM := hM.new hN; clear hN) | (refine a_alloc rfl zer_board rfl ?_; intro u zb hN; replace hM := hM.new hN; clear hN) | (refine a_load rfl rfl row_board rfl hM.at1 HE.out HC.out ?_)) | go_values | go_skip | go_guarded | go_step | go_upon | (simp only [Int.not_lt, Int.not_le] at *; go_simp))
    refine (HK.out _).mono ?_
    rintro r u ⟨rfl, hv⟩
    replace hM := hM.call hv
    clear hv
    repeat' (first | go_values | go_skip | go_guarded | go_step | go_upon | (simp only [Int.not_lt, Int.not_le] at *; go_simp))
    refine (HS.out _).mono ?_
    rintro r u ⟨rfl, rfl⟩
    repeat' (first | go_values | go_skip | go_guarded | go_step | go_upon | (simp only [Int.not_lt, Int.not_le] at *; go_simp))
    refine (HN.out _).mono ?_
    rintro r u ⟨rfl, rfl⟩
    repeat' (first | (go_big_may; first | (refine a_get rfl rfl rfl hM.at1 HG.out ?_) | (refine a_load rfl rfl row_board rfl hM.at1 HE.out HC.out ?_) | (refine a_fill rfl rfl row_board rfl rfl hM.at0 HL.out rep_594 ?_; intro u hv hc; replace hM := hM.put0 hc hv; clear hv hc)) | go_values | go_skip | go_guarded | go_step | go_upon | (simp only [Int.not_lt, Int.not_le] at *; go_simp))
    exact bodyPost_ret (ret_1 Try.results48 rfl (ld_var row_board hM.at0 HL.out)) rfl ⟨rfl, hM.below⟩
theorem bld_C1 (k : Int) (w : World) : (Instr.build 23 #[(0, .int .i64 k)]).run Try.prog w = .ok (ag [k, 0, 0, 0]) w := by kernel_rfl
theorem bld_C2 (k n : Int) (w : World) : (Instr.build 23 #[(0, .int .i64 k), (1, .int .i64 n)]).run Try.prog w = .ok (ag [k, n, 0, 0]) w := by kernel_rfl
theorem bld_C3 (k n a : Int) (w : World) : (Instr.build 23 #[(0, .int .i64 k), (1, .int .i64 n), (3, .int .i64 a)]).run Try.prog w = .ok (ag [k, n, 0, a]) w := by kernel_rfl
theorem bld_Ce (k n e : Int) (w : World) : (Instr.build 23 #[(0, .int .i64 k), (1, .int .i64 n), (2, .int .i64 e)]).run Try.prog w = .ok (ag [k, n, e, 0]) w := by kernel_rfl
theorem bld_C4 (k n e a : Int) (w : World) : (Instr.build 23 #[(0, .int .i64 k), (1, .int .i64 n), (2, .int .i64 e), (3, .int .i64 a)]).run Try.prog w = .ok (ag [k, n, e, a]) w := by kernel_rfl
theorem bld_zB (w : World) : (Instr.build 41 #[]).run Try.prog w = .ok (ag (fl zB)) w := by rw [zB_fl]; exact bld_B w
end Go.Proofs.Ythjmcopknkemnaa.slots
