/- SlotsBack: a slot that is put on and off again. -/
import Derived.Test.YtfhlbndilkidhaaSltL
import Derived.Test.YtfhlbndilkidhaaSltS
namespace Go.Proofs.Ytfhlbndilkidhaa.slotsBack
open Go Go.RowKit Go.Proofs.Ytfhlbndilkidhaa.slots
set_option linter.unusedVariables false
set_option linter.unusedSimpArgs false
set_option maxRecDepth 100000

set_option maxHeartbeats 8000000 in
theorem walk (B : Bd) (w : World) (hw : Wf B) : Calls Try.prog 7 #[ag (fl B)] w fun e w' => e = .returned (.bool true) ∧ Below w.heap.size w w' := by
  have HL : Hid ((fl B).length = 594) := hw.length
  have HE : Hid (0 + 594 ≤ (fl B).length) := by show 0 + 594 ≤ _; rw [hw.length]; omega
  have HC : Hid (cut (fl B) 0 594 = fl B) := cut_all hw.length
  have hx : Wf (doB B 2 0 0 0).B := do_wf hw
  have HLx : Hid ((fl (doB B 2 0 0 0).B).length = 594) := hx.length
  have HEx : Hid (0 + 594 ≤ (fl (doB B 2 0 0 0).B).length) := by show 0 + 594 ≤ _; rw [hx.length]; omega
  have HCx : Hid (cut (fl (doB B 2 0 0 0).B) 0 594 = fl (doB B 2 0 0 0).B) := cut_all hx.length
  have HD : Hid (∀ u, Calls Try.prog 9 #[ag (fl B), ag [2, 0, 0, 0]] u fun r w' => r = .returned (.tuple #[ag (fl (doB B 2 0 0 0).B), .int .i64 (doB B 2 0 0 0).c, .int .i64 (doB B 2 0 0 0).n]) ∧ Below u.heap.size u w') := fun u => do_any B 2 0 0 0 u hw (by omega) (by omega)
  have HV : Hid (∀ u, Calls Try.prog 15 #[] u fun e w' => e = .returned (.bool true) ∧ Below u.heap.size u w') := lives_any
  have hb2 := bld_C1 2
  have hb3 := bld_C2 3
  have hM := Mm.nil w
  by_cases hc : ¬ (doB B 2 0 0 0).c = 1
  · have HX : Hid (fl (doB B 2 0 0 0).B = fl B) := by show _ = _; rw [do_no hw hc]
    have e1 : ((doB B 2 0 0 0).c != 1) = true := by simpa using hc
    have e2 : decide (fl (doB B 2 0 0 0).B = fl B) = true := decide_eq_true HX.out
    clear hc hw hx HX
    generalize doB B 2 0 0 0 = X at *
    generalize hF : fl B = F at *
    obtain ⟨G, hG⟩ : ∃ G, fl X.B = G := ⟨_, rfl⟩
    rw [hG] at HLx HEx HCx HD e2
    clear hF hG
    go_enter Try.func7, Try.ntmps7
    repeat' (first | (go_big_may; first | (refine a_box rfl rfl rfl ?_; intro u zb hN; replace hM := hM.new hN; clear hN) | (refine a_load rfl rfl row_board rfl hM.at0 HE.out HC.out ?_) | (refine a_build rfl rfl hb2 (by simp [Act.eval]) ?_)) | go_values | go_skip | go_guarded | go_step | go_upon | (simp only [Int.not_lt, Int.not_le] at *; go_simp))
    refine (HD.out _).mono ?_
    rintro r u ⟨rfl, hv⟩
    replace hM := hM.call hv
    clear hv
    repeat' (first | (go_big_may; first | (refine a_alloc rfl zer_board rfl ?_; intro u zb hN; replace hM := hM.new hN; clear hN) | (refine a_fill rfl rfl row_board rfl rfl hM.at0 HLx.out rep_594 ?_; intro u hv hc; replace hM := hM.put0 hc hv; clear hv hc)) | go_values | go_skip | go_guarded | go_step | go_upon | (simp only [Int.not_lt, Int.not_le] at *; go_simp))
    refine (HV.out _).mono ?_
    rintro r u ⟨rfl, hv⟩
    replace hM := hM.call hv
    clear hv
    repeat' (first | go_values | go_skip | go_guarded | go_step | go_upon | (simp only [Int.not_lt, Int.not_le] at *; go_simp))
    refine (HV.out _).mono ?_
    rintro r u ⟨rfl, hv⟩
    replace hM := hM.call hv
    clear hv
    repeat' (first | (go_big_may; first | (refine a_load rfl rfl row_board rfl hM.at0 HEx.out HCx.out ?_) | (refine a_load rfl rfl row_board rfl hM.at1 HE.out HC.out ?_) | (refine a_eql rfl rfl cmp_board rfl rfl HLx.out HL.out ?_; rw [e2])) | go_values | go_skip | go_guarded | go_step | go_upon | (simp only [Int.not_lt, Int.not_le] at *; go_simp))
    go_ret
    exact ⟨rfl, hM.below⟩
  have hc : (doB B 2 0 0 0).c = 1 := by omega
  have hy := back_y hw hc
  have HDy : Hid (∀ u, Calls Try.prog 9 #[ag (fl (doB B 2 0 0 0).B), ag [3, (doB B 2 0 0 0).n, 0, 0]] u fun r w' => r = .returned (.tuple #[ag (fl B), .int .i64 1, .int .i64 (doB B 2 0 0 0).n]) ∧ Below u.heap.size u w') := fun u => by
    have := do_any (doB B 2 0 0 0).B 3 (doB B 2 0 0 0).n 0 0 u hx (by omega) (by omega)
    rw [hy] at this
    exact this
  rw [hc] at HD
  clear hc hw hx hy
  generalize (doB B 2 0 0 0).n = m at *
  generalize fl (doB B 2 0 0 0).B = G at *
  generalize fl B = F at *
  go_enter Try.func7, Try.ntmps7
  repeat' (first | (go_big_may; first | (refine a_box rfl rfl rfl ?_; intro u zb hN; replace hM := hM.new hN; clear hN) | (refine a_load rfl rfl row_board rfl hM.at0 HE.out HC.out ?_) | (refine a_build rfl rfl hb2 (by simp [Act.eval]) ?_)) | go_values | go_skip | go_guarded | go_step | go_upon | (simp only [Int.not_lt, Int.not_le] at *; go_simp))
  refine (HD.out _).mono ?_
  rintro r u ⟨rfl, hv⟩
  replace hM := hM.call hv
  clear hv
  repeat' (first | (go_big_may; first | (refine a_alloc rfl zer_board rfl ?_; intro u zb hN; replace hM := hM.new hN; clear hN) | (refine a_fill rfl rfl row_board rfl rfl hM.at0 HLx.out rep_594 ?_; intro u hv hc; replace hM := hM.put0 hc hv; clear hv hc)) | go_values | go_skip | go_guarded | go_step | go_upon | (simp only [Int.not_lt, Int.not_le] at *; go_simp))
  refine (HV.out _).mono ?_
  rintro r u ⟨rfl, hv⟩
  replace hM := hM.call hv
  clear hv
  repeat' (first | (go_big_may; first | (refine a_load rfl rfl row_board rfl hM.at0 HEx.out HCx.out ?_) | (refine a_build rfl rfl (hb3 m) (by simp [Act.eval]) ?_)) | go_values | go_skip | go_guarded | go_step | go_upon | (simp only [Int.not_lt, Int.not_le] at *; go_simp))
  refine (HDy.out _).mono ?_
  rintro r u ⟨rfl, hv⟩
  replace hM := hM.call hv
  clear hv
  repeat' (first | (go_big_may; first | (refine a_alloc rfl zer_board rfl ?_; intro u zb hN; replace hM := hM.new hN; clear hN) | (refine a_fill rfl rfl row_board rfl rfl hM.at0 HL.out rep_594 ?_; intro u hv hc; replace hM := hM.put0 hc hv; clear hv hc) | (refine a_load rfl rfl row_board rfl hM.at0 HE.out HC.out ?_) | (refine a_build rfl rfl hb2 (by simp [Act.eval]) ?_)) | go_values | go_skip | go_guarded | go_step | go_upon | (simp only [Int.not_lt, Int.not_le] at *; go_simp))
  refine (HD.out _).mono ?_
  rintro r u ⟨rfl, hv⟩
  replace hM := hM.call hv
  clear hv
  repeat' (first | (go_big_may; first | (refine a_alloc rfl zer_board rfl ?_; intro u zb hN; replace hM := hM.new hN; clear hN) | (refine a_fill rfl rfl row_board rfl rfl hM.at0 HLx.out rep_594 ?_; intro u hv hc; replace hM := hM.put0 hc hv; clear hv hc) | (refine a_load rfl rfl row_board rfl hM.at0 HEx.out HCx.out ?_) | (refine a_load rfl rfl row_board rfl hM.at1 HE.out HC.out ?_) | (refine a_load rfl rfl row_board rfl hM.at2 HEx.out HCx.out ?_) | (refine a_load rfl rfl row_board rfl hM.at3 HE.out HC.out ?_) | (refine a_eql rfl rfl cmp_board rfl rfl HL.out HL.out ?_; rw [decide_eq_true (rfl : F = F)]) | (refine a_eql rfl rfl cmp_board rfl rfl HLx.out HLx.out ?_; rw [decide_eq_true (rfl : G = G)])) | go_values | go_skip | go_guarded | go_step | go_upon | (simp only [Int.not_lt, Int.not_le] at *; go_simp))
  go_ret
  exact ⟨rfl, hM.below⟩
end Go.Proofs.Ytfhlbndilkidhaa.slotsBack
