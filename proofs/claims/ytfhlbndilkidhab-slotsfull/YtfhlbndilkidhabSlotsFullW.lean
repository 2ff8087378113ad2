/- SlotsFull: a slot can be put on just if one is off. -/
import Derived.Test.YtfhlbndilkidhabSltU
import Derived.Test.YtfhlbndilkidhabSltX
namespace Go.Proofs.Ytfhlbndilkidhab.slotsFull
open Go Go.RowKit Go.Proofs.Ytfhlbndilkidhab.slots
set_option linter.unusedVariables false
set_option linter.unusedSimpArgs false
set_option maxRecDepth 100000

set_option maxHeartbeats 16000000 in
theorem walk (v : Value) (T : List Cm) (w : World) (hv : Rcm w v T) : Calls Try.prog 4 #[v] w fun r w' => r = .returned (.bool true) ∧ Below w.heap.size w w' := by
  have HRn : Hid (Calls Try.prog 8 #[v] w fun r w' => r = .returned (.tuple #[ag (fl (go zB T)), .bool true]) ∧ Below w.heap.size w w') := run_any v T w hv
  have HV : Hid (∀ u, Calls Try.prog 6 #[] u fun e w' => e = .returned (.bool true) ∧ Below u.heap.size u w') := lives_any
  obtain ⟨hw, hok⟩ := go_fine (T := T) zB_wf zB_ok
  generalize go zB T = B at *
  obtain ⟨f1, f2, f3⟩ := full hw hok
  have HW : Hid (Wf B) := hw
  have HL : Hid ((fl B).length = 594) := hw.length
  have HE : Hid (0 + 594 ≤ (fl B).length) := by show 0 + 594 ≤ _; rw [hw.length]; omega
  have HC : Hid (cut (fl B) 0 594 = fl B) := cut_all hw.length
  have HLx : Hid ((fl (doB B 2 0 0 0).B).length = 594) := (do_wf hw).length
  have HD : Hid (∀ u, Calls Try.prog 7 #[ag (fl B), ag [2, 0, 0, 0]] u fun r w' => r = .returned (.tuple #[ag (fl (doB B 2 0 0 0).B), .int .i64 (doB B 2 0 0 0).c, .int .i64 (doB B 2 0 0 0).n]) ∧ Below u.heap.size u w') := fun u => do_any B 2 0 0 0 u hw (by omega) (by omega)
  have hb2 := bld_C1 2
  obtain ⟨q, hq⟩ : ∃ q, cnt B = q := ⟨_, rfl⟩
  have HQ : Hid (cnt B = q) := hq
  rw [hq] at f1 f2 f3
  have HF2 : Hid _ := f2
  have HF3 : Hid _ := f3
  clear hw hok hv hq f2 f3
  generalize fl (doB B 2 0 0 0).B = G at *
  generalize (doB B 2 0 0 0).c = xc at *
  generalize (doB B 2 0 0 0).n = xn at *
  obtain ⟨F, hF⟩ : ∃ F, fl B = F := ⟨_, rfl⟩
  have HF : Hid (fl B = F) := hF
  rw [hF] at HL HE HC HD HRn
  clear hF
  have hM := Mm.nil w
  go_enter Try.func4, Try.ntmps4
  repeat' (first | go_values | go_skip | go_guarded | go_step | go_upon | (simp only [Int.not_lt, Int.not_le] at *; go_simp))
  refine (HRn.out).mono ?_
  rintro r u ⟨rfl, hv⟩
  replace hM := hM.call hv
  clear hv
  repeat' (first | (go_big_may; first | (refine a_alloc rfl zer_board rfl ?_; intro u zb hN; replace hM := hM.new hN; clear hN) | (refine a_fill rfl rfl row_board rfl rfl hM.at0 HL.out rep_594 ?_; intro u hv hc; replace hM := hM.put0 hc hv; clear hv hc) | (refine a_load rfl rfl row_slots rfl hM.at0 HE.out HC.out ?_)) | go_values | go_skip | go_guarded | go_step | go_upon | (simp only [Int.not_lt, Int.not_le] at *; go_simp))
  have HM : Hid (Mm w u [(zb, 27, F)]) := hM
  clear hM HRn
  go_loopw [5, 7, 18] (fun c _ i wr => ∃ k n : Nat, k ≤ 9 ∧ i = .int .i64 (k : Int) ∧ c = .int .i64 (n : Int) ∧ Hid (n + cnt (B.drop k) = q ∧ Mm w wr [(zb, 27, F)])) (fun _ _ i _ => 9 - (intOf i).toNat)
  case atStart => exact ⟨0, 0, by omega, rfl, rfl, by rw [List.drop_zero, HQ.out]; exact Nat.zero_add _, HM.out⟩
  case round =>
    obtain ⟨k, n, hk, rfl, rfl, HA⟩ := hrel
    have hM := HA.out.2
    have hn : n ≤ 9 := by have := HA.out.1; omega
    clear HQ HM
    by_cases hlt : ¬ k < 9
    · have hnq : n = q := by
        have := HA.out.1
        rw [List.drop_eq_nil_of_le (by rw [HW.out.nine]; omega)] at this
        exact this
      subst hnq
      clear HA
      repeat' (first | (go_big_may; first | (refine a_load rfl rfl row_board rfl hM.at0 HE.out HC.out ?_) | (refine a_build rfl rfl hb2 (by simp [Act.eval]) ?_)) | go_values | go_skip | go_guarded | go_step | go_upon | (simp only [Int.not_lt, Int.not_le] at *; go_simp))
      refine (HD.out _).mono ?_
      rintro r u ⟨rfl, hv⟩
      replace hM := hM.call hv
      clear hv
      repeat' (first | (go_big_may; first | (refine a_alloc rfl zer_board rfl ?_; intro u zx hN; replace hM := hM.new hN; clear hN) | (refine a_fill rfl rfl row_board rfl rfl hM.at0 HLx.out rep_594 ?_; intro u hv hc; replace hM := hM.put0 hc hv; clear hv hc)) | go_values | go_skip | go_guarded | go_step | go_upon | (simp only [Int.not_lt, Int.not_le] at *; go_simp))
      refine (HV.out _).mono ?_
      rintro r u ⟨rfl, hv⟩
      replace hM := hM.call hv
      clear hv
      have q8 : decide ((n : Int) ≤ 8) = true := decide_eq_true (by omega)
      by_cases h8 : n = 8
      · have e1 : (xc == 9) = true := by have := HF2.out.2 h8; simpa using this
        have e2 : (xn == 0) = true := by have := HF3.out.2 h8; simpa using this
        have e3 : ((n : Int) == 8) = true := by simp; omega
        clear h8 HF2 HF3
        repeat' (first | go_values | go_skip | go_guarded | go_step | go_upon | (simp only [Int.not_lt, Int.not_le] at *; go_simp))
        go_ret
        exact ⟨rfl, hM.below⟩
      · have e1 : (xc == 9) = false := by simp; exact fun h => h8 (HF2.out.1 h)
        have e2 : (xn == 0) = false := by simp; exact fun h => h8 (HF3.out.1 h)
        have e3 : ((n : Int) == 8) = false := by simp; omega
        clear h8 HF2 HF3
        repeat' (first | go_values | go_skip | go_guarded | go_step | go_upon | (simp only [Int.not_lt, Int.not_le] at *; go_simp))
        go_ret
        exact ⟨rfl, hM.below⟩
    have hlt : k < 9 := by omega
    have hix := run_indexS F k hlt
    rw [← HF.out, fl_cut HW.out hlt, HF.out] at hix
    have HSL : Hid ((sl B k).length = 66) := HW.out.sl hlt
    have HG : Hid ((sl B k)[0]? = some (cl (sl B k) 0)) := cl_at (by rw [HSL.out]; omega)
    have HS := HA.out.1
    rw [cnt_step (by rw [HW.out.nine]; omega)] at HS
    have HS2 : Hid _ := HS
    clear HS HA
    by_cases hx : cl (sl B k) 0 = 0
    · have HS3 : Hid (n + cnt (B.drop (k + 1)) = q) := by
        have := HS2.out
        rw [if_pos hx] at this
        show _ = q
        omega
      have e0 : (cl (sl B k) 0 != 0) = false := by simpa using hx
      clear HS2 hx
      repeat' (first | (go_big_may; first | (refine a_alloc rfl zer_slot rfl ?_; intro u zs hN; replace hM := hM.new hN; clear hN) | (refine a_fill rfl rfl row_slot rfl rfl hM.at0 HSL.out List.length_replicate ?_; intro u hv hc; replace hM := hM.put0 hc hv; clear hv hc) | (refine a_get rfl rfl rfl hM.at0 HG.out ?_)) | go_values | go_skip | go_guarded | go_step | go_upon | (simp only [Int.not_lt, Int.not_le] at *; go_simp))
      go_roundw
      case rel => exact ⟨k + 1, n, by omega, by go_num, rfl, HS3.out, hM.tail⟩
      case measure => simp [intOf]; omega
    · have HS3 : Hid (n + 1 + cnt (B.drop (k + 1)) = q) := by
        have := HS2.out
        rw [if_neg hx] at this
        show _ = q
        omega
      have e0 : (cl (sl B k) 0 != 0) = true := by simpa using hx
      clear HS2 hx
      repeat' (first | (go_big_may; first | (refine a_alloc rfl zer_slot rfl ?_; intro u zs hN; replace hM := hM.new hN; clear hN) | (refine a_fill rfl rfl row_slot rfl rfl hM.at0 HSL.out List.length_replicate ?_; intro u hv hc; replace hM := hM.put0 hc hv; clear hv hc) | (refine a_get rfl rfl rfl hM.at0 HG.out ?_)) | go_values | go_skip | go_guarded | go_step | go_upon | (simp only [Int.not_lt, Int.not_le] at *; go_simp))
      go_roundw
      case rel => exact ⟨k + 1, n + 1, by omega, by go_num, by go_num, HS3.out, hM.tail⟩
      case measure => simp [intOf]; omega
end Go.Proofs.Ytfhlbndilkidhab.slotsFull
