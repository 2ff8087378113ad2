/- slots: what enable answers. -/
import Derived.Test.YthjmcopknkemnaaSltF
namespace Go.Proofs.Ythjmcopknkemnaa.slots
open Go Go.RowKit
set_option linter.unusedVariables false
set_option linter.unusedSimpArgs false
set_option maxRecDepth 100000

theorem z_one : z66.set 0 1 = one 1 := by decide
theorem fl_on {B : Bd} (h : Wf B) {k : Nat} (hk : k < 9) (hz : sl B k = z66) : (fl B).set (k * 66) 1 = fl (B.set k (one 1)) := by
  have := fl_set h (j := 0) (x := 1) hk (by omega)
  rw [Nat.add_zero, hz, z_one] at this
  exact this
theorem rep_594 : (List.replicate 594 (0 : Int)).length = 594 := List.length_replicate
set_option maxHeartbeats 4000000 in
theorem enable_any (B : Bd) (w : World) (hw : Wf B) : Calls Try.prog 54 #[ag (fl B)] w fun e w' => e = .returned (.tuple #[ag (fl (enb B).B), .int .i64 (enb B).c, .int .i64 (enb B).n]) ∧ Below w.heap.size w w' := by
  have HL : Hid ((fl B).length = 594) := hw.length
  have HE : Hid (0 + 594 ≤ (fl B).length) := by show 0 + 594 ≤ _; rw [hw.length]; omega
  have HC : Hid (cut (fl B) 0 594 = fl B) := cut_all hw.length
  have HW : Hid (Wf B) := hw
  have hM := Mm.nil w
  have hb := bld_0
  obtain ⟨q, hq⟩ : ∃ q, enb B = q := ⟨_, rfl⟩
  have HQ : Hid (enb B = q) := hq
  rw [hq]
  clear hq hw
  go_enter Try.func54, Try.ntmps54
  repeat' (first | (go_big_may; first | (refine a_box rfl rfl rfl ?_; intro u zb hN; replace hM := hM.new hN; clear hN) | (refine a_alloc rfl zer_board rfl ?_; intro u zb hN; replace hM := hM.new hN; clear hN)) | go_values | go_skip | go_guarded | go_step | go_upon | (simp only [Int.not_lt, Int.not_le] at *; go_simp))
  go_loopw [5] (fun i wr => ∃ k : Nat, 1 ≤ k ∧ k ≤ 9 ∧ i = .int .i64 (k : Int) ∧ u = wr ∧ Hid (∀ x, 1 ≤ x → x < k → sl B x ≠ z66)) (fun i _ => 9 - (intOf i).toNat)
  case atStart => exact ⟨1, by omega, by omega, rfl, rfl, fun x h1 h2 => by omega⟩
  case round =>
    obtain ⟨k, hk1, hk, rfl, rfl, HA⟩ := hrel
    by_cases hlt : ¬ k < 9
    · have HX : Hid ((⟨B, 9, 0⟩ : Ans) = q) := by
        show _ = q
        rw [← HQ.out]; unfold enb
        rw [fr_none (fun x h1 h2 => HA.out x h1 (by omega))]
        rfl
      clear HA HQ hb
      repeat' (first | (go_big_may; first | (refine a_load rfl rfl row_board rfl hM.at1 HE.out HC.out ?_) | (refine a_fill rfl rfl row_board rfl rfl hM.at0 HL.out rep_594 ?_; intro u hv hc; replace hM := hM.put0 hc hv; clear hv hc)) | go_values | go_skip | go_guarded | go_step | go_upon | (simp only [Int.not_lt, Int.not_le] at *; go_simp))
      rw [← HX.out]
      exact bodyPost_ret (ret_3 Try.results54 rfl (ld_var row_board hM.at0 HL.out) rfl rfl) rfl ⟨rfl, hM.below⟩
    have hlt : k < 9 := by omega
    have HSL : Hid ((sl B k).length = 66) := HW.out.sl hlt
    have HSC : Hid (cut (fl B) (k * 66) 66 = sl B k) := fl_cut HW.out hlt
    have HSE : Hid (k * 66 + 66 ≤ (fl B).length) := by show _ ≤ _; rw [HL.out]; omega
    by_cases hz : sl B k = z66
    · have HX : Hid ((⟨B.set k (one 1), 1, (k : Int)⟩ : Ans) = q) := by
        show _ = q
        rw [← HQ.out]; unfold enb
        rw [fr_some hk1 hlt hz (fun x h1 h2 => HA.out x h1 h2), if_pos (by omega)]
      have HF : Hid ((fl B).set (k * 66) 1 = fl (B.set k (one 1))) := fl_on HW.out hlt hz
      have HL2 : Hid ((fl (B.set k (one 1))).length = 594) := (HW.out.set (by simp [one])).length
      have HC2 : Hid (cut (fl (B.set k (one 1))) 0 594 = fl (B.set k (one 1))) := cut_all HL2.out
      have HE2 : Hid (0 + 594 ≤ (fl (B.set k (one 1))).length) := by show 0 + 594 ≤ _; rw [HL2.out]; omega
      have HK : Hid (k * 66 < (fl B).length) := by show _ < _; rw [HL.out]; omega
      have e0 : decide (sl B k = z66) = true := decide_eq_true hz
      have HX1 : Hid (fl q.B = fl (B.set k (one 1))) := by show fl q.B = _; rw [← HX.out]
      have HX2 : Hid (q.c = 1) := by show q.c = 1; rw [← HX.out]
      have HX3 : Hid (q.n = k) := by show q.n = k; rw [← HX.out]
      clear HA HQ hz HX
      generalize fl (B.set k (one 1)) = F2 at *
      repeat' (first | (go_big_may; first | (refine a_build rfl rfl hb (by simp [Act.eval]) ?_) | (refine a_load rfl rfl row_slot rfl hM.at1 HSE.out HSC.out ?_) | (refine a_eql rfl rfl cmp_slot rfl rfl HSL.out z_length ?_; rw [e0]) | (refine a_put rfl rfl rfl rfl hM.at1 HK.out ?_; intro u hv hc; replace hM := hM.put1 hc hv; clear hv hc; rw [HF.out] at hM) | (refine a_load rfl rfl row_board rfl hM.at1 HE2.out HC2.out ?_) | (refine a_fill rfl rfl row_board rfl rfl hM.at0 HL2.out rep_594 ?_; intro u hv hc; replace hM := hM.put0 hc hv; clear hv hc)) | go_values | go_skip | go_guarded | go_step | go_upon | (simp only [Int.not_lt, Int.not_le] at *; go_simp))
      rw [HX1.out, HX2.out, HX3.out]
      exact bodyPost_ret (ret_3 Try.results54 rfl (ld_var row_board hM.at0 HL2.out) rfl rfl) rfl ⟨rfl, hM.below⟩
    · have HA2 : Hid (∀ x, 1 ≤ x → x < k + 1 → sl B x ≠ z66) := fun x h1 h2 => by
        by_cases e : x = k
        · rw [e]; exact hz
        · exact HA.out x h1 (by omega)
      have e0 : decide (sl B k = z66) = false := decide_eq_false hz
      clear HA hz HQ
      repeat' (first | (go_big_may; first | (refine a_build rfl rfl hb (by simp [Act.eval]) ?_) | (refine a_load rfl rfl row_slot rfl hM.at1 HSE.out HSC.out ?_) | (refine a_eql rfl rfl cmp_slot rfl rfl HSL.out z_length ?_; rw [e0])) | go_values | go_skip | go_guarded | go_step | go_upon | (simp only [Int.not_lt, Int.not_le] at *; go_simp))
      go_roundw
      case rel => exact ⟨k + 1, by omega, by omega, by go_num, trivial, HA2.out⟩
      case measure => simp [intOf]; omega
end Go.Proofs.Ythjmcopknkemnaa.slots
