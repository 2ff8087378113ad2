/- SlotsHeal: an endpoint that halts is healed. -/
import Derived.Test.YtfhlbndilkidhabSltL
import Derived.Test.YtfhlbndilkidhabSltX
import Derived.Test.YtfhlbndilkidhabSltO
namespace Go.Proofs.Ytfhlbndilkidhab.slotsHeal
open Go Go.RowKit Go.Proofs.Ytfhlbndilkidhab.slots
set_option linter.unusedVariables false
set_option linter.unusedSimpArgs false
set_option maxRecDepth 100000

theorem bld_3 (w : World) : (Instr.build 34 #[(0, .int .i64 6), (1, .int .i64 8), (2, .int .i64 9)]).run Try.prog w = .ok (ag [6, 8, 9]) w := by kernel_rfl
def kd (j : Nat) : Int := ([6, 8, 9] : List Int).getD j 0
theorem ix_0 (w : World) : (Instr.index 34 (ag [6, 8, 9]) (.int .i64 0)).run Try.prog w = .ok (.int .i64 6) w := by kernel_rfl
theorem ix_1 (w : World) : (Instr.index 34 (ag [6, 8, 9]) (.int .i64 1)).run Try.prog w = .ok (.int .i64 8) w := by kernel_rfl
theorem ix_2 (w : World) : (Instr.index 34 (ag [6, 8, 9]) (.int .i64 2)).run Try.prog w = .ok (.int .i64 9) w := by kernel_rfl
theorem run_index3 (k : Nat) (hk : k < 3) (w : World) : (Instr.index 34 (ag [6, 8, 9]) (.int .i64 (k : Int))).run Try.prog w = .ok (.int .i64 (kd k)) w := by
  have h : k = 0 ∨ k = 1 ∨ k = 2 := by omega
  rcases h with rfl | rfl | rfl
  · exact ix_0 w
  · exact ix_1 w
  · exact ix_2 w
set_option maxHeartbeats 16000000 in
theorem walk0 (B : Bd) (n e v : Int) (w : World) (hw : Wf B) (hv1 : -9223372036854775808 ≤ v) (hv2 : v ≤ 9223372036854775807) : Calls Try.prog 3 #[ag (fl B), .int .i64 n, .int .i64 e, .int .i64 v] w fun r w' => r = .returned (.bool true) ∧ Below w.heap.size w w' := by
  have HL : Hid ((fl B).length = 594) := hw.length
  have HE : Hid (0 + 594 ≤ (fl B).length) := by show 0 + 594 ≤ _; rw [hw.length]; omega
  have HC : Hid (cut (fl B) 0 594 = fl B) := cut_all hw.length
  have hx : Wf (hlt B n e) := hlt_wf hw
  have HLx : Hid ((fl (hlt B n e)).length = 594) := hx.length
  have HEx : Hid (0 + 594 ≤ (fl (hlt B n e)).length) := by show 0 + 594 ≤ _; rw [hx.length]; omega
  have HCx : Hid (cut (fl (hlt B n e)) 0 594 = fl (hlt B n e)) := cut_all hx.length
  have HH : Hid (∀ u, Calls Try.prog 5 #[ag (fl B), .int .i64 n, .int .i64 e] u fun r w' => r = .returned (ag (fl (hlt B n e))) ∧ Below u.heap.size u w') := fun u => halt_any B n e u hw
  have HV : Hid (∀ u, Calls Try.prog 6 #[] u fun e w' => e = .returned (.bool true) ∧ Below u.heap.size u w') := lives_any
  have hM := Mm.nil w
  by_cases hq : ¬ (chk B = true ∧ slB n = true ∧ edB e = true ∧ en (sl B n.toNat) e.toNat = 1)
  · have HX : Hid (hlt B n e = B) := by show _ = _; unfold hlt; rw [if_neg hq]
    have e2 : decide (fl (hlt B n e) = fl B) = true := decide_eq_true (by rw [HX.out])
    clear hq hw hx HX hv1 hv2
    generalize fl (hlt B n e) = G at *
    generalize fl B = F at *
    go_enter Try.func3, Try.ntmps3
    repeat' (first | (go_big_may; first | (refine a_box rfl rfl rfl ?_; intro u zb hN; replace hM := hM.new hN; clear hN) | (refine a_load rfl rfl row_board rfl hM.at0 HE.out HC.out ?_)) | go_values | go_skip | go_guarded | go_step | go_upon | (simp only [Int.not_lt, Int.not_le] at *; go_simp))
    refine (HH.out _).mono ?_
    rintro r u ⟨rfl, hv⟩
    replace hM := hM.call hv
    clear hv
    repeat' (first | (go_big_may; first | (refine a_alloc rfl zer_board rfl ?_; intro u zb hN; replace hM := hM.new hN; clear hN) | (refine a_fill rfl rfl row_board rfl rfl hM.at0 HLx.out rep_594 ?_; intro u hv hc; replace hM := hM.put0 hc hv; clear hv hc)) | go_values | go_skip | go_guarded | go_step | go_upon | (simp only [Int.not_lt, Int.not_le] at *; go_simp))
    refine (HV.out _).mono ?_
    rintro r u ⟨rfl, hv⟩
    replace hM := hM.call hv
    clear hv
    repeat' (first | (go_big_may; first | (refine a_load rfl rfl row_board rfl hM.at0 HEx.out HCx.out ?_) | (refine a_load rfl rfl row_board rfl hM.at1 HE.out HC.out ?_) | (refine a_eql rfl rfl cmp_board rfl rfl HLx.out HL.out ?_; rw [e2])) | go_values | go_skip | go_guarded | go_step | go_upon | (simp only [Int.not_lt, Int.not_le] at *; go_simp))
    refine (HV.out _).mono ?_
    rintro r u ⟨rfl, hv⟩
    replace hM := hM.call hv
    clear hv
    repeat' (first | go_values | go_skip | go_guarded | go_step | go_upon | (simp only [Int.not_lt, Int.not_le] at *; go_simp))
    go_ret
    exact ⟨rfl, hM.below⟩
  have hq : chk B = true ∧ slB n = true ∧ edB e = true ∧ en (sl B n.toNat) e.toNat = 1 := by
    by_cases z : chk B = true ∧ slB n = true ∧ edB e = true ∧ en (sl B n.toNat) e.toNat = 1
    · exact z
    · exact absurd z hq
  obtain ⟨q1, q2, q3, q4⟩ := hq
  obtain ⟨m, hm1, hm2, rfl⟩ : ∃ m : Nat, 1 ≤ m ∧ m ≤ 8 ∧ n = m := ⟨n.toNat, (sl_in q2).1, (sl_in q2).2.1, (sl_in q2).2.2.symm⟩
  obtain ⟨j, hj1, hj2, rfl⟩ : ∃ j : Nat, 1 ≤ j ∧ j ≤ 31 ∧ e = j := ⟨e.toNat, (ed_in q3).1, (ed_in q3).2.1, (ed_in q3).2.2.symm⟩
  have htm : ((m : Int)).toNat = m := by omega
  have htj : ((j : Int)).toNat = j := by omega
  have hX : hlt B (m : Int) (j : Int) = B.set m ((sl B m).set (2 + j) 2) := by
    unfold hlt
    rw [if_pos ⟨q1, q2, q3, q4⟩, htm, htj]
  rw [htm, htj] at q4
  have hs := hw.sl (i := m) (by omega)
  rw [hX] at HLx HEx HCx HH hx
  have hne : fl (B.set m ((sl B m).set (2 + j) 2)) ≠ fl B := fun h => by
    have : en (sl (B.set m ((sl B m).set (2 + j) 2)) m) j = en (sl B m) j := by rw [fl_inj hx hw h]
    rw [sl_set hw.nine (by omega), if_pos rfl, en_set hs (by omega) (by omega), if_pos rfl, q4] at this
    omega
  have e2 : decide (fl (B.set m ((sl B m).set (2 + j) 2)) = fl B) = false := decide_eq_false hne
  have em1 : decide ((m : Int) < 1) = false := decide_eq_false (by omega)
  have em2 : decide ((m : Int) > 8) = false := decide_eq_false (by omega)
  have ej1 : decide ((j : Int) < 1) = false := decide_eq_false (by omega)
  have ej2 : decide ((j : Int) > 31) = false := decide_eq_false (by omega)
  by_cases hv : ¬ (0 ≤ v ∧ v ≤ 65535)
  · clear hw hx hX q1 q2 q3 q4 hs hne htm htj
    generalize fl (B.set m ((sl B m).set (2 + j) 2)) = G at *
    generalize fl B = F at *
    have ev : decide (v < 0) = true ∨ decide (v < 0) = false ∧ decide (v > 65535) = true := by
      by_cases z : v < 0
      · exact .inl (decide_eq_true z)
      · exact .inr ⟨decide_eq_false z, decide_eq_true (by omega)⟩
    clear hv
    rcases ev with e1 | ⟨e1, e3⟩
    all_goals
      go_enter Try.func3, Try.ntmps3
      repeat' (first | (go_big_may; first | (refine a_box rfl rfl rfl ?_; intro u zb hN; replace hM := hM.new hN; clear hN) | (refine a_load rfl rfl row_board rfl hM.at0 HE.out HC.out ?_)) | go_values | go_skip | go_guarded | go_step | go_upon | (simp only [Int.not_lt, Int.not_le] at *; go_simp))
      refine (HH.out _).mono ?_
      rintro r u ⟨rfl, hv⟩
      replace hM := hM.call hv
      clear hv
      repeat' (first | (go_big_may; first | (refine a_alloc rfl zer_board rfl ?_; intro u zb hN; replace hM := hM.new hN; clear hN) | (refine a_fill rfl rfl row_board rfl rfl hM.at0 HLx.out rep_594 ?_; intro u hv hc; replace hM := hM.put0 hc hv; clear hv hc)) | go_values | go_skip | go_guarded | go_step | go_upon | (simp only [Int.not_lt, Int.not_le] at *; go_simp))
      refine (HV.out _).mono ?_
      rintro r u ⟨rfl, hv⟩
      replace hM := hM.call hv
      clear hv
      repeat' (first | (go_big_may; first | (refine a_load rfl rfl row_board rfl hM.at0 HEx.out HCx.out ?_) | (refine a_load rfl rfl row_board rfl hM.at1 HE.out HC.out ?_) | (refine a_eql rfl rfl cmp_board rfl rfl HLx.out HL.out ?_; rw [e2])) | go_values | go_skip | go_guarded | go_step | go_upon | (simp only [Int.not_lt, Int.not_le] at *; go_simp))
      refine (HV.out _).mono ?_
      rintro r u ⟨rfl, hv⟩
      replace hM := hM.call hv
      clear hv
      repeat' (first | go_values | go_skip | go_guarded | go_step | go_upon | (simp only [Int.not_lt, Int.not_le] at *; go_simp))
      go_ret
      exact ⟨rfl, hM.below⟩
  have hv : 0 ≤ v ∧ v ≤ 65535 := by omega
  have ev1 : decide (v < 0) = false := decide_eq_false (by omega)
  have ev2 : decide (v > 65535) = false := decide_eq_false (by omega)
  have hok := (chk_iff hw).1 q1
  have hh := heals hw hok hm1 (by omega) hj1 (by omega) q4 hv.1 hv.2
  obtain ⟨Hs, hHs⟩ : ∃ Hs : Nat → Bd, Hs 0 = B.set m ((sl B m).set (2 + j) 2) ∧ Hs 1 = B.set m ((sl B m).set (2 + j) 3) ∧ Hs 2 = B.set m (((sl B m).set (2 + j) 3).set (34 + j) v) ∧ Hs 3 = B.set m ((sl B m).set (34 + j) v) :=
    ⟨fun i => if i = 0 then _ else if i = 1 then _ else if i = 2 then _ else _, rfl, rfl, rfl, rfl⟩
  have hHw : ∀ i, i ≤ 3 → Wf (Hs i) := fun i hi => by
    have h : i = 0 ∨ i = 1 ∨ i = 2 ∨ i = 3 := by omega
    rcases h with rfl | rfl | rfl | rfl
    · rw [hHs.1]; exact hw.set (by simp [hs])
    · rw [hHs.2.1]; exact hw.set (by simp [hs])
    · rw [hHs.2.2.1]; exact hw.set (by simp [hs])
    · rw [hHs.2.2.2]; exact hw.set (by simp [hs])
  have HHL : Hid (∀ i, i ≤ 3 → (fl (Hs i)).length = 594 ∧ 0 + 594 ≤ (fl (Hs i)).length ∧ cut (fl (Hs i)) 0 594 = fl (Hs i)) := fun i hi => ⟨(hHw i hi).length, by rw [(hHw i hi).length]; omega, cut_all (hHw i hi).length⟩
  have HDo : Hid (∀ i, i < 3 → ∀ u, Calls Try.prog 7 #[ag (fl (Hs i)), ag [kd i, (m : Int), (j : Int), v]] u fun r w' => r = .returned (.tuple #[ag (fl (Hs (i + 1))), .int .i64 1, .int .i64 (m : Int)]) ∧ Below u.heap.size u w') := fun i hi u => by
    have h : i = 0 ∨ i = 1 ∨ i = 2 := by omega
    have hd := do_any (Hs i) (kd i) (m : Int) (j : Int) v u (hHw i (by omega)) hv1 hv2
    rcases h with rfl | rfl | rfl
    · have e : doB (Hs 0) (kd 0) (m : Int) (j : Int) v = ⟨Hs 1, 1, (m : Int)⟩ := by rw [hHs.1, hHs.2.1]; exact hh.r6
      rw [e] at hd; exact hd
    · have e : doB (Hs 1) (kd 1) (m : Int) (j : Int) v = ⟨Hs 2, 1, (m : Int)⟩ := by rw [hHs.2.1, hHs.2.2.1]; exact hh.r8
      rw [e] at hd; exact hd
    · have e : doB (Hs 2) (kd 2) (m : Int) (j : Int) v = ⟨Hs 3, 1, (m : Int)⟩ := by rw [hHs.2.2.1, hHs.2.2.2]; exact hh.r9
      rw [e] at hd; exact hd
  have HDr : Hid (∀ u, Calls Try.prog 7 #[ag (fl (Hs 0)), ag [9, (m : Int), (j : Int), 0]] u fun r w' => r = .returned (.tuple #[ag (fl (doB (Hs 0) 9 (m : Int) (j : Int) 0).B), .int .i64 19, .int .i64 (doB (Hs 0) 9 (m : Int) (j : Int) 0).n]) ∧ Below u.heap.size u w') := fun u => by
    have hd := do_any (Hs 0) 9 (m : Int) (j : Int) 0 u (hHw 0 (by omega)) (by omega) (by omega)
    have e : (doB (Hs 0) 9 (m : Int) (j : Int) 0).c = 19 := by rw [hHs.1]; exact hh.ring
    unfold ansV at hd
    rw [e] at hd
    exact hd
  have HLr : Hid ((fl (doB (Hs 0) 9 (m : Int) (j : Int) 0).B).length = 594) := (do_wf (hHw 0 (by omega))).length
  have HWt : Hid ((fl B).set (m * 66 + 34 + j) v = fl (Hs 3)) := by show _ = _; rw [hHs.2.2.2, Nat.add_assoc]; exact fl_set hw (by omega) (by omega)
  have HJ : Hid (m * 66 + 34 + j < (fl B).length) := by show _ < _; rw [hw.length]; omega
  rw [← hHs.1] at HH HLx HEx HCx e2
  clear hw hx hX q1 q2 q3 q4 hs hne htm htj hok hh hHs hHw hv
  generalize fl (doB (Hs 0) 9 (m : Int) (j : Int) 0).B = R at *
  generalize (doB (Hs 0) 9 (m : Int) (j : Int) 0).n = rn at *
  generalize fl B = F at *
  have hb9 := bld_Ce 9 (m : Int) (j : Int)
  have hb3 := bld_3
  go_enter Try.func3, Try.ntmps3
  repeat' (first | (go_big_may; first | (refine a_box rfl rfl rfl ?_; intro u z0 hN; replace hM := hM.new hN; clear hN) | (refine a_load rfl rfl row_board rfl hM.at0 HE.out HC.out ?_)) | go_values | go_skip | go_guarded | go_step | go_upon | (simp only [Int.not_lt, Int.not_le] at *; go_simp))
  refine (HH.out _).mono ?_
  rintro r u ⟨rfl, hv⟩
  replace hM := hM.call hv
  clear hv
  repeat' (first | (go_big_may; first | (refine a_alloc rfl zer_board rfl ?_; intro u zh hN; replace hM := hM.new hN; clear hN) | (refine a_fill rfl rfl row_board rfl rfl hM.at0 HLx.out rep_594 ?_; intro u hv hc; replace hM := hM.put0 hc hv; clear hv hc)) | go_values | go_skip | go_guarded | go_step | go_upon | (simp only [Int.not_lt, Int.not_le] at *; go_simp))
  refine (HV.out _).mono ?_
  rintro r u ⟨rfl, hv⟩
  replace hM := hM.call hv
  clear hv
  go_upto_region 4 with (first | (refine a_load rfl rfl row_board rfl hM.at0 HEx.out HCx.out ?_) | (refine a_load rfl rfl row_board rfl hM.at1 HE.out HC.out ?_) | (refine a_eql rfl rfl cmp_board rfl rfl HLx.out HL.out ?_; rw [e2]))
  repeat' (first | (go_big_may; first | (refine a_load rfl rfl row_board rfl hM.at1 HE.out HC.out ?_) | (refine a_alloc rfl zer_board rfl ?_; intro u zw hN; replace hM := hM.new hN; clear hN) | (refine a_fill rfl rfl row_board rfl rfl hM.at0 HL.out rep_594 ?_; intro u hv hc; replace hM := hM.put0 hc hv; clear hv hc) | (refine a_put rfl rfl rfl rfl hM.at0 HJ.out ?_; intro u hv hc; replace hM := hM.put0 hc hv; clear hv hc; rw [HWt.out] at hM) | (refine a_load rfl rfl row_board rfl hM.at1 HEx.out HCx.out ?_) | (refine a_build rfl rfl hb9 (by simp [Act.eval]) ?_)) | go_values | go_skip | go_guarded | go_step | go_upon | (simp only [Int.not_lt, Int.not_le] at *; go_simp))
  refine (HDr.out _).mono ?_
  rintro r u ⟨rfl, hv⟩
  replace hM := hM.call hv
  clear hv
  repeat' (first | (go_big_may; first | (refine a_alloc rfl zer_board rfl ?_; intro u zr hN; replace hM := hM.new hN; clear hN) | (refine a_fill rfl rfl row_board rfl rfl hM.at0 HLr.out rep_594 ?_; intro u hv hc; replace hM := hM.put0 hc hv; clear hv hc) | (refine a_build rfl rfl hb3 (by simp [Act.eval]) ?_)) | go_values | go_skip | go_guarded | go_step | go_upon | (simp only [Int.not_lt, Int.not_le] at *; go_simp))
  have HM : Hid (Mm w u [(zr, 27, R), (zw, 27, fl (Hs 3)), (zh, 27, fl (Hs 0)), (z0, 27, F)]) := hM
  clear hM HH HV HDr HLr hb3 hb9 e2 HWt HJ
  go_loopw [15, 16, 73] (fun _ _ i wr => ∃ k : Nat, k ≤ 3 ∧ i = .int .i64 (k : Int) ∧ Hid (Mm w wr [(zr, 27, R), (zw, 27, fl (Hs 3)), (zh, 27, fl (Hs k)), (z0, 27, F)])) (fun _ _ i _ => 3 - (intOf i).toNat)
  case atStart => exact ⟨0, by omega, rfl, HM.out⟩
  case round =>
    obtain ⟨k, hk, rfl, HA⟩ := hrel
    have hM := HA.out
    clear HA HM
    obtain ⟨l1, l2, l3⟩ := HHL.out k hk
    have HL1 : Hid _ := l1
    have HL2 : Hid _ := l2
    have HL3 : Hid _ := l3
    clear l1 l2 l3
    by_cases hlt : ¬ k < 3
    · have hk3 : k = 3 := by omega
      subst hk3
      repeat' (first | (go_big_may; first | (refine a_load rfl rfl row_board rfl hM.at2 HL2.out HL3.out ?_) | (refine a_load rfl rfl row_board rfl hM.at1 HL2.out HL3.out ?_) | (refine a_eql rfl rfl cmp_board rfl rfl HL1.out HL1.out ?_; rw [decide_eq_true (rfl : fl (Hs 3) = fl (Hs 3))])) | go_values | go_skip | go_guarded | go_step | go_upon | (simp only [Int.not_lt, Int.not_le] at *; go_simp))
      go_ret
      exact ⟨rfl, hM.below⟩
    have hlt : k < 3 := by omega
    have hix := run_index3 k hlt
    have HD : Hid _ := HDo.out k hlt
    have hb4 := bld_C4 (kd k) (m : Int) (j : Int) v
    obtain ⟨l1, l2, l3⟩ := HHL.out (k + 1) (by omega)
    have HN1 : Hid _ := l1
    clear l1 l2 l3
    generalize kd k = kk at *
    repeat' (first | (go_big_may; first | (refine a_load rfl rfl row_board rfl hM.at2 HL2.out HL3.out ?_) | (refine a_build rfl rfl hb4 (by simp [Act.eval]) ?_)) | go_values | go_skip | go_guarded | go_step | go_upon | (simp only [Int.not_lt, Int.not_le] at *; go_simp))
    refine (HD.out _).mono ?_
    rintro r u ⟨rfl, hv⟩
    replace hM := hM.call hv
    clear hv
    repeat' (first | (go_big_may; first | (refine a_fill rfl rfl row_board rfl rfl hM.at2 HN1.out HL1.out ?_; intro u hv hc; replace hM := hM.put2 hc hv; clear hv hc)) | go_values | go_skip | go_guarded | go_step | go_upon | (simp only [Int.not_lt, Int.not_le] at *; go_simp))
    go_roundw
    case rel => exact ⟨k + 1, by omega, by go_num, hM⟩
    case measure => simp [intOf]; omega
theorem walk (B : Bd) (n e v : Int) (h1 : (Lit.int .i64 n).wf = true) (h2 : (Lit.int .i64 e).wf = true) (h3 : (Lit.int .i64 v).wf = true) (w : World) (hw : Wf B) : Calls Try.prog 3 #[ag (fl B), .int .i64 n, .int .i64 e, .int .i64 v] w fun r w' => r = .returned (.bool true) ∧ Below w.heap.size w w' :=
  walk0 B n e v w hw (Go.bounds_i64 h3).1 (Go.bounds_i64 h3).2
end Go.Proofs.Ytfhlbndilkidhab.slotsHeal
