/- slots: what atSlot, Do and Halt answer. -/
import Derived.Test.YthjmcopknkemnaaSltJ
namespace Go.Proofs.Ythjmcopknkemnaa.slots
open Go Go.RowKit
set_option linter.unusedVariables false
set_option linter.unusedSimpArgs false
set_option maxRecDepth 100000

abbrev ansV (X : Ans) : Value := .tuple #[ag (fl X.B), .int .i64 X.c, .int .i64 X.n]
set_option maxHeartbeats 8000000 in
theorem atSlot_any (B : Bd) (k n e a : Int) (w : World) (hw : Wf B) (h1 : -9223372036854775808 ≤ a) (h2 : a ≤ 9223372036854775807) :
    Calls Try.prog 55 #[ag (fl B), ag [k, n, e, a]] w fun r w' => r = .returned (ansV (ats B k n e a)) ∧ Below w.heap.size w w' := by
  have HL : Hid ((fl B).length = 594) := hw.length
  have HE : Hid (0 + 594 ≤ (fl B).length) := by show 0 + 594 ≤ _; rw [hw.length]; omega
  have HC : Hid (cut (fl B) 0 594 = fl B) := cut_all hw.length
  have HK : Hid (∀ u, Calls Try.prog 73 #[.int .i64 n] u fun r w' => r = .returned (.bool (slB n)) ∧ u = w') := isSlot_any n
  have HQ1 : Hid (([k, n, e, a] : List Int)[1]? = some n) := rfl
  have hM := Mm.nil w
  by_cases hb : slB n = false
  · have HQ : Hid (ats B k n e a = ⟨B, 5, 0⟩) := by show _ = _; unfold ats; rw [if_pos hb]
    rw [hb] at HK
    clear hw hb
    go_enter Try.func55, Try.ntmps55
    repeat' (first | (go_big_may; first | (refine a_box rfl rfl rfl ?_; intro u zb hN; replace hM := hM.new hN; clear hN) | (refine a_alloc rfl zer_board rfl ?_; intro u zb hN; replace hM := hM.new hN; clear hN) | (refine a_get rfl rfl rfl hM.at1 HQ1.out ?_)) | go_values | go_skip | go_guarded | go_step | go_upon | (simp only [Int.not_lt, Int.not_le] at *; go_simp))
    refine (HK.out _).mono ?_
    rintro r u ⟨rfl, rfl⟩
    repeat' (first | (go_big_may; first | (refine a_load rfl rfl row_board rfl hM.at2 HE.out HC.out ?_) | (refine a_fill rfl rfl row_board rfl rfl hM.at0 HL.out rep_594 ?_; intro u hv hc; replace hM := hM.put0 hc hv; clear hv hc)) | go_values | go_skip | go_guarded | go_step | go_upon | (simp only [Int.not_lt, Int.not_le] at *; go_simp))
    rw [HQ.out]
    exact bodyPost_ret (ret_3 Try.results55 rfl (ld_var row_board hM.at0 HL.out) rfl rfl) rfl ⟨rfl, hM.below⟩
  have hb : slB n = true := by simpa using hb
  rw [hb] at HK
  obtain ⟨m, hm1, hm2, rfl⟩ : ∃ m : Nat, 1 ≤ m ∧ m ≤ 8 ∧ n = m := ⟨n.toNat, (sl_in hb).1, (sl_in hb).2.1, (sl_in hb).2.2.symm⟩
  have ht : ((m : Int)).toNat = m := by omega
  have HBE : Hid (∀ u, Calls Try.prog 79 #[ag (fl B), ag [k, (m : Int), e, a]] u fun r w' => r = .returned (.tuple #[ag (beh (sl B m) (la B : Int) k e a).1, .int .i64 (beh (sl B m) (la B : Int) k e a).2]) ∧ Below u.heap.size u w') := fun u => behind_any B k e a m u hw hm1 hm2 h1 h2
  have HX : Hid (ats B k (m : Int) e a = ⟨B.set m (beh (sl B m) (la B : Int) k e a).1, (beh (sl B m) (la B : Int) k e a).2, (m : Int)⟩) := by show _ = _; unfold ats; rw [hb, if_neg (by simp), ht]
  have A1 : Hid ((beh (sl B m) (la B : Int) k e a).1.length = 66) := beh_length (hw.sl (by omega))
  have HP : Hid (putL (fl B) (m * 66) (beh (sl B m) (la B : Int) k e a).1 = fl (B.set m (beh (sl B m) (la B : Int) k e a).1)) := fl_put hw (by omega) A1.out
  have HL2 : Hid ((fl (B.set m (beh (sl B m) (la B : Int) k e a).1)).length = 594) := (hw.set A1.out).length
  have HSE : Hid (m * 66 + 66 ≤ (fl B).length) := by show _ ≤ _; rw [hw.length]; omega
  generalize beh (sl B m) (la B : Int) k e a = y at *
  obtain ⟨y1, y2⟩ := y
  simp only at HX A1 HP HL2 HBE
  rw [HX.out]
  have HC2 : Hid (cut (fl (B.set m y1)) 0 594 = fl (B.set m y1)) := cut_all HL2.out
  have HE2 : Hid (0 + 594 ≤ (fl (B.set m y1)).length) := by show 0 + 594 ≤ _; rw [HL2.out]; omega
  have HY6 : Hid (cut y1 0 66 = y1) := cut_all A1.out
  have HYE : Hid (0 + 66 ≤ y1.length) := by show 0 + 66 ≤ _; rw [A1.out]; omega
  have HC4 : Hid (cut [k, (m : Int), e, a] 0 4 = [k, (m : Int), e, a]) := rfl
  have HE4 : Hid (0 + 4 ≤ ([k, (m : Int), e, a] : List Int).length) := Nat.le_refl _
  obtain ⟨F2, hF2⟩ : ∃ F2, fl (B.set m y1) = F2 := ⟨_, rfl⟩
  have HF2 : Hid (fl (B.set m y1) = F2) := hF2
  rw [hF2] at HP HL2 HC2 HE2
  clear hF2
  generalize fl B = F at *
  clear hw hb ht h1 h2 HX
  go_enter Try.func55, Try.ntmps55
  repeat' (first | (go_big_may; first | (refine a_box rfl rfl rfl ?_; intro u zc hN; replace hM := hM.new hN; clear hN) | (refine a_alloc rfl zer_board rfl ?_; intro u zr hN; replace hM := hM.new hN; clear hN) | (refine a_get rfl rfl rfl hM.at1 HQ1.out ?_)) | go_values | go_skip | go_guarded | go_step | go_upon | (simp only [Int.not_lt, Int.not_le] at *; go_simp))
  refine (HK.out _).mono ?_
  rintro r u ⟨rfl, rfl⟩
  repeat' (first | (go_big_may; first | (refine a_load rfl rfl row_board rfl hM.at2 HE.out HC.out ?_) | (refine a_load rfl rfl row_cmd rfl hM.at1 HE4.out HC4.out ?_)) | go_values | go_skip | go_guarded | go_step | go_upon | (simp only [Int.not_lt, Int.not_le] at *; go_simp))
  refine (HBE.out _).mono ?_
  rintro r u5 ⟨rfl, hv⟩
  replace hM := hM.call hv
  clear hv
  repeat' (first | (go_big_may; first | (refine a_alloc rfl zer_slot rfl ?_; intro u zs hN; replace hM := hM.new hN; clear hN) | (refine a_fill rfl rfl row_slot rfl rfl hM.at0 A1.out List.length_replicate ?_; intro u hv hc; replace hM := hM.put0 hc hv; clear hv hc) | (refine a_get rfl rfl rfl hM.at2 HQ1.out ?_) | (refine a_load rfl rfl row_slot rfl hM.at0 HYE.out HY6.out ?_) | (refine a_store rfl rfl row_slot rfl rfl hM.at3 A1.out HSE.out HP.out ?_; intro u6 hv hc; replace hM := hM.put3 hc hv; clear hv hc)) | go_values | go_skip | go_guarded | go_step | go_upon | (simp only [Int.not_lt, Int.not_le] at *; go_simp))
  go_simp
  rename_i _ _ zbd _ _ _ _ _
  refine wp_abs (fun a0 => a0.tmps.size = 29 ∧ (∀ h, a0.tmps[2]'h = .pointer (some ⟨zbd, 0, none⟩)) ∧ (∀ h, a0.tmps[3]'h = .pointer (some ⟨zc, 0, none⟩)) ∧ (∀ h, a0.tmps[4]'h = .pointer (some ⟨zr, 0, none⟩)) ∧ (∀ h, a0.tmps[8]'h = .int .i64 y2)) ⟨rfl, fun _ => rfl, fun _ => rfl, fun _ => rfl, fun _ => rfl⟩ ?_
  rintro a0 ⟨hsz, s2, s3, s4, s8⟩ ha0
  refine wp_region_held (S := fun W => ∃ l : List Int, l.length = 594 ∧ Mm w W [(zs, 38, y1), (zr, 41, l), (zc, 23, [k, (m : Int), e, a]), (zbd, 41, F2)]) (by kernel_rfl) ?_
  have hd : Mm w u6.drew _ := ⟨hM.lies, hM.own, hM.ap, hM.below.drew⟩
  have hS0 : ∃ l : List Int, l.length = 594 ∧ Mm w u6.drew [(zs, 38, y1), (zr, 41, l), (zc, 23, [k, (m : Int), e, a]), (zbd, 41, F2)] := ⟨_, rep_594, hd⟩
  refine h_take (i := 0) (ag F2) rfl (by kernel_rfl) (by kernel_rfl) (by kernel_rfl) (fun _ _ _ h => h) rfl hS0 (fun W hW => by
    obtain ⟨l, hl, hm⟩ := hW
    exact ex_load rfl row_board (by simp [go_sem, Act.put, hsz, s2]) hm.at3 HE2.out HC2.out) ?_
  refine h_take (i := 1) (.int .i64 y2) rfl (by kernel_rfl) (by kernel_rfl) (by kernel_rfl) (fun _ _ _ h => h) rfl hS0 (fun W hW => by simp [execOp, go_sem, Act.put, hsz, s2, s3, s4, s8]) ?_
  refine h_take (i := 2) (.pointer (some ⟨zc, 1, none⟩)) rfl (by kernel_rfl) (by kernel_rfl) (by kernel_rfl) (fun _ _ _ h => h) rfl hS0 (fun W hW => by simp [execOp, go_sem, Act.put, hsz, s2, s3, s4, s8]) ?_
  refine h_take (i := 3) (.int .i64 (m : Int)) rfl (by kernel_rfl) (by kernel_rfl) (by kernel_rfl) (fun _ _ _ h => h) rfl hS0 (fun W hW => by
    obtain ⟨l, hl, hm⟩ := hW
    exact ex_get rfl (by simp [go_sem, Act.put, hsz]) hm.at2 HQ1.out) ?_
  refine h_fill (i := 4) rfl (by kernel_rfl) rfl rfl row_board (by simp [go_sem, Act.put, hsz, s4]) (by simp [go_sem, Act.put, hsz]) hd.at1 HL2.out rep_594 (fun u3 hl3 hc3 => ?_)
  have hd3 := hd.put1 hc3 hl3
  refine ⟨⟨_, HL2.out, hd3⟩, ?_⟩
  have hS3 : ∃ l : List Int, l.length = 594 ∧ Mm w u3 [(zs, 38, y1), (zr, 41, l), (zc, 23, [k, (m : Int), e, a]), (zbd, 41, F2)] := ⟨_, HL2.out, hd3⟩
  refine h_take (i := 5) (.int .i64 y2) rfl (by kernel_rfl) (by kernel_rfl) (by kernel_rfl) (fun _ _ _ h => h) rfl hS3 (fun W hW => by simp [execOp, go_sem, Act.put, hsz, s2, s3, s4, s8]) ?_
  refine h_take (i := 6) (.int .i64 (m : Int)) rfl (by kernel_rfl) (by kernel_rfl) (by kernel_rfl) (fun _ _ _ h => h) rfl hS3 (fun W hW => by simp [execOp, go_sem, Act.put, hsz, s2, s3, s4, s8]) ?_
  refine wpAnyH_done (by kernel_rfl) ?_ _
  subst ha0
  clear hsz s2 s3 s4 s8 hS0 hS3 hd hM
  go_simp
  repeat' (first | go_values | go_skip | go_guarded | go_step | go_upon | (simp only [Int.not_lt, Int.not_le] at *; go_simp))
  exact bodyPost_ret (ret_3 Try.results55 rfl (ld_var row_board hd3.at1 HL2.out) rfl rfl) rfl ⟨by show _ = Ending.returned (.tuple #[ag (fl (B.set m y1)), _, _]); rw [HF2.out]; rfl, hd3.below⟩
set_option maxHeartbeats 8000000 in
theorem do_any (B : Bd) (k n e a : Int) (w : World) (hw : Wf B) (h1 : -9223372036854775808 ≤ a) (h2 : a ≤ 9223372036854775807) :
    Calls Try.prog 30 #[ag (fl B), ag [k, n, e, a]] w fun r w' => r = .returned (ansV (doB B k n e a)) ∧ Below w.heap.size w w' := by
  have HL : Hid ((fl B).length = 594) := hw.length
  have HE : Hid (0 + 594 ≤ (fl B).length) := by show 0 + 594 ≤ _; rw [hw.length]; omega
  have HC : Hid (cut (fl B) 0 594 = fl B) := cut_all hw.length
  have HK : Hid (∀ u, Calls Try.prog 53 #[ag (fl B)] u fun r w' => r = .returned (.int .i64 (chE B)) ∧ Below u.heap.size u w') := fun u => check_any B u hw
  have HQ0 : Hid (([k, n, e, a] : List Int)[0]? = some k) := rfl
  have HC4 : Hid (cut [k, n, e, a] 0 4 = [k, n, e, a]) := rfl
  have HE4 : Hid (0 + 4 ≤ ([k, n, e, a] : List Int).length) := Nat.le_refl _
  have HEN : Hid (∀ u, Calls Try.prog 54 #[ag (fl B)] u fun r w' => r = .returned (.tuple #[ag (fl (enb B).B), .int .i64 (enb B).c, .int .i64 (enb B).n]) ∧ Below u.heap.size u w') := fun u => enable_any B u hw
  have HAT : Hid (∀ u, Calls Try.prog 55 #[ag (fl B), ag [k, n, e, a]] u fun r w' => r = .returned (.tuple #[ag (fl (ats B k n e a).B), .int .i64 (ats B k n e a).c, .int .i64 (ats B k n e a).n]) ∧ Below u.heap.size u w') := fun u => atSlot_any B k n e a u hw h1 h2
  have A1 : Hid ((fl (enb B).B).length = 594) := (enb_wf hw).length
  have A2 : Hid ((fl (ats B k n e a).B).length = 594) := (ats_wf hw).length
  have hM := Mm.nil w
  clear h1 h2 hw
  by_cases hb : chk B = false
  · have HQ : Hid (doB B k n e a = ⟨B, 0, 0⟩) := by show _ = _; unfold doB; rw [if_pos hb]
    have hE : chE B = 4 := by unfold chE; rw [hb]; rfl
    rw [hE] at HK
    clear hb hE
    go_enter Try.func30, Try.ntmps30
    repeat' (first | (go_big_may; first | (refine a_box rfl rfl rfl ?_; intro u zb hN; replace hM := hM.new hN; clear hN) | (refine a_alloc rfl zer_board rfl ?_; intro u zb hN; replace hM := hM.new hN; clear hN) | (refine a_load rfl rfl row_board rfl hM.at2 HE.out HC.out ?_)) | go_values | go_skip | go_guarded | go_step | go_upon | (simp only [Int.not_lt, Int.not_le] at *; go_simp))
    refine (HK.out _).mono ?_
    rintro r u ⟨rfl, hv⟩
    replace hM := hM.call hv
    clear hv
    repeat' (first | (go_big_may; first | (refine a_load rfl rfl row_board rfl hM.at2 HE.out HC.out ?_) | (refine a_fill rfl rfl row_board rfl rfl hM.at0 HL.out rep_594 ?_; intro u hv hc; replace hM := hM.put0 hc hv; clear hv hc)) | go_values | go_skip | go_guarded | go_step | go_upon | (simp only [Int.not_lt, Int.not_le] at *; go_simp))
    rw [HQ.out]
    exact bodyPost_ret (ret_3 Try.results30 rfl (ld_var row_board hM.at0 HL.out) rfl rfl) rfl ⟨rfl, hM.below⟩
  have hE : chE B = 0 := by unfold chE; rw [if_pos (by simpa using hb)]
  have HX : Hid (doB B k n e a = if k = 1 then ⟨B, 1, 0⟩ else if k = 2 then enb B else if 3 ≤ k ∧ k ≤ 9 then ats B k n e a else ⟨B, 5, 0⟩) := by show _ = _; unfold doB; rw [if_neg hb]
  rw [hE] at HK
  clear hb hE
  by_cases c1 : k = 1
  · subst c1
    have HQ : Hid (doB B 1 n e a = ⟨B, 1, 0⟩) := by show _ = _; rw [HX.out]; rfl
    clear HX
    go_enter Try.func30, Try.ntmps30
    repeat' (first | (go_big_may; first | (refine a_box rfl rfl rfl ?_; intro u zb hN; replace hM := hM.new hN; clear hN) | (refine a_alloc rfl zer_board rfl ?_; intro u zb hN; replace hM := hM.new hN; clear hN) | (refine a_load rfl rfl row_board rfl hM.at2 HE.out HC.out ?_)) | go_values | go_skip | go_guarded | go_step | go_upon | (simp only [Int.not_lt, Int.not_le] at *; go_simp))
    refine (HK.out _).mono ?_
    rintro r u ⟨rfl, hv⟩
    replace hM := hM.call hv
    clear hv
    repeat' (first | (go_big_may; first | (refine a_get rfl rfl rfl hM.at1 HQ0.out ?_) | (refine a_load rfl rfl row_board rfl hM.at2 HE.out HC.out ?_) | (refine a_fill rfl rfl row_board rfl rfl hM.at0 HL.out rep_594 ?_; intro u hv hc; replace hM := hM.put0 hc hv; clear hv hc)) | go_values | go_skip | go_guarded | go_step | go_upon | (simp only [Int.not_lt, Int.not_le] at *; go_simp))
    rw [HQ.out]
    exact bodyPost_ret (ret_3 Try.results30 rfl (ld_var row_board hM.at0 HL.out) rfl rfl) rfl ⟨rfl, hM.below⟩
  rw [if_neg c1] at HX
  by_cases c2 : k = 2
  · subst c2
    have HQ : Hid (doB B 2 n e a = enb B) := by show _ = _; rw [HX.out]; rfl
    rw [HQ.out]
    clear HX HQ
    generalize enb B = y at *
    go_enter Try.func30, Try.ntmps30
    repeat' (first | (go_big_may; first | (refine a_box rfl rfl rfl ?_; intro u zb hN; replace hM := hM.new hN; clear hN) | (refine a_alloc rfl zer_board rfl ?_; intro u zb hN; replace hM := hM.new hN; clear hN) | (refine a_load rfl rfl row_board rfl hM.at2 HE.out HC.out ?_)) | go_values | go_skip | go_guarded | go_step | go_upon | (simp only [Int.not_lt, Int.not_le] at *; go_simp))
    refine (HK.out _).mono ?_
    rintro r u ⟨rfl, hv⟩
    replace hM := hM.call hv
    clear hv
    repeat' (first | (go_big_may; first | (refine a_get rfl rfl rfl hM.at1 HQ0.out ?_) | (refine a_load rfl rfl row_board rfl hM.at2 HE.out HC.out ?_)) | go_values | go_skip | go_guarded | go_step | go_upon | (simp only [Int.not_lt, Int.not_le] at *; go_simp))
    refine (HEN.out _).mono ?_
    rintro r u ⟨rfl, hv⟩
    replace hM := hM.call hv
    clear hv
    repeat' (first | (go_big_may; first | (refine a_fill rfl rfl row_board rfl rfl hM.at0 A1.out rep_594 ?_; intro u hv hc; replace hM := hM.put0 hc hv; clear hv hc)) | go_values | go_skip | go_guarded | go_step | go_upon | (simp only [Int.not_lt, Int.not_le] at *; go_simp))
    exact bodyPost_ret (ret_3 Try.results30 rfl (ld_var row_board hM.at0 A1.out) rfl rfl) rfl ⟨rfl, hM.below⟩
  rw [if_neg c2] at HX
  have e1 : (k == 1) = false := by simpa using c1
  have e2 : (k == 2) = false := by simpa using c2
  by_cases c3 : 3 ≤ k ∧ k ≤ 9
  · have HQ : Hid (doB B k n e a = ats B k n e a) := by show _ = _; rw [HX.out, if_pos c3]
    rw [HQ.out]
    clear HX HQ
    generalize ats B k n e a = y at *
    obtain h | h | h | h | h | h | h : k = 3 ∨ k = 4 ∨ k = 5 ∨ k = 6 ∨ k = 7 ∨ k = 8 ∨ k = 9 := by omega
    all_goals
      subst h
      clear e1 e2 c1 c2 c3
      go_enter Try.func30, Try.ntmps30
      repeat' (first | (go_big_may; first | (refine a_box rfl rfl rfl ?_; intro u zb hN; replace hM := hM.new hN; clear hN) | (refine a_alloc rfl zer_board rfl ?_; intro u zb hN; replace hM := hM.new hN; clear hN) | (refine a_load rfl rfl row_board rfl hM.at2 HE.out HC.out ?_)) | go_values | go_skip | go_guarded | go_step | go_upon | (simp only [Int.not_lt, Int.not_le] at *; go_simp))
      refine (HK.out _).mono ?_
      rintro r u ⟨rfl, hv⟩
      replace hM := hM.call hv
      clear hv
      repeat' (first | (go_big_may; first | (refine a_get rfl rfl rfl hM.at1 HQ0.out ?_) | (refine a_load rfl rfl row_board rfl hM.at2 HE.out HC.out ?_) | (refine a_load rfl rfl row_cmd rfl hM.at1 HE4.out HC4.out ?_)) | go_values | go_skip | go_guarded | go_step | go_upon | (simp only [Int.not_lt, Int.not_le] at *; go_simp))
      refine (HAT.out _).mono ?_
      rintro r u ⟨rfl, hv⟩
      replace hM := hM.call hv
      clear hv
      repeat' (first | (go_big_may; first | (refine a_fill rfl rfl row_board rfl rfl hM.at0 A2.out rep_594 ?_; intro u hv hc; replace hM := hM.put0 hc hv; clear hv hc)) | go_values | go_skip | go_guarded | go_step | go_upon | (simp only [Int.not_lt, Int.not_le] at *; go_simp))
      exact bodyPost_ret (ret_3 Try.results30 rfl (ld_var row_board hM.at0 A2.out) rfl rfl) rfl ⟨rfl, hM.below⟩
  · have HQ : Hid (doB B k n e a = ⟨B, 5, 0⟩) := by show _ = _; rw [HX.out, if_neg c3]
    have e3 : (k == 3) = false := by simp; omega
    have e4 : (k == 4) = false := by simp; omega
    have e5 : (k == 5) = false := by simp; omega
    have e6 : (k == 6) = false := by simp; omega
    have e7 : (k == 7) = false := by simp; omega
    have e8 : (k == 8) = false := by simp; omega
    have e9 : (k == 9) = false := by simp; omega
    clear HX c1 c2 c3
    go_enter Try.func30, Try.ntmps30
    repeat' (first | (go_big_may; first | (refine a_box rfl rfl rfl ?_; intro u zb hN; replace hM := hM.new hN; clear hN) | (refine a_alloc rfl zer_board rfl ?_; intro u zb hN; replace hM := hM.new hN; clear hN) | (refine a_load rfl rfl row_board rfl hM.at2 HE.out HC.out ?_)) | go_values | go_skip | go_guarded | go_step | go_upon | (simp only [Int.not_lt, Int.not_le] at *; go_simp))
    refine (HK.out _).mono ?_
    rintro r u ⟨rfl, hv⟩
    replace hM := hM.call hv
    clear hv
    repeat' (first | (go_big_may; first | (refine a_get rfl rfl rfl hM.at1 HQ0.out ?_) | (refine a_load rfl rfl row_board rfl hM.at2 HE.out HC.out ?_) | (refine a_fill rfl rfl row_board rfl rfl hM.at0 HL.out rep_594 ?_; intro u hv hc; replace hM := hM.put0 hc hv; clear hv hc)) | go_values | go_skip | go_guarded | go_step | go_upon | (simp only [Int.not_lt, Int.not_le] at *; go_simp))
    rw [HQ.out]
    exact bodyPost_ret (ret_3 Try.results30 rfl (ld_var row_board hM.at0 HL.out) rfl rfl) rfl ⟨rfl, hM.below⟩
end Go.Proofs.Ythjmcopknkemnaa.slots
