/- HubPlugs: Check, Plug and Tick answer what the document says. -/
import Derived.Test.YtdnmjeiljpdmcaaHubR
import Derived.Test.YtdnmjeiljpdmcaaHubO
import Derived.Test.YtdnmjeiljpdmcaaHubQ
namespace Go.Proofs.Ytdnmjeiljpdmcaa.hubPlugs
open Go Go.RowKit Go.Proofs.Ytdnmjeiljpdmcaa.hub
set_option linter.unusedVariables false
set_option linter.unusedSimpArgs false
set_option maxRecDepth 100000

theorem plugV_len {F : List Int} (n : Int) (t : Bool) (h : F.length = 33) : (plugV F n t).length = 33 := by
  unfold plugV
  split
  · exact h
  · rw [setP_len, h]
theorem tickV_len {F : List Int} (h : F.length = 33) : (tickV F).length = 33 := by
  unfold tickV
  split
  · exact h
  · rw [tkN_len, h]
set_option maxHeartbeats 8000000 in
theorem walk (F : List Int) (n : Int) (t : Bool) (hn : (Lit.int .i64 n).wf = true) (w : World) (hb : Hb F) : Calls Try.prog 3 #[ag F, .int .i64 n, .bool t] w fun r w' => r = .returned (.bool true) ∧ Below w.heap.size w w' := by
  have HL : Hid (F.length = 33) := hb.len
  have HC : Hid (cut F 0 33 = F) := cut_all hb.len
  have HE : Hid (0 + 33 ≤ F.length) := by show 0 + 33 ≤ _; rw [hb.len]; omega
  have HP : Hid (∀ u, Calls Try.prog 9 #[ag F, .int .i64 n, .bool t] u fun e w' => e = .returned (.tuple #[ag (plugV F n t), .int .i64 (plugC F n)]) ∧ Below u.heap.size u w') := fun u => plug_any F n t u hb
  have HRP : Hid (∀ u, Calls Try.prog 10 #[ag F, .int .i64 n, .bool t] u fun e w' => e = .returned (.tuple #[ag (plugV F n t), .int .i64 (plugC F n)]) ∧ Below u.heap.size u w') := fun u => rplug_any F n t u hb
  have HT : Hid (∀ u, Calls Try.prog 11 #[ag F] u fun e w' => e = .returned (.tuple #[ag (tickV F), .int .i64 (chk F)]) ∧ Below u.heap.size u w') := fun u => tick_any F u hb
  have HRT : Hid (∀ u, Calls Try.prog 12 #[ag F] u fun e w' => e = .returned (.tuple #[ag (tickV F), .int .i64 (chk F)]) ∧ Below u.heap.size u w') := fun u => rtick_any F u hb
  have HK : Hid (∀ u, Calls Try.prog 13 #[ag F] u fun e w' => e = .returned (.int .i64 (chk F)) ∧ Below u.heap.size u w') := fun u => check_any F u hb
  have HRK : Hid (∀ u, Calls Try.prog 14 #[ag F] u fun e w' => e = .returned (.int .i64 (chk F)) ∧ Below u.heap.size u w') := fun u => rhub_any F u hb
  have HL1 : Hid ((plugV F n t).length = 33) := plugV_len n t hb.len
  have HL2 : Hid ((tickV F).length = 33) := tickV_len hb.len
  have hM := Mm.nil w
  clear hn hb
  generalize plugV F n t = G1 at *
  generalize tickV F = G2 at *
  generalize plugC F n = pc at *
  generalize chk F = ck at *
  have HC1 : Hid (cut G1 0 33 = G1) := cut_all HL1.out
  have HE1 : Hid (0 + 33 ≤ G1.length) := by show 0 + 33 ≤ _; rw [HL1.out]; omega
  have HC2 : Hid (cut G2 0 33 = G2) := cut_all HL2.out
  have HE2 : Hid (0 + 33 ≤ G2.length) := by show 0 + 33 ≤ _; rw [HL2.out]; omega
  go_enter Try.func3, Try.ntmps3
  repeat' (first | (go_big_may; first | (refine a_box rfl rfl rfl ?_; intro u za hN; replace hM := hM.new hN; clear hN) | (refine a_load rfl rfl row_hub rfl hM.at0 HE.out HC.out ?_)) | go_values | go_skip | go_guarded | go_step | go_upon | (simp only [Int.not_lt, Int.not_le] at *; go_simp))
  refine (HP.out _).mono ?_
  rintro r u ⟨rfl, hv⟩
  replace hM := hM.call hv
  clear hv
  repeat' (first | (go_big_may; first | (refine a_alloc rfl zer_hub rfl ?_; intro u zb hN; replace hM := hM.new hN; clear hN) | (refine a_fill rfl rfl row_hub rfl rfl hM.at0 HL1.out rep_33 ?_; intro u hv hc; replace hM := hM.put0 hc hv; clear hv hc) | (refine a_load rfl rfl row_hub rfl hM.at1 HE.out HC.out ?_)) | go_values | go_skip | go_guarded | go_step | go_upon | (simp only [Int.not_lt, Int.not_le] at *; go_simp))
  refine (HRP.out _).mono ?_
  rintro r u ⟨rfl, hv⟩
  replace hM := hM.call hv
  clear hv
  repeat' (first | (go_big_may; first | (refine a_alloc rfl zer_hub rfl ?_; intro u zc hN; replace hM := hM.new hN; clear hN) | (refine a_fill rfl rfl row_hub rfl rfl hM.at0 HL1.out rep_33 ?_; intro u hv hc; replace hM := hM.put0 hc hv; clear hv hc) | (refine a_load rfl rfl row_hub rfl hM.at2 HE.out HC.out ?_)) | go_values | go_skip | go_guarded | go_step | go_upon | (simp only [Int.not_lt, Int.not_le] at *; go_simp))
  refine (HT.out _).mono ?_
  rintro r u ⟨rfl, hv⟩
  replace hM := hM.call hv
  clear hv
  repeat' (first | (go_big_may; first | (refine a_alloc rfl zer_hub rfl ?_; intro u zd hN; replace hM := hM.new hN; clear hN) | (refine a_fill rfl rfl row_hub rfl rfl hM.at0 HL2.out rep_33 ?_; intro u hv hc; replace hM := hM.put0 hc hv; clear hv hc) | (refine a_load rfl rfl row_hub rfl hM.at3 HE.out HC.out ?_)) | go_values | go_skip | go_guarded | go_step | go_upon | (simp only [Int.not_lt, Int.not_le] at *; go_simp))
  refine (HRT.out _).mono ?_
  rintro r u ⟨rfl, hv⟩
  replace hM := hM.call hv
  clear hv
  repeat' (first | (go_big_may; first | (refine a_alloc rfl zer_hub rfl ?_; intro u ze hN; replace hM := hM.new hN; clear hN) | (refine a_fill rfl rfl row_hub rfl rfl hM.at0 HL2.out rep_33 ?_; intro u hv hc; replace hM := hM.put0 hc hv; clear hv hc)) | go_values | go_skip | go_guarded | go_step | go_upon | (simp only [Int.not_lt, Int.not_le] at *; go_simp))
  go_simp
  refine reg.wp_abs (fun a0 => a0.tmps.size = 64 ∧ (∀ h, a0.tmps[3]'h = .pointer (some ⟨za, 0, none⟩)) ∧ (∀ h, a0.tmps[7]'h = .pointer (some ⟨zb, 0, none⟩)) ∧ (∀ h, a0.tmps[8]'h = .int .i64 pc) ∧ (∀ h, a0.tmps[9]'h = .pointer (some ⟨zc, 0, none⟩)) ∧ (∀ h, a0.tmps[10]'h = .int .i64 pc) ∧ (∀ h, a0.tmps[11]'h = .pointer (some ⟨zd, 0, none⟩)) ∧ (∀ h, a0.tmps[12]'h = .int .i64 ck) ∧ (∀ h, a0.tmps[13]'h = .pointer (some ⟨ze, 0, none⟩)) ∧ (∀ h, a0.tmps[14]'h = .int .i64 ck)) ⟨rfl, fun _ => rfl, fun _ => rfl, fun _ => rfl, fun _ => rfl, fun _ => rfl, fun _ => rfl, fun _ => rfl, fun _ => rfl, fun _ => rfl⟩ ?_
  rintro a0 ⟨hsz, s3, s7, s8, s9, s10, s11, s12, s13, s14⟩ ha0
  refine reg.wp_region_E (S := fun W => Mm w W [(ze, 26, G2), (zd, 26, G2), (zc, 26, G1), (zb, 26, G1), (za, 26, F)]) (E := fun _ => false) (by kernel_rfl) ?_
  replace hM := hM.drew
  refine reg.e_take (i := 0) (ag F) rfl (by kernel_rfl) (by kernel_rfl) (by kernel_rfl) (by kernel_rfl) (fun _ _ _ h => h) (reg.wanted_none rfl) hM (fun W hW => ex_load rfl row_hub (by simp [go_sem, Act.put, hsz, s3, s7, s8, s9, s10, s11, s12, s13, s14]) hW.at4 HE.out HC.out) ?_
  refine reg.e_take (i := 2) (ag F) rfl (by kernel_rfl) (by kernel_rfl) (by kernel_rfl) (by kernel_rfl) (fun _ _ _ h => h) (reg.wanted_none rfl) hM (fun W hW => ex_load rfl row_hub (by simp [go_sem, Act.put, hsz, s3, s7, s8, s9, s10, s11, s12, s13, s14]) hW.at4 HE.out HC.out) ?_
  refine reg.e_one 1 (by kernel_rfl) rfl ?_
  refine reg.r_call (i := 1) 13 #[ag F] rfl (reg.wanted_none rfl) (by simp [execOp, go_sem, Act.put, hsz, s3, s7, s8, s9, s10, s11, s12, s13, s14]) ((HK.out _).mono ?_)
  rintro re ru1 ⟨rfl, rhv⟩
  replace hM := hM.call rhv
  clear rhv
  refine ⟨_, rfl, hM, ?_⟩
  refine reg.e_one 3 (by kernel_rfl) rfl ?_
  refine reg.r_call (i := 3) 14 #[ag F] rfl (reg.wanted_none rfl) (by simp [execOp, go_sem, Act.put, hsz, s3, s7, s8, s9, s10, s11, s12, s13, s14]) ((HRK.out _).mono ?_)
  rintro re ru2 ⟨rfl, rhv⟩
  replace hM := hM.call rhv
  clear rhv
  refine ⟨_, rfl, hM, ?_⟩
  refine reg.e_take (i := 4) (.bool true) rfl (by kernel_rfl) (by kernel_rfl) (by kernel_rfl) (by kernel_rfl) (fun _ _ _ h => h) (reg.wanted_none rfl) hM (fun W hW => by simp [execOp, go_sem, Act.put, hsz, s3, s7, s8, s9, s10, s11, s12, s13, s14]) ?_
  refine reg.e_take (i := 5) (.bool true) rfl (by kernel_rfl) (by kernel_rfl) (by kernel_rfl) (by kernel_rfl) (fun _ _ _ h => h) (reg.wanted_none rfl) hM (fun W hW => by simp [execOp, go_sem, Act.put, hsz, s3, s7, s8, s9, s10, s11, s12, s13, s14]) ?_
  refine reg.e_take (i := 6) (ag G1) rfl (by kernel_rfl) (by kernel_rfl) (by kernel_rfl) (by kernel_rfl) (fun _ _ _ h => h) (reg.wanted_of 5 true 44 rfl (by kernel_rfl) (by simp [Act.put, hsz])) hM (fun W hW => ex_load rfl row_hub (by simp [go_sem, Act.put, hsz, s3, s7, s8, s9, s10, s11, s12, s13, s14]) hW.at3 HE1.out HC1.out) ?_
  refine reg.e_take (i := 7) (ag G1) rfl (by kernel_rfl) (by kernel_rfl) (by kernel_rfl) (by kernel_rfl) (fun _ _ _ h => h) (reg.wanted_of 5 true 44 rfl (by kernel_rfl) (by simp [Act.put, hsz])) hM (fun W hW => ex_load rfl row_hub (by simp [go_sem, Act.put, hsz, s3, s7, s8, s9, s10, s11, s12, s13, s14]) hW.at2 HE1.out HC1.out) ?_
  refine reg.e_take (i := 8) (.bool true) rfl (by kernel_rfl) (by kernel_rfl) (by kernel_rfl) (by kernel_rfl) (fun _ _ _ h => h) (reg.wanted_of 5 true 44 rfl (by kernel_rfl) (by simp [Act.put, hsz])) hM (fun W hW => ex_eql rfl cmp_hub (by simp [go_sem, Act.put, hsz, s3, s7, s8, s9, s10, s11, s12, s13, s14]) (by simp [go_sem, Act.put, hsz, s3, s7, s8, s9, s10, s11, s12, s13, s14]) HL1.out HL1.out (decide_eq_true rfl)) ?_
  refine reg.e_take (i := 9) (.bool true) rfl (by kernel_rfl) (by kernel_rfl) (by kernel_rfl) (by kernel_rfl) (fun _ _ _ h => h) (reg.wanted_none rfl) hM (fun W hW => by simp [execOp, go_sem, Act.put, hsz, s3, s7, s8, s9, s10, s11, s12, s13, s14]) ?_
  refine reg.e_take (i := 10) (.bool true) rfl (by kernel_rfl) (by kernel_rfl) (by kernel_rfl) (by kernel_rfl) (fun _ _ _ h => h) (reg.wanted_none rfl) hM (fun W hW => by simp [execOp, go_sem, Act.put, hsz, s3, s7, s8, s9, s10, s11, s12, s13, s14]) ?_
  refine reg.e_take (i := 11) (.int .i64 pc) rfl (by kernel_rfl) (by kernel_rfl) (by kernel_rfl) (by kernel_rfl) (fun _ _ _ h => h) (reg.wanted_of 10 true 49 rfl (by kernel_rfl) (by simp [Act.put, hsz])) hM (fun W hW => by simp [execOp, go_sem, Act.put, hsz, s3, s7, s8, s9, s10, s11, s12, s13, s14]) ?_
  refine reg.e_take (i := 12) (.int .i64 pc) rfl (by kernel_rfl) (by kernel_rfl) (by kernel_rfl) (by kernel_rfl) (fun _ _ _ h => h) (reg.wanted_of 10 true 49 rfl (by kernel_rfl) (by simp [Act.put, hsz])) hM (fun W hW => by simp [execOp, go_sem, Act.put, hsz, s3, s7, s8, s9, s10, s11, s12, s13, s14]) ?_
  refine reg.e_take (i := 13) (.bool true) rfl (by kernel_rfl) (by kernel_rfl) (by kernel_rfl) (by kernel_rfl) (fun _ _ _ h => h) (reg.wanted_of 10 true 49 rfl (by kernel_rfl) (by simp [Act.put, hsz])) hM (fun W hW => by simp [execOp, go_sem, Act.put, hsz, s3, s7, s8, s9, s10, s11, s12, s13, s14]) ?_
  refine reg.e_take (i := 14) (.bool true) rfl (by kernel_rfl) (by kernel_rfl) (by kernel_rfl) (by kernel_rfl) (fun _ _ _ h => h) (reg.wanted_none rfl) hM (fun W hW => by simp [execOp, go_sem, Act.put, hsz, s3, s7, s8, s9, s10, s11, s12, s13, s14]) ?_
  refine reg.e_take (i := 15) (.bool true) rfl (by kernel_rfl) (by kernel_rfl) (by kernel_rfl) (by kernel_rfl) (fun _ _ _ h => h) (reg.wanted_none rfl) hM (fun W hW => by simp [execOp, go_sem, Act.put, hsz, s3, s7, s8, s9, s10, s11, s12, s13, s14]) ?_
  refine reg.e_take (i := 16) (ag G2) rfl (by kernel_rfl) (by kernel_rfl) (by kernel_rfl) (by kernel_rfl) (fun _ _ _ h => h) (reg.wanted_of 15 true 54 rfl (by kernel_rfl) (by simp [Act.put, hsz])) hM (fun W hW => ex_load rfl row_hub (by simp [go_sem, Act.put, hsz, s3, s7, s8, s9, s10, s11, s12, s13, s14]) hW.at1 HE2.out HC2.out) ?_
  refine reg.e_take (i := 17) (ag G2) rfl (by kernel_rfl) (by kernel_rfl) (by kernel_rfl) (by kernel_rfl) (fun _ _ _ h => h) (reg.wanted_of 15 true 54 rfl (by kernel_rfl) (by simp [Act.put, hsz])) hM (fun W hW => ex_load rfl row_hub (by simp [go_sem, Act.put, hsz, s3, s7, s8, s9, s10, s11, s12, s13, s14]) hW.at0 HE2.out HC2.out) ?_
  refine reg.e_take (i := 18) (.bool true) rfl (by kernel_rfl) (by kernel_rfl) (by kernel_rfl) (by kernel_rfl) (fun _ _ _ h => h) (reg.wanted_of 15 true 54 rfl (by kernel_rfl) (by simp [Act.put, hsz])) hM (fun W hW => ex_eql rfl cmp_hub (by simp [go_sem, Act.put, hsz, s3, s7, s8, s9, s10, s11, s12, s13, s14]) (by simp [go_sem, Act.put, hsz, s3, s7, s8, s9, s10, s11, s12, s13, s14]) HL2.out HL2.out (decide_eq_true rfl)) ?_
  refine reg.e_take (i := 19) (.bool true) rfl (by kernel_rfl) (by kernel_rfl) (by kernel_rfl) (by kernel_rfl) (fun _ _ _ h => h) (reg.wanted_none rfl) hM (fun W hW => by simp [execOp, go_sem, Act.put, hsz, s3, s7, s8, s9, s10, s11, s12, s13, s14]) ?_
  refine reg.e_take (i := 20) (.bool true) rfl (by kernel_rfl) (by kernel_rfl) (by kernel_rfl) (by kernel_rfl) (fun _ _ _ h => h) (reg.wanted_none rfl) hM (fun W hW => by simp [execOp, go_sem, Act.put, hsz, s3, s7, s8, s9, s10, s11, s12, s13, s14]) ?_
  refine reg.e_take (i := 21) (.int .i64 ck) rfl (by kernel_rfl) (by kernel_rfl) (by kernel_rfl) (by kernel_rfl) (fun _ _ _ h => h) (reg.wanted_of 20 true 59 rfl (by kernel_rfl) (by simp [Act.put, hsz])) hM (fun W hW => by simp [execOp, go_sem, Act.put, hsz, s3, s7, s8, s9, s10, s11, s12, s13, s14]) ?_
  refine reg.e_take (i := 22) (.int .i64 ck) rfl (by kernel_rfl) (by kernel_rfl) (by kernel_rfl) (by kernel_rfl) (fun _ _ _ h => h) (reg.wanted_of 20 true 59 rfl (by kernel_rfl) (by simp [Act.put, hsz])) hM (fun W hW => by simp [execOp, go_sem, Act.put, hsz, s3, s7, s8, s9, s10, s11, s12, s13, s14]) ?_
  refine reg.e_take (i := 23) (.bool true) rfl (by kernel_rfl) (by kernel_rfl) (by kernel_rfl) (by kernel_rfl) (fun _ _ _ h => h) (reg.wanted_of 20 true 59 rfl (by kernel_rfl) (by simp [Act.put, hsz])) hM (fun W hW => by simp [execOp, go_sem, Act.put, hsz, s3, s7, s8, s9, s10, s11, s12, s13, s14]) ?_
  refine reg.e_take (i := 24) (.bool true) rfl (by kernel_rfl) (by kernel_rfl) (by kernel_rfl) (by kernel_rfl) (fun _ _ _ h => h) (reg.wanted_none rfl) hM (fun W hW => by simp [execOp, go_sem, Act.put, hsz, s3, s7, s8, s9, s10, s11, s12, s13, s14]) ?_
  refine reg.e_take (i := 25) (.bool true) rfl (by kernel_rfl) (by kernel_rfl) (by kernel_rfl) (by kernel_rfl) (fun _ _ _ h => h) (reg.wanted_none rfl) hM (fun W hW => by simp [execOp, go_sem, Act.put, hsz, s3, s7, s8, s9, s10, s11, s12, s13, s14]) ?_
  refine reg.e_done (by kernel_rfl) ?_ _
  subst ha0
  clear hsz s3 s7 s8 s9 s10 s11 s12 s13 s14
  go_simp
  repeat' (first | go_values | go_skip | go_guarded | go_step | go_upon | (simp only [Int.not_lt, Int.not_le] at *; go_simp))
  go_ret
  exact ⟨rfl, hM.below⟩
end Go.Proofs.Ytdnmjeiljpdmcaa.hubPlugs
