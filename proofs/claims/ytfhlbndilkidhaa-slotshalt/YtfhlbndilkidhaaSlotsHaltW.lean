/- SlotsHalt: Halt answers what the document says. -/
import Derived.Test.YtfhlbndilkidhaaSltT
import Derived.Test.YtfhlbndilkidhaaSltV
namespace Go.Proofs.Ytfhlbndilkidhaa.slotsHalt
open Go Go.RowKit Go.Proofs.Ytfhlbndilkidhaa.slots
set_option linter.unusedVariables false
set_option linter.unusedSimpArgs false
set_option maxRecDepth 100000

set_option maxHeartbeats 8000000 in
theorem walk0 (B : Bd) (n e : Int) (w : World) (hw : Wf B) : Calls Try.prog 4 #[ag (fl B), .int .i64 n, .int .i64 e] w fun r w' => r = .returned (.bool true) ∧ Below w.heap.size w w' := by
  have HL : Hid ((fl B).length = 594) := hw.length
  have HE : Hid (0 + 594 ≤ (fl B).length) := by show 0 + 594 ≤ _; rw [hw.length]; omega
  have HC : Hid (cut (fl B) 0 594 = fl B) := cut_all hw.length
  have HK : Hid (∀ u, Calls Try.prog 12 #[ag (fl B)] u fun r w' => r = .returned (.int .i64 (chE B)) ∧ Below u.heap.size u w') := fun u => board_any B u hw
  have HS : Hid (∀ u, Calls Try.prog 13 #[.int .i64 n, .int .i64 1, .int .i64 8] u fun r w' => r = .returned (.bool (slB n)) ∧ u = w') := between_any _ _ _
  have HN : Hid (∀ u, Calls Try.prog 13 #[.int .i64 e, .int .i64 1, .int .i64 31] u fun r w' => r = .returned (.bool (edB e)) ∧ u = w') := between_any _ _ _
  have HH : Hid (∀ u, Calls Try.prog 14 #[ag (fl B), .int .i64 n, .int .i64 e] u fun r w' => r = .returned (ag (fl (hlt B n e))) ∧ Below u.heap.size u w') := fun u => halt_any B n e u hw
  have hM := Mm.nil w
  by_cases hb : chk B = false
  · have HQ : Hid (hlt B n e = B) := by show _ = _; unfold hlt; rw [if_neg (by rw [hb]; simp)]
    have hE : chE B = 4 := by unfold chE; rw [hb]; rfl
    rw [hE] at HK
    rw [HQ.out] at HH
    clear hb hE hw HQ
    generalize fl B = F at *
    go_enter Try.func4, Try.ntmps4
    repeat' (first | (go_big_may; first | (refine a_box rfl rfl rfl ?_; intro u z0 hN; replace hM := hM.new hN; clear hN) | (refine a_load rfl rfl row_board rfl hM.at0 HE.out HC.out ?_) | (refine a_alloc rfl zer_board rfl ?_; intro u z7 hN; replace hM := hM.new hN; clear hN) | (refine a_fill rfl rfl row_board rfl rfl hM.at0 HL.out rep_594 ?_; intro u hv hc; replace hM := hM.put0 hc hv; clear hv hc) | (refine a_load rfl rfl row_board rfl hM.at1 HE.out HC.out ?_)) | go_values | go_skip | go_guarded | go_step | go_upon | (simp only [Int.not_lt, Int.not_le] at *; go_simp))
    refine (HK.out _).mono ?_
    rintro r u ⟨rfl, hv⟩
    replace hM := hM.call hv
    clear hv
    repeat' (first | go_values | go_skip | go_guarded | go_step | go_upon | (simp only [Int.not_lt, Int.not_le] at *; go_simp))
    refine wp_abs (fun a0 => a0.tmps.size = 42 ∧ (∀ h, a0.tmps[1]'h = .int .i64 n) ∧ (∀ h, a0.tmps[2]'h = .int .i64 e) ∧ (∀ h, a0.tmps[3]'h = .pointer (some ⟨z0, 0, none⟩)) ∧ (∀ h, a0.tmps[7]'h = .pointer (some ⟨z7, 0, none⟩))) ⟨rfl, fun _ => rfl, fun _ => rfl, fun _ => rfl, fun _ => rfl⟩ ?_
    rintro a0 ⟨hsz, s1, s2, s3, s7⟩ ha0
    refine wp_region_held (S := fun W => Mm w W [(z7, 27, F), (z0, 27, F)]) (by kernel_rfl) ?_
    have hS : Mm w u.drew [(z7, 27, F), (z0, 27, F)] := ⟨hM.lies, hM.own, hM.ap, hM.below.drew⟩
    refine h_take (i := 0) (ag F) rfl (by kernel_rfl) (by kernel_rfl) (by kernel_rfl) (fun _ _ _ h => h) rfl hS (fun W hW => ex_load rfl row_board (by simp [go_sem, Act.put, hsz, s3]) hW.at1 HE.out HC.out) ?_
    refine h_take (i := 1) (.int .i64 n) rfl (by kernel_rfl) (by kernel_rfl) (by kernel_rfl) (fun _ _ _ h => h) rfl hS (fun W hW => by simp [execOp, go_sem, Act.put, hsz, s1, s2, s3, s7]) ?_
    refine h_take (i := 2) (.int .i64 e) rfl (by kernel_rfl) (by kernel_rfl) (by kernel_rfl) (fun _ _ _ h => h) rfl hS (fun W hW => by simp [execOp, go_sem, Act.put, hsz, s1, s2, s3, s7]) ?_
    refine h_take (i := 4) (ag F) rfl (by kernel_rfl) (by kernel_rfl) (by kernel_rfl) (fun _ _ _ h => h) rfl hS (fun W hW => ex_load rfl row_board (by simp [go_sem, Act.put, hsz, s7]) hW.at0 HE.out HC.out) ?_
    refine h_call (i := 3) 14 #[ag F, .int .i64 n, .int .i64 e] rfl (by kernel_rfl) rfl (by simp [execOp, go_sem, Act.put, hsz]) ((HH.out _).mono ?_)
    rintro r v ⟨rfl, hv⟩
    replace hS := hS.call hv
    refine ⟨_, rfl, hS, ?_⟩
    refine h_take (i := 5) (.bool (decide (F = F))) rfl (by kernel_rfl) (by kernel_rfl) (by kernel_rfl) (fun _ _ _ h => h) rfl hS (fun W hW => ex_eql rfl cmp_board (by simp [go_sem, Act.put, hsz]) (by simp [go_sem, Act.put, hsz]) HL.out HL.out) ?_
    refine h_take (i := 6) (.bool (decide (F = F))) rfl (by kernel_rfl) (by kernel_rfl) (by kernel_rfl) (fun _ _ _ h => h) rfl hS (fun W hW => by simp [execOp, go_sem, Act.put, hsz, s1, s2, s3, s7]) ?_
    refine wpAnyH_done (by kernel_rfl) ?_ _
    subst ha0
    clear hsz s1 s2 s3 s7
    go_simp
    repeat' (first | go_values | go_skip | go_guarded | go_step | go_upon | (simp only [Int.not_lt, Int.not_le] at *; go_simp))
    go_ret
    exact ⟨rfl, hS.below⟩
  have hE : chE B = 0 := by unfold chE; rw [if_pos (by simpa using hb)]
  rw [hE] at HK
  by_cases hsn : slB n = false
  · have HQ : Hid (hlt B n e = B) := by show _ = _; unfold hlt; rw [if_neg (by rw [hsn]; simp)]
    rw [hsn] at HS
    rw [HQ.out] at HH
    clear hb hE hw hsn HQ
    generalize fl B = F at *
    go_enter Try.func4, Try.ntmps4
    repeat' (first | (go_big_may; first | (refine a_box rfl rfl rfl ?_; intro u z0 hN; replace hM := hM.new hN; clear hN) | (refine a_load rfl rfl row_board rfl hM.at0 HE.out HC.out ?_) | (refine a_alloc rfl zer_board rfl ?_; intro u z7 hN; replace hM := hM.new hN; clear hN) | (refine a_fill rfl rfl row_board rfl rfl hM.at0 HL.out rep_594 ?_; intro u hv hc; replace hM := hM.put0 hc hv; clear hv hc) | (refine a_load rfl rfl row_board rfl hM.at1 HE.out HC.out ?_)) | go_values | go_skip | go_guarded | go_step | go_upon | (simp only [Int.not_lt, Int.not_le] at *; go_simp))
    refine (HK.out _).mono ?_
    rintro r u ⟨rfl, hv⟩
    replace hM := hM.call hv
    clear hv
    repeat' (first | go_values | go_skip | go_guarded | go_step | go_upon | (simp only [Int.not_lt, Int.not_le] at *; go_simp))
    refine (HS.out _).mono ?_
    rintro r v ⟨rfl, rfl⟩
    repeat' (first | go_values | go_skip | go_guarded | go_step | go_upon | (simp only [Int.not_lt, Int.not_le] at *; go_simp))
    refine wp_abs (fun a0 => a0.tmps.size = 42 ∧ (∀ h, a0.tmps[1]'h = .int .i64 n) ∧ (∀ h, a0.tmps[2]'h = .int .i64 e) ∧ (∀ h, a0.tmps[3]'h = .pointer (some ⟨z0, 0, none⟩)) ∧ (∀ h, a0.tmps[7]'h = .pointer (some ⟨z7, 0, none⟩))) ⟨rfl, fun _ => rfl, fun _ => rfl, fun _ => rfl, fun _ => rfl⟩ ?_
    rintro a0 ⟨hsz, s1, s2, s3, s7⟩ ha0
    refine wp_region_held (S := fun W => Mm w W [(z7, 27, F), (z0, 27, F)]) (by kernel_rfl) ?_
    have hS : Mm w u.drew [(z7, 27, F), (z0, 27, F)] := ⟨hM.lies, hM.own, hM.ap, hM.below.drew⟩
    refine h_take (i := 0) (ag F) rfl (by kernel_rfl) (by kernel_rfl) (by kernel_rfl) (fun _ _ _ h => h) rfl hS (fun W hW => ex_load rfl row_board (by simp [go_sem, Act.put, hsz, s3]) hW.at1 HE.out HC.out) ?_
    refine h_take (i := 1) (.int .i64 n) rfl (by kernel_rfl) (by kernel_rfl) (by kernel_rfl) (fun _ _ _ h => h) rfl hS (fun W hW => by simp [execOp, go_sem, Act.put, hsz, s1, s2, s3, s7]) ?_
    refine h_take (i := 2) (.int .i64 e) rfl (by kernel_rfl) (by kernel_rfl) (by kernel_rfl) (fun _ _ _ h => h) rfl hS (fun W hW => by simp [execOp, go_sem, Act.put, hsz, s1, s2, s3, s7]) ?_
    refine h_take (i := 4) (ag F) rfl (by kernel_rfl) (by kernel_rfl) (by kernel_rfl) (fun _ _ _ h => h) rfl hS (fun W hW => ex_load rfl row_board (by simp [go_sem, Act.put, hsz, s7]) hW.at0 HE.out HC.out) ?_
    refine h_call (i := 3) 14 #[ag F, .int .i64 n, .int .i64 e] rfl (by kernel_rfl) rfl (by simp [execOp, go_sem, Act.put, hsz]) ((HH.out _).mono ?_)
    rintro r v ⟨rfl, hv⟩
    replace hS := hS.call hv
    refine ⟨_, rfl, hS, ?_⟩
    refine h_take (i := 5) (.bool (decide (F = F))) rfl (by kernel_rfl) (by kernel_rfl) (by kernel_rfl) (fun _ _ _ h => h) rfl hS (fun W hW => ex_eql rfl cmp_board (by simp [go_sem, Act.put, hsz]) (by simp [go_sem, Act.put, hsz]) HL.out HL.out) ?_
    refine h_take (i := 6) (.bool (decide (F = F))) rfl (by kernel_rfl) (by kernel_rfl) (by kernel_rfl) (fun _ _ _ h => h) rfl hS (fun W hW => by simp [execOp, go_sem, Act.put, hsz, s1, s2, s3, s7]) ?_
    refine wpAnyH_done (by kernel_rfl) ?_ _
    subst ha0
    clear hsz s1 s2 s3 s7
    go_simp
    repeat' (first | go_values | go_skip | go_guarded | go_step | go_upon | (simp only [Int.not_lt, Int.not_le] at *; go_simp))
    go_ret
    exact ⟨rfl, hS.below⟩
  have hsn : slB n = true := by simpa using hsn
  rw [hsn] at HS
  by_cases hee : edB e = false
  · have HQ : Hid (hlt B n e = B) := by show _ = _; unfold hlt; rw [if_neg (by rw [hee]; simp)]
    rw [hee] at HN
    rw [HQ.out] at HH
    clear hb hE hw hsn hee HQ
    generalize fl B = F at *
    go_enter Try.func4, Try.ntmps4
    repeat' (first | (go_big_may; first | (refine a_box rfl rfl rfl ?_; intro u z0 hN; replace hM := hM.new hN; clear hN) | (refine a_load rfl rfl row_board rfl hM.at0 HE.out HC.out ?_) | (refine a_alloc rfl zer_board rfl ?_; intro u z7 hN; replace hM := hM.new hN; clear hN) | (refine a_fill rfl rfl row_board rfl rfl hM.at0 HL.out rep_594 ?_; intro u hv hc; replace hM := hM.put0 hc hv; clear hv hc) | (refine a_load rfl rfl row_board rfl hM.at1 HE.out HC.out ?_)) | go_values | go_skip | go_guarded | go_step | go_upon | (simp only [Int.not_lt, Int.not_le] at *; go_simp))
    refine (HK.out _).mono ?_
    rintro r u ⟨rfl, hv⟩
    replace hM := hM.call hv
    clear hv
    repeat' (first | go_values | go_skip | go_guarded | go_step | go_upon | (simp only [Int.not_lt, Int.not_le] at *; go_simp))
    refine (HS.out _).mono ?_
    rintro r v ⟨rfl, rfl⟩
    repeat' (first | go_values | go_skip | go_guarded | go_step | go_upon | (simp only [Int.not_lt, Int.not_le] at *; go_simp))
    refine (HN.out _).mono ?_
    rintro r v ⟨rfl, rfl⟩
    repeat' (first | go_values | go_skip | go_guarded | go_step | go_upon | (simp only [Int.not_lt, Int.not_le] at *; go_simp))
    refine wp_abs (fun a0 => a0.tmps.size = 42 ∧ (∀ h, a0.tmps[1]'h = .int .i64 n) ∧ (∀ h, a0.tmps[2]'h = .int .i64 e) ∧ (∀ h, a0.tmps[3]'h = .pointer (some ⟨z0, 0, none⟩)) ∧ (∀ h, a0.tmps[7]'h = .pointer (some ⟨z7, 0, none⟩))) ⟨rfl, fun _ => rfl, fun _ => rfl, fun _ => rfl, fun _ => rfl⟩ ?_
    rintro a0 ⟨hsz, s1, s2, s3, s7⟩ ha0
    refine wp_region_held (S := fun W => Mm w W [(z7, 27, F), (z0, 27, F)]) (by kernel_rfl) ?_
    have hS : Mm w u.drew [(z7, 27, F), (z0, 27, F)] := ⟨hM.lies, hM.own, hM.ap, hM.below.drew⟩
    refine h_take (i := 0) (ag F) rfl (by kernel_rfl) (by kernel_rfl) (by kernel_rfl) (fun _ _ _ h => h) rfl hS (fun W hW => ex_load rfl row_board (by simp [go_sem, Act.put, hsz, s3]) hW.at1 HE.out HC.out) ?_
    refine h_take (i := 1) (.int .i64 n) rfl (by kernel_rfl) (by kernel_rfl) (by kernel_rfl) (fun _ _ _ h => h) rfl hS (fun W hW => by simp [execOp, go_sem, Act.put, hsz, s1, s2, s3, s7]) ?_
    refine h_take (i := 2) (.int .i64 e) rfl (by kernel_rfl) (by kernel_rfl) (by kernel_rfl) (fun _ _ _ h => h) rfl hS (fun W hW => by simp [execOp, go_sem, Act.put, hsz, s1, s2, s3, s7]) ?_
    refine h_take (i := 4) (ag F) rfl (by kernel_rfl) (by kernel_rfl) (by kernel_rfl) (fun _ _ _ h => h) rfl hS (fun W hW => ex_load rfl row_board (by simp [go_sem, Act.put, hsz, s7]) hW.at0 HE.out HC.out) ?_
    refine h_call (i := 3) 14 #[ag F, .int .i64 n, .int .i64 e] rfl (by kernel_rfl) rfl (by simp [execOp, go_sem, Act.put, hsz]) ((HH.out _).mono ?_)
    rintro r v ⟨rfl, hv⟩
    replace hS := hS.call hv
    refine ⟨_, rfl, hS, ?_⟩
    refine h_take (i := 5) (.bool (decide (F = F))) rfl (by kernel_rfl) (by kernel_rfl) (by kernel_rfl) (fun _ _ _ h => h) rfl hS (fun W hW => ex_eql rfl cmp_board (by simp [go_sem, Act.put, hsz]) (by simp [go_sem, Act.put, hsz]) HL.out HL.out) ?_
    refine h_take (i := 6) (.bool (decide (F = F))) rfl (by kernel_rfl) (by kernel_rfl) (by kernel_rfl) (fun _ _ _ h => h) rfl hS (fun W hW => by simp [execOp, go_sem, Act.put, hsz, s1, s2, s3, s7]) ?_
    refine wpAnyH_done (by kernel_rfl) ?_ _
    subst ha0
    clear hsz s1 s2 s3 s7
    go_simp
    repeat' (first | go_values | go_skip | go_guarded | go_step | go_upon | (simp only [Int.not_lt, Int.not_le] at *; go_simp))
    go_ret
    exact ⟨rfl, hS.below⟩
  have hee : edB e = true := by simpa using hee
  rw [hee] at HN
  obtain ⟨m, hm1, hm2, rfl⟩ : ∃ m : Nat, 1 ≤ m ∧ m ≤ 8 ∧ n = m := ⟨n.toNat, (sl_in hsn).1, (sl_in hsn).2.1, (sl_in hsn).2.2.symm⟩
  obtain ⟨j, hj1, hj2, rfl⟩ : ∃ j : Nat, 1 ≤ j ∧ j ≤ 31 ∧ e = j := ⟨e.toNat, (ed_in hee).1, (ed_in hee).2.1, (ed_in hee).2.2.symm⟩
  have htm : ((m : Int)).toNat = m := by omega
  have htj : ((j : Int)).toNat = j := by omega
  have HG : Hid ((fl B)[m * 66 + 2 + j]? = some (cl (sl B m) (2 + j))) := by show _ = _; rw [Nat.add_assoc]; exact fl_at hw (by omega) (by omega)
  have HJ : Hid (m * 66 + 2 + j < (fl B).length) := by show _ < _; rw [hw.length]; omega
  by_cases h1 : cl (sl B m) (2 + j) = 1
  · have HQ : Hid (hlt B (m : Int) (j : Int) = B.set m ((sl B m).set (2 + j) 2)) := by
      show _ = _
      unfold hlt en
      rw [htm, htj, if_pos ⟨by simpa using hb, hsn, hee, h1⟩]
    have HF : Hid ((fl B).set (m * 66 + 2 + j) 2 = fl (B.set m ((sl B m).set (2 + j) 2))) := by show _ = _; rw [Nat.add_assoc]; exact fl_set hw (by omega) (by omega)
    have HL2 : Hid ((fl (B.set m ((sl B m).set (2 + j) 2))).length = 594) := (hw.set (by rw [List.length_set]; exact hw.sl (by omega))).length
    have e1 : (cl (sl B m) (2 + j) == 1) = true := by simpa using h1
    rw [HQ.out] at HH
    generalize fl (B.set m ((sl B m).set (2 + j) 2)) = F2 at *
    have HC2 : Hid (cut F2 0 594 = F2) := cut_all HL2.out
    have HE2 : Hid (0 + 594 ≤ F2.length) := by show 0 + 594 ≤ _; rw [HL2.out]; omega
    clear hb hE hw hsn hee htm htj h1 HQ
    generalize fl B = F at *
    go_enter Try.func4, Try.ntmps4
    repeat' (first | (go_big_may; first | (refine a_box rfl rfl rfl ?_; intro u z0 hN; replace hM := hM.new hN; clear hN) | (refine a_load rfl rfl row_board rfl hM.at0 HE.out HC.out ?_) | (refine a_alloc rfl zer_board rfl ?_; intro u z7 hN; replace hM := hM.new hN; clear hN) | (refine a_fill rfl rfl row_board rfl rfl hM.at0 HL.out rep_594 ?_; intro u hv hc; replace hM := hM.put0 hc hv; clear hv hc) | (refine a_load rfl rfl row_board rfl hM.at1 HE.out HC.out ?_)) | go_values | go_skip | go_guarded | go_step | go_upon | (simp only [Int.not_lt, Int.not_le] at *; go_simp))
    refine (HK.out _).mono ?_
    rintro r u ⟨rfl, hv⟩
    replace hM := hM.call hv
    clear hv
    repeat' (first | go_values | go_skip | go_guarded | go_step | go_upon | (simp only [Int.not_lt, Int.not_le] at *; go_simp))
    refine (HS.out _).mono ?_
    rintro r v ⟨rfl, rfl⟩
    repeat' (first | go_values | go_skip | go_guarded | go_step | go_upon | (simp only [Int.not_lt, Int.not_le] at *; go_simp))
    refine (HN.out _).mono ?_
    rintro r v ⟨rfl, rfl⟩
    repeat' (first | (go_big_may; first | (refine a_get rfl rfl rfl hM.at1 HG.out ?_) | (refine a_put rfl rfl rfl rfl hM.at0 HJ.out ?_; intro u hv hc; replace hM := hM.put0 hc hv; clear hv hc; rw [HF.out] at hM)) | go_values | go_skip | go_guarded | go_step | go_upon | (simp only [Int.not_lt, Int.not_le] at *; go_simp))
    refine wp_abs (fun a0 => a0.tmps.size = 42 ∧ (∀ h, a0.tmps[1]'h = .int .i64 (m : Int)) ∧ (∀ h, a0.tmps[2]'h = .int .i64 (j : Int)) ∧ (∀ h, a0.tmps[3]'h = .pointer (some ⟨z0, 0, none⟩)) ∧ (∀ h, a0.tmps[7]'h = .pointer (some ⟨z7, 0, none⟩))) ⟨rfl, fun _ => rfl, fun _ => rfl, fun _ => rfl, fun _ => rfl⟩ ?_
    rintro a0 ⟨hsz, s1, s2, s3, s7⟩ ha0
    refine wp_region_held (S := fun W => Mm w W [(z7, 27, F2), (z0, 27, F)]) (by kernel_rfl) ?_
    have hS : Mm w u.drew [(z7, 27, F2), (z0, 27, F)] := ⟨hM.lies, hM.own, hM.ap, hM.below.drew⟩
    refine h_take (i := 0) (ag F) rfl (by kernel_rfl) (by kernel_rfl) (by kernel_rfl) (fun _ _ _ h => h) rfl hS (fun W hW => ex_load rfl row_board (by simp [go_sem, Act.put, hsz, s3]) hW.at1 HE.out HC.out) ?_
    refine h_take (i := 1) (.int .i64 (m : Int)) rfl (by kernel_rfl) (by kernel_rfl) (by kernel_rfl) (fun _ _ _ h => h) rfl hS (fun W hW => by simp [execOp, go_sem, Act.put, hsz, s1, s2, s3, s7]) ?_
    refine h_take (i := 2) (.int .i64 (j : Int)) rfl (by kernel_rfl) (by kernel_rfl) (by kernel_rfl) (fun _ _ _ h => h) rfl hS (fun W hW => by simp [execOp, go_sem, Act.put, hsz, s1, s2, s3, s7]) ?_
    refine h_take (i := 4) (ag F2) rfl (by kernel_rfl) (by kernel_rfl) (by kernel_rfl) (fun _ _ _ h => h) rfl hS (fun W hW => ex_load rfl row_board (by simp [go_sem, Act.put, hsz, s7]) hW.at0 HE2.out HC2.out) ?_
    refine h_call (i := 3) 14 #[ag F, .int .i64 (m : Int), .int .i64 (j : Int)] rfl (by kernel_rfl) rfl (by simp [execOp, go_sem, Act.put, hsz]) ((HH.out _).mono ?_)
    rintro r v ⟨rfl, hv⟩
    replace hS := hS.call hv
    refine ⟨_, rfl, hS, ?_⟩
    refine h_take (i := 5) (.bool (decide (F2 = F2))) rfl (by kernel_rfl) (by kernel_rfl) (by kernel_rfl) (fun _ _ _ h => h) rfl hS (fun W hW => ex_eql rfl cmp_board (by simp [go_sem, Act.put, hsz]) (by simp [go_sem, Act.put, hsz]) HL2.out HL2.out) ?_
    refine h_take (i := 6) (.bool (decide (F2 = F2))) rfl (by kernel_rfl) (by kernel_rfl) (by kernel_rfl) (fun _ _ _ h => h) rfl hS (fun W hW => by simp [execOp, go_sem, Act.put, hsz, s1, s2, s3, s7]) ?_
    refine wpAnyH_done (by kernel_rfl) ?_ _
    subst ha0
    clear hsz s1 s2 s3 s7
    go_simp
    repeat' (first | go_values | go_skip | go_guarded | go_step | go_upon | (simp only [Int.not_lt, Int.not_le] at *; go_simp))
    go_ret
    exact ⟨rfl, hS.below⟩
  · have HQ : Hid (hlt B (m : Int) (j : Int) = B) := by
      show _ = _
      unfold hlt en
      rw [htm, htj, if_neg (fun h => h1 h.2.2.2)]
    have e1 : (cl (sl B m) (2 + j) == 1) = false := by simpa using h1
    rw [HQ.out] at HH
    clear hb hE hw hsn hee htm htj h1 HQ
    generalize fl B = F at *
    go_enter Try.func4, Try.ntmps4
    repeat' (first | (go_big_may; first | (refine a_box rfl rfl rfl ?_; intro u z0 hN; replace hM := hM.new hN; clear hN) | (refine a_load rfl rfl row_board rfl hM.at0 HE.out HC.out ?_) | (refine a_alloc rfl zer_board rfl ?_; intro u z7 hN; replace hM := hM.new hN; clear hN) | (refine a_fill rfl rfl row_board rfl rfl hM.at0 HL.out rep_594 ?_; intro u hv hc; replace hM := hM.put0 hc hv; clear hv hc) | (refine a_load rfl rfl row_board rfl hM.at1 HE.out HC.out ?_)) | go_values | go_skip | go_guarded | go_step | go_upon | (simp only [Int.not_lt, Int.not_le] at *; go_simp))
    refine (HK.out _).mono ?_
    rintro r u ⟨rfl, hv⟩
    replace hM := hM.call hv
    clear hv
    repeat' (first | go_values | go_skip | go_guarded | go_step | go_upon | (simp only [Int.not_lt, Int.not_le] at *; go_simp))
    refine (HS.out _).mono ?_
    rintro r v ⟨rfl, rfl⟩
    repeat' (first | go_values | go_skip | go_guarded | go_step | go_upon | (simp only [Int.not_lt, Int.not_le] at *; go_simp))
    refine (HN.out _).mono ?_
    rintro r v ⟨rfl, rfl⟩
    repeat' (first | (go_big_may; first | (refine a_get rfl rfl rfl hM.at1 HG.out ?_)) | go_values | go_skip | go_guarded | go_step | go_upon | (simp only [Int.not_lt, Int.not_le] at *; go_simp))
    refine wp_abs (fun a0 => a0.tmps.size = 42 ∧ (∀ h, a0.tmps[1]'h = .int .i64 (m : Int)) ∧ (∀ h, a0.tmps[2]'h = .int .i64 (j : Int)) ∧ (∀ h, a0.tmps[3]'h = .pointer (some ⟨z0, 0, none⟩)) ∧ (∀ h, a0.tmps[7]'h = .pointer (some ⟨z7, 0, none⟩))) ⟨rfl, fun _ => rfl, fun _ => rfl, fun _ => rfl, fun _ => rfl⟩ ?_
    rintro a0 ⟨hsz, s1, s2, s3, s7⟩ ha0
    refine wp_region_held (S := fun W => Mm w W [(z7, 27, F), (z0, 27, F)]) (by kernel_rfl) ?_
    have hS : Mm w u.drew [(z7, 27, F), (z0, 27, F)] := ⟨hM.lies, hM.own, hM.ap, hM.below.drew⟩
    refine h_take (i := 0) (ag F) rfl (by kernel_rfl) (by kernel_rfl) (by kernel_rfl) (fun _ _ _ h => h) rfl hS (fun W hW => ex_load rfl row_board (by simp [go_sem, Act.put, hsz, s3]) hW.at1 HE.out HC.out) ?_
    refine h_take (i := 1) (.int .i64 (m : Int)) rfl (by kernel_rfl) (by kernel_rfl) (by kernel_rfl) (fun _ _ _ h => h) rfl hS (fun W hW => by simp [execOp, go_sem, Act.put, hsz, s1, s2, s3, s7]) ?_
    refine h_take (i := 2) (.int .i64 (j : Int)) rfl (by kernel_rfl) (by kernel_rfl) (by kernel_rfl) (fun _ _ _ h => h) rfl hS (fun W hW => by simp [execOp, go_sem, Act.put, hsz, s1, s2, s3, s7]) ?_
    refine h_take (i := 4) (ag F) rfl (by kernel_rfl) (by kernel_rfl) (by kernel_rfl) (fun _ _ _ h => h) rfl hS (fun W hW => ex_load rfl row_board (by simp [go_sem, Act.put, hsz, s7]) hW.at0 HE.out HC.out) ?_
    refine h_call (i := 3) 14 #[ag F, .int .i64 (m : Int), .int .i64 (j : Int)] rfl (by kernel_rfl) rfl (by simp [execOp, go_sem, Act.put, hsz]) ((HH.out _).mono ?_)
    rintro r v ⟨rfl, hv⟩
    replace hS := hS.call hv
    refine ⟨_, rfl, hS, ?_⟩
    refine h_take (i := 5) (.bool (decide (F = F))) rfl (by kernel_rfl) (by kernel_rfl) (by kernel_rfl) (fun _ _ _ h => h) rfl hS (fun W hW => ex_eql rfl cmp_board (by simp [go_sem, Act.put, hsz]) (by simp [go_sem, Act.put, hsz]) HL.out HL.out) ?_
    refine h_take (i := 6) (.bool (decide (F = F))) rfl (by kernel_rfl) (by kernel_rfl) (by kernel_rfl) (fun _ _ _ h => h) rfl hS (fun W hW => by simp [execOp, go_sem, Act.put, hsz, s1, s2, s3, s7]) ?_
    refine wpAnyH_done (by kernel_rfl) ?_ _
    subst ha0
    clear hsz s1 s2 s3 s7
    go_simp
    repeat' (first | go_values | go_skip | go_guarded | go_step | go_upon | (simp only [Int.not_lt, Int.not_le] at *; go_simp))
    go_ret
    exact ⟨rfl, hS.below⟩
theorem walk (B : Bd) (n e : Int) (h1 : (Lit.int .i64 n).wf = true) (h2 : (Lit.int .i64 e).wf = true) (w : World) (hw : Wf B) : Calls Try.prog 4 #[ag (fl B), .int .i64 n, .int .i64 e] w fun r w' => r = .returned (.bool true) ∧ Below w.heap.size w w' := walk0 B n e w hw
end Go.Proofs.Ytfhlbndilkidhaa.slotsHalt
