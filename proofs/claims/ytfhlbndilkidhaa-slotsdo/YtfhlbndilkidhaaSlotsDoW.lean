/- SlotsDo: Check and Do answer what the document says. -/
import Derived.Test.YtfhlbndilkidhaaSltRe
namespace Go.Proofs.Ytfhlbndilkidhaa.slotsDo
open Go Go.RowKit Go.Proofs.Ytfhlbndilkidhaa.slots
set_option linter.unusedVariables false
set_option linter.unusedSimpArgs false
set_option maxRecDepth 100000

set_option maxHeartbeats 16000000 in
theorem walk (B : Bd) (k n e a : Int) (w : World) (hw : Wf B) (hin : InB k n e a) : Calls Try.prog 3 #[ag (fl B), ag [k, n, e, a]] w fun r w' => r = .returned (.bool true) ∧ Below w.heap.size w w' := by
  have HL : Hid ((fl B).length = 594) := hw.length
  have HE : Hid (0 + 594 ≤ (fl B).length) := by show 0 + 594 ≤ _; rw [hw.length]; omega
  have HC : Hid (cut (fl B) 0 594 = fl B) := cut_all hw.length
  have HC4 : Hid (cut [k, n, e, a] 0 4 = [k, n, e, a]) := rfl
  have HE4 : Hid (0 + 4 ≤ ([k, n, e, a] : List Int).length) := Nat.le_refl _
  have hx : Wf (doB B k n e a).B := do_wf hw
  have HLx : Hid ((fl (doB B k n e a).B).length = 594) := hx.length
  have HEx : Hid (0 + 594 ≤ (fl (doB B k n e a).B).length) := by show 0 + 594 ≤ _; rw [hx.length]; omega
  have HCx : Hid (cut (fl (doB B k n e a).B) 0 594 = fl (doB B k n e a).B) := cut_all hx.length
  have HD : Hid (∀ u, Calls Try.prog 9 #[ag (fl B), ag [k, n, e, a]] u fun r w' => r = .returned (.tuple #[ag (fl (doB B k n e a).B), .int .i64 (doB B k n e a).c, .int .i64 (doB B k n e a).n]) ∧ Below u.heap.size u w') := fun u => do_any B k n e a u hw hin.a1 hin.a2
  have HN : Hid (∀ u, Calls Try.prog 10 #[ag (fl B), ag [k, n, e, a]] u fun r w' => r = .returned (.tuple #[ag (fl (doB B k n e a).B), .int .i64 (doB B k n e a).c, .int .i64 (doB B k n e a).n]) ∧ Below u.heap.size u w') := fun u => done_any B k n e a u hw
  have HCk : Hid (∀ u, Calls Try.prog 11 #[ag (fl B)] u fun r w' => r = .returned (.int .i64 (chE B)) ∧ Below u.heap.size u w') := fun u => check_any B u hw
  have HBd : Hid (∀ u, Calls Try.prog 12 #[ag (fl B)] u fun r w' => r = .returned (.int .i64 (chE B)) ∧ Below u.heap.size u w') := fun u => board_any B u hw
  have hM := Mm.nil w
  clear hw hx hin
  generalize (doB B k n e a).c = xc at *
  generalize (doB B k n e a).n = xn at *
  generalize fl (doB B k n e a).B = G at *
  generalize chE B = ck at *
  generalize fl B = F at *
  go_enter Try.func3, Try.ntmps3
  repeat' (first | (go_big_may; first | (refine a_box (t := 27) rfl rfl rfl ?_; intro u z2 hN; replace hM := hM.new hN; clear hN) | (refine a_box (t := 29) rfl rfl rfl ?_; intro u z3 hN; replace hM := hM.new hN; clear hN) | (refine a_load rfl rfl row_board rfl hM.at1 HE.out HC.out ?_) | (refine a_load rfl rfl row_cmd rfl hM.at0 HE4.out HC4.out ?_)) | go_values | go_skip | go_guarded | go_step | go_upon | (simp only [Int.not_lt, Int.not_le] at *; go_simp))
  refine (HD.out _).mono ?_
  rintro r u ⟨rfl, hv⟩
  replace hM := hM.call hv
  clear hv
  repeat' (first | (go_big_may; first | (refine a_alloc rfl zer_board rfl ?_; intro u z5 hN; replace hM := hM.new hN; clear hN) | (refine a_fill rfl rfl row_board rfl rfl hM.at0 HLx.out rep_594 ?_; intro u hv hc; replace hM := hM.put0 hc hv; clear hv hc) | (refine a_load rfl rfl row_board rfl hM.at2 HE.out HC.out ?_) | (refine a_load rfl rfl row_cmd rfl hM.at1 HE4.out HC4.out ?_)) | go_values | go_skip | go_guarded | go_step | go_upon | (simp only [Int.not_lt, Int.not_le] at *; go_simp))
  refine (HN.out _).mono ?_
  rintro r u ⟨rfl, hv⟩
  replace hM := hM.call hv
  clear hv
  repeat' (first | (go_big_may; first | (refine a_alloc rfl zer_board rfl ?_; intro u z8 hN; replace hM := hM.new hN; clear hN) | (refine a_fill rfl rfl row_board rfl rfl hM.at0 HLx.out rep_594 ?_; intro u hv hc; replace hM := hM.put0 hc hv; clear hv hc)) | go_values | go_skip | go_guarded | go_step | go_upon | (simp only [Int.not_lt, Int.not_le] at *; go_simp))
  clear HD HN
  go_simp
  refine wp_abs (fun a0 => a0.tmps.size = 45 ∧ (∀ h, a0.tmps[2]'h = .pointer (some ⟨z2, 0, none⟩)) ∧ (∀ h, a0.tmps[5]'h = .pointer (some ⟨z5, 0, none⟩)) ∧ (∀ h, a0.tmps[6]'h = .int .i64 xc) ∧ (∀ h, a0.tmps[7]'h = .int .i64 xn) ∧ (∀ h, a0.tmps[8]'h = .pointer (some ⟨z8, 0, none⟩)) ∧ (∀ h, a0.tmps[9]'h = .int .i64 xc) ∧ (∀ h, a0.tmps[10]'h = .int .i64 xn)) ⟨rfl, fun _ => rfl, fun _ => rfl, fun _ => rfl, fun _ => rfl, fun _ => rfl, fun _ => rfl, fun _ => rfl⟩ ?_
  rintro a0 ⟨hsz, s2, s5, s6, s7, s8, s9, s10⟩ ha0
  refine wp_region_held (S := fun W => Mm w W [(z8, 27, G), (z5, 27, G), (z3, 29, [k, n, e, a]), (z2, 27, F)]) (by kernel_rfl) ?_
  have hS : Mm w u.drew [(z8, 27, G), (z5, 27, G), (z3, 29, [k, n, e, a]), (z2, 27, F)] := ⟨hM.lies, hM.own, hM.ap, hM.below.drew⟩
  refine h_take (i := 0) (ag F) rfl (by kernel_rfl) (by kernel_rfl) (by kernel_rfl) (fun _ _ _ h => h) rfl hS (fun W hW => ex_load rfl row_board (by simp [go_sem, Act.put, hsz, s2, s5, s6, s7, s8, s9, s10]) hW.at3 HE.out HC.out) ?_
  refine h_take (i := 2) (ag F) rfl (by kernel_rfl) (by kernel_rfl) (by kernel_rfl) (fun _ _ _ h => h) rfl hS (fun W hW => ex_load rfl row_board (by simp [go_sem, Act.put, hsz, s2, s5, s6, s7, s8, s9, s10]) hW.at3 HE.out HC.out) ?_
  refine h_call (i := 1) 11 #[ag F] rfl (by kernel_rfl) rfl (by simp [execOp, go_sem, Act.put, hsz]) ((HCk.out _).mono ?_)
  rintro r v ⟨rfl, hv⟩
  replace hS := hS.call hv
  refine ⟨_, rfl, hS, ?_⟩
  refine h_call (i := 3) 12 #[ag F] rfl (by kernel_rfl) rfl (by simp [execOp, go_sem, Act.put, hsz]) ((HBd.out _).mono ?_)
  rintro r v2 ⟨rfl, hv2⟩
  replace hS := hS.call hv2
  refine ⟨_, rfl, hS, ?_⟩
  refine h_take (i := 4) (.bool true) rfl (by kernel_rfl) (by kernel_rfl) (by kernel_rfl) (fun _ _ _ h => h) rfl hS (fun W hW => by simp [execOp, go_sem, Act.put, hsz, s2, s5, s6, s7, s8, s9, s10]) ?_
  refine h_take (i := 5) (.bool true) rfl (by kernel_rfl) (by kernel_rfl) (by kernel_rfl) (fun _ _ _ h => h) rfl hS (fun W hW => by simp [execOp, go_sem, Act.put, hsz, s2, s5, s6, s7, s8, s9, s10]) ?_
  refine g_take (i := 6) (ag G) rfl (by kernel_rfl) (by kernel_rfl) (by kernel_rfl) (fun _ _ _ h => h) (wanted_of 5 true 30 rfl (by kernel_rfl) (by simp [Act.put, hsz])) hS (fun W hW => ex_load rfl row_board (by simp [go_sem, Act.put, hsz, s2, s5, s6, s7, s8, s9, s10]) hW.at1 HEx.out HCx.out) ?_
  refine g_take (i := 7) (ag G) rfl (by kernel_rfl) (by kernel_rfl) (by kernel_rfl) (fun _ _ _ h => h) (wanted_of 5 true 30 rfl (by kernel_rfl) (by simp [Act.put, hsz])) hS (fun W hW => ex_load rfl row_board (by simp [go_sem, Act.put, hsz, s2, s5, s6, s7, s8, s9, s10]) hW.at0 HEx.out HCx.out) ?_
  refine g_take (i := 8) (.bool (decide (G = G))) rfl (by kernel_rfl) (by kernel_rfl) (by kernel_rfl) (fun _ _ _ h => h) (wanted_of 5 true 30 rfl (by kernel_rfl) (by simp [Act.put, hsz])) hS (fun W hW => ex_eql rfl cmp_board (by simp [go_sem, Act.put, hsz]) (by simp [go_sem, Act.put, hsz]) HLx.out HLx.out) ?_
  rw [decide_eq_true (rfl : G = G)]
  refine h_take (i := 9) (.bool true) rfl (by kernel_rfl) (by kernel_rfl) (by kernel_rfl) (fun _ _ _ h => h) rfl hS (fun W hW => by simp [execOp, go_sem, Act.put, hsz, s2, s5, s6, s7, s8, s9, s10]) ?_
  refine h_take (i := 10) (.bool true) rfl (by kernel_rfl) (by kernel_rfl) (by kernel_rfl) (fun _ _ _ h => h) rfl hS (fun W hW => by simp [execOp, go_sem, Act.put, hsz, s2, s5, s6, s7, s8, s9, s10]) ?_
  refine g_take (i := 11) (.int .i64 xc) rfl (by kernel_rfl) (by kernel_rfl) (by kernel_rfl) (fun _ _ _ h => h) (wanted_of 10 true 35 rfl (by kernel_rfl) (by simp [Act.put, hsz])) hS (fun W hW => by simp [execOp, go_sem, Act.put, hsz, s2, s5, s6, s7, s8, s9, s10]) ?_
  refine g_take (i := 12) (.int .i64 xc) rfl (by kernel_rfl) (by kernel_rfl) (by kernel_rfl) (fun _ _ _ h => h) (wanted_of 10 true 35 rfl (by kernel_rfl) (by simp [Act.put, hsz])) hS (fun W hW => by simp [execOp, go_sem, Act.put, hsz, s2, s5, s6, s7, s8, s9, s10]) ?_
  refine g_take (i := 13) (.bool true) rfl (by kernel_rfl) (by kernel_rfl) (by kernel_rfl) (fun _ _ _ h => h) (wanted_of 10 true 35 rfl (by kernel_rfl) (by simp [Act.put, hsz])) hS (fun W hW => by simp [execOp, go_sem, Act.put, hsz, s2, s5, s6, s7, s8, s9, s10]) ?_
  refine h_take (i := 14) (.bool true) rfl (by kernel_rfl) (by kernel_rfl) (by kernel_rfl) (fun _ _ _ h => h) rfl hS (fun W hW => by simp [execOp, go_sem, Act.put, hsz, s2, s5, s6, s7, s8, s9, s10]) ?_
  refine h_take (i := 15) (.bool true) rfl (by kernel_rfl) (by kernel_rfl) (by kernel_rfl) (fun _ _ _ h => h) rfl hS (fun W hW => by simp [execOp, go_sem, Act.put, hsz, s2, s5, s6, s7, s8, s9, s10]) ?_
  refine g_take (i := 16) (.int .i64 xn) rfl (by kernel_rfl) (by kernel_rfl) (by kernel_rfl) (fun _ _ _ h => h) (wanted_of 15 true 40 rfl (by kernel_rfl) (by simp [Act.put, hsz])) hS (fun W hW => by simp [execOp, go_sem, Act.put, hsz, s2, s5, s6, s7, s8, s9, s10]) ?_
  refine g_take (i := 17) (.int .i64 xn) rfl (by kernel_rfl) (by kernel_rfl) (by kernel_rfl) (fun _ _ _ h => h) (wanted_of 15 true 40 rfl (by kernel_rfl) (by simp [Act.put, hsz])) hS (fun W hW => by simp [execOp, go_sem, Act.put, hsz, s2, s5, s6, s7, s8, s9, s10]) ?_
  refine g_take (i := 18) (.bool true) rfl (by kernel_rfl) (by kernel_rfl) (by kernel_rfl) (fun _ _ _ h => h) (wanted_of 15 true 40 rfl (by kernel_rfl) (by simp [Act.put, hsz])) hS (fun W hW => by simp [execOp, go_sem, Act.put, hsz, s2, s5, s6, s7, s8, s9, s10]) ?_
  refine h_take (i := 19) (.bool true) rfl (by kernel_rfl) (by kernel_rfl) (by kernel_rfl) (fun _ _ _ h => h) rfl hS (fun W hW => by simp [execOp, go_sem, Act.put, hsz, s2, s5, s6, s7, s8, s9, s10]) ?_
  refine h_take (i := 20) (.bool true) rfl (by kernel_rfl) (by kernel_rfl) (by kernel_rfl) (fun _ _ _ h => h) rfl hS (fun W hW => by simp [execOp, go_sem, Act.put, hsz, s2, s5, s6, s7, s8, s9, s10]) ?_
  refine wpAnyH_done (by kernel_rfl) ?_ _
  subst ha0
  clear hsz s2 s5 s6 s7 s8 s9 s10
  go_simp
  repeat' (first | go_values | go_skip | go_guarded | go_step | go_upon | (simp only [Int.not_lt, Int.not_le] at *; go_simp))
  go_ret
  exact ⟨rfl, hS.below⟩
end Go.Proofs.Ytfhlbndilkidhaa.slotsDo
