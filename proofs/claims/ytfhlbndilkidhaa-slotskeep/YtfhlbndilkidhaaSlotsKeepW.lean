/- SlotsKeep: what a command leaves. -/
import Derived.Test.YtfhlbndilkidhaaSltT
import Derived.Test.YtfhlbndilkidhaaSltV
import Derived.Test.YtfhlbndilkidhaaSltO
namespace Go.Proofs.Ytfhlbndilkidhaa.slotsKeep
open Go Go.RowKit Go.Proofs.Ytfhlbndilkidhaa.slots
set_option linter.unusedVariables false
set_option linter.unusedSimpArgs false
set_option maxRecDepth 100000

/-- a command that is done leaves all other slots; the slot that is told -/
theorem keeps {B : Bd} {k n e a : Int} (hw : Wf B) (h : (doB B k n e a).c = 1) : (∀ i : Nat, i < 9 → (i : Int) ≠ (doB B k n e a).n → sl (doB B k n e a).B i = sl B i) ∧ (k = 1 ∨ k = 2 ∨ (doB B k n e a).n = n) := by
  have hc := do_chk h
  unfold doB at h ⊢
  rw [hc, if_neg (by simp)] at h ⊢
  by_cases c1 : k = 1
  · rw [if_pos c1]; exact ⟨fun i _ _ => rfl, .inl c1⟩
  rw [if_neg c1] at h ⊢
  by_cases c2 : k = 2
  · rw [if_pos c2] at h ⊢
    refine ⟨fun i hi hne => ?_, .inr (.inl c2)⟩
    unfold enb at h hne ⊢
    by_cases f : fr B ≤ 8
    · rw [if_pos f] at hne ⊢
      show sl (B.set _ _) i = _
      rw [sl_set hw.nine (by omega), if_neg (fun q => hne (by rw [q]))]
    · rw [if_neg f]
  rw [if_neg c2] at h ⊢
  by_cases c3 : 3 ≤ k ∧ k ≤ 9
  · rw [if_pos c3] at h ⊢
    unfold ats at h ⊢
    by_cases q : slB n = false
    · rw [if_pos q] at h; exact absurd h (show ¬ (5 : Int) = 1 by decide)
    · rw [if_neg q] at h ⊢
      have hn := sl_in (s := n) (by simpa using q)
      refine ⟨fun i hi hne => ?_, .inr (.inr rfl)⟩
      show sl (B.set _ _) i = _
      have hne' : (i : Int) ≠ n := hne
      rw [sl_set hw.nine (by omega), if_neg (by omega)]
  · rw [if_neg c3] at h; exact absurd h (show ¬ (5 : Int) = 1 by decide)
set_option maxHeartbeats 16000000 in
theorem walk (B : Bd) (k n e a : Int) (w : World) (hw : Wf B) (hin : InB k n e a) : Calls Try.prog 5 #[ag (fl B), ag [k, n, e, a]] w fun r w' => r = .returned (.bool true) ∧ Below w.heap.size w w' := by
  have HL : Hid ((fl B).length = 594) := hw.length
  have HE : Hid (0 + 594 ≤ (fl B).length) := by show 0 + 594 ≤ _; rw [hw.length]; omega
  have HC : Hid (cut (fl B) 0 594 = fl B) := cut_all hw.length
  have hx : Wf (doB B k n e a).B := do_wf hw
  have HLx : Hid ((fl (doB B k n e a).B).length = 594) := hx.length
  have HEx : Hid (0 + 594 ≤ (fl (doB B k n e a).B).length) := by show 0 + 594 ≤ _; rw [hx.length]; omega
  have HCx : Hid (cut (fl (doB B k n e a).B) 0 594 = fl (doB B k n e a).B) := cut_all hx.length
  have HD : Hid (∀ u, Calls Try.prog 9 #[ag (fl B), ag [k, n, e, a]] u fun r w' => r = .returned (.tuple #[ag (fl (doB B k n e a).B), .int .i64 (doB B k n e a).c, .int .i64 (doB B k n e a).n]) ∧ Below u.heap.size u w') := fun u => do_any B k n e a u hw hin.a1 hin.a2
  have HV : Hid (∀ u, Calls Try.prog 15 #[] u fun e w' => e = .returned (.bool true) ∧ Below u.heap.size u w') := lives_any
  have HC4 : Hid (cut [k, n, e, a] 0 4 = [k, n, e, a]) := rfl
  have HE4 : Hid (0 + 4 ≤ ([k, n, e, a] : List Int).length) := Nat.le_refl _
  have HQ0 : Hid (([k, n, e, a] : List Int)[0]? = some k) := rfl
  have HQ1 : Hid (([k, n, e, a] : List Int)[1]? = some n) := rfl
  have hM := Mm.nil w
  by_cases hc : ¬ (doB B k n e a).c = 1
  · have HX : Hid (fl (doB B k n e a).B = fl B) := by show _ = _; rw [do_no hw hc]
    have e1 : ((doB B k n e a).c != 1) = true := by simpa using hc
    have e2 : decide (fl (doB B k n e a).B = fl B) = true := decide_eq_true HX.out
    clear hc hw hx HX hin
    generalize (doB B k n e a).c = xc at *
    generalize (doB B k n e a).n = xn at *
    generalize fl (doB B k n e a).B = G at *
    generalize fl B = F at *
    go_enter Try.func5, Try.ntmps5
    repeat' (first | (go_big_may; first | (refine a_box rfl rfl rfl ?_; intro u zb hN; replace hM := hM.new hN; clear hN) | (refine a_load rfl rfl row_board rfl hM.at1 HE.out HC.out ?_) | (refine a_load rfl rfl row_cmd rfl hM.at0 HE4.out HC4.out ?_)) | go_values | go_skip | go_guarded | go_step | go_upon | (simp only [Int.not_lt, Int.not_le] at *; go_simp))
    refine (HD.out _).mono ?_
    rintro r u ⟨rfl, hv⟩
    replace hM := hM.call hv
    clear hv
    repeat' (first | (go_big_may; first | (refine a_alloc rfl zer_board rfl ?_; intro u zb hN; replace hM := hM.new hN; clear hN) | (refine a_fill rfl rfl row_board rfl rfl hM.at0 HLx.out rep_594 ?_; intro u hv hc; replace hM := hM.put0 hc hv; clear hv hc)) | go_values | go_skip | go_guarded | go_step | go_upon | (simp only [Int.not_lt, Int.not_le] at *; go_simp))
    refine (HV.out _).mono ?_
    rintro r u ⟨rfl, hv⟩
    replace hM := hM.call hv
    clear hv
    repeat' (first | go_values | go_skip | go_guarded | go_step | go_upon | (simp only [Int.not_lt, Int.not_le] at *; go_simp))
    refine (HV.out _).mono ?_
    rintro r u ⟨rfl, hv⟩
    replace hM := hM.call hv
    clear hv
    repeat' (first | (go_big_may; first | (refine a_load rfl rfl row_board rfl hM.at0 HEx.out HCx.out ?_) | (refine a_load rfl rfl row_board rfl hM.at2 HE.out HC.out ?_) | (refine a_eql rfl rfl cmp_board rfl rfl HLx.out HL.out ?_; rw [e2])) | go_values | go_skip | go_guarded | go_step | go_upon | (simp only [Int.not_lt, Int.not_le] at *; go_simp))
    go_ret
    exact ⟨rfl, hM.below⟩
  have hc : (doB B k n e a).c = 1 := by omega
  obtain ⟨hk1, hk2⟩ := keeps hw hc
  have hok : Ok (doB B k n e a).B := do_ok hw ((chk_iff hw).1 (do_chk hc))
  have HBd : Hid (∀ u, Calls Try.prog 12 #[ag (fl (doB B k n e a).B)] u fun r w' => r = .returned (.int .i64 0) ∧ Below u.heap.size u w') := fun u => by
    have := board_any _ u hx
    rw [chE_ok hx hok] at this
    exact this
  have HSL : Hid (∀ i : Nat, i < 9 → cut (fl B) (i * 66) 66 = sl B i ∧ cut (fl (doB B k n e a).B) (i * 66) 66 = sl (doB B k n e a).B i ∧ (sl B i).length = 66 ∧ (sl (doB B k n e a).B i).length = 66) := fun i hi => ⟨fl_cut hw hi, fl_cut hx hi, hw.sl hi, hx.sl hi⟩
  have HK1 : Hid _ := hk1
  have HK2 : Hid _ := hk2
  rw [hc] at HD
  clear hc hw hx hok hk1 hk2 hin
  generalize doB B k n e a = X at *
  obtain ⟨xB, xc, xn⟩ := X
  simp only at HLx HEx HCx HD HBd HSL HK1 HK2
  obtain ⟨F, hF⟩ : ∃ F, fl B = F := ⟨_, rfl⟩
  obtain ⟨G, hG⟩ : ∃ G, fl xB = G := ⟨_, rfl⟩
  rw [hF] at HL HE HC HD HSL ⊢
  rw [hG] at HLx HEx HCx HD HBd HSL
  clear hF hG
  go_enter Try.func5, Try.ntmps5
  repeat' (first | (go_big_may; first | (refine a_box (t := 27) rfl rfl rfl ?_; intro u zbd hN; replace hM := hM.new hN; clear hN) | (refine a_box (t := 29) rfl rfl rfl ?_; intro u zc hN; replace hM := hM.new hN; clear hN) | (refine a_load rfl rfl row_board rfl hM.at1 HE.out HC.out ?_) | (refine a_load rfl rfl row_cmd rfl hM.at0 HE4.out HC4.out ?_)) | go_values | go_skip | go_guarded | go_step | go_upon | (simp only [Int.not_lt, Int.not_le] at *; go_simp))
  refine (HD.out _).mono ?_
  rintro r u ⟨rfl, hv⟩
  replace hM := hM.call hv
  clear hv
  repeat' (first | (go_big_may; first | (refine a_alloc rfl zer_board rfl ?_; intro u zx hN; replace hM := hM.new hN; clear hN) | (refine a_fill rfl rfl row_board rfl rfl hM.at0 HLx.out rep_594 ?_; intro u hv hc; replace hM := hM.put0 hc hv; clear hv hc)) | go_values | go_skip | go_guarded | go_step | go_upon | (simp only [Int.not_lt, Int.not_le] at *; go_simp))
  refine (HV.out _).mono ?_
  rintro r u ⟨rfl, hv⟩
  replace hM := hM.call hv
  clear hv HV HD
  repeat' (first | go_values | go_skip | go_guarded | go_step | go_upon | (simp only [Int.not_lt, Int.not_le] at *; go_simp))
  have HM : Hid (Mm w u [(zx, 27, G), (zc, 29, [k, n, e, a]), (zbd, 27, F)]) := hM
  clear hM
  go_loopw [8, 28] (fun _ i wr => ∃ j : Nat, j ≤ 9 ∧ i = .int .i64 (j : Int) ∧ Hid (Mm w wr [(zx, 27, G), (zc, 29, [k, n, e, a]), (zbd, 27, F)])) (fun _ i _ => 9 - (intOf i).toNat)
  case atStart => exact ⟨0, by omega, rfl, HM.out⟩
  case round =>
    obtain ⟨i, hi, rfl, HA⟩ := hrel
    have hM := HA.out
    clear HA HM
    by_cases hlt : ¬ i < 9
    · clear HSL HK1
      repeat' (first | (go_big_may; first | (refine a_load rfl rfl row_board rfl hM.at0 HEx.out HCx.out ?_)) | go_values | go_skip | go_guarded | go_step | go_upon | (simp only [Int.not_lt, Int.not_le] at *; go_simp))
      refine (HBd.out _).mono ?_
      rintro r u ⟨rfl, hv⟩
      replace hM := hM.call hv
      clear hv
      by_cases c1 : k = 1
      · have q1 : (k == 1) = true := by simpa using c1
        clear HK2 c1
        repeat' (first | (go_big_may; first | (refine a_get rfl rfl rfl hM.at1 HQ0.out ?_)) | go_values | go_skip | go_guarded | go_step | go_upon | (simp only [Int.not_lt, Int.not_le] at *; go_simp))
        go_ret
        exact ⟨rfl, hM.below⟩
      have q1 : (k == 1) = false := by simpa using c1
      by_cases c2 : k = 2
      · have q2 : (k == 2) = true := by simpa using c2
        clear HK2 c1 c2
        repeat' (first | (go_big_may; first | (refine a_get rfl rfl rfl hM.at1 HQ0.out ?_)) | go_values | go_skip | go_guarded | go_step | go_upon | (simp only [Int.not_lt, Int.not_le] at *; go_simp))
        go_ret
        exact ⟨rfl, hM.below⟩
      have q2 : (k == 2) = false := by simpa using c2
      have q3 : (xn == n) = true := by
        rcases HK2.out with z | z | z
        · exact absurd z c1
        · exact absurd z c2
        · simpa using z
      clear HK2 c1 c2
      repeat' (first | (go_big_may; first | (refine a_get rfl rfl rfl hM.at1 HQ0.out ?_) | (refine a_get rfl rfl rfl hM.at1 HQ1.out ?_)) | go_values | go_skip | go_guarded | go_step | go_upon | (simp only [Int.not_lt, Int.not_le] at *; go_simp))
      go_ret
      exact ⟨rfl, hM.below⟩
    have hlt : i < 9 := by omega
    go_upto_region 7 with (fail)
    go_cut [44] from 29 to 45 (fun bv wx => bv = .bool false ∧ Hid (Mm w wx [(zx, 27, G), (zc, 29, [k, n, e, a]), (zbd, 27, F)]))
    case first =>
      refine wp_abs (fun a0 => a0.tmps.size = 65 ∧ (∀ h, a0.tmps[2]'h = .pointer (some ⟨zbd, 0, none⟩)) ∧ (∀ h, a0.tmps[5]'h = .pointer (some ⟨zx, 0, none⟩)) ∧ (∀ h, a0.tmps[7]'h = .int .i64 xn) ∧ (∀ h, a0.tmps[8]'h = .int .i64 (i : Int))) ⟨rfl, fun _ => rfl, fun _ => rfl, fun _ => rfl, fun _ => rfl⟩ ?_
      rintro a0 ⟨hsz, s2, s5, s7, s8⟩ ha0
      refine wp_region_held (S := fun W => Mm w W [(zx, 27, G), (zc, 29, [k, n, e, a]), (zbd, 27, F)]) (by kernel_rfl) ?_
      have hS : Mm w wr.drew [(zx, 27, G), (zc, 29, [k, n, e, a]), (zbd, 27, F)] := ⟨hM.lies, hM.own, hM.ap, hM.below.drew⟩
      refine h_take (i := 0) (.int .i64 (i : Int)) rfl (by kernel_rfl) (by kernel_rfl) (by kernel_rfl) (fun _ _ _ h => h) rfl hS (fun W hW => by simp [execOp, go_sem, Act.put, hsz, s2, s5, s7, s8]) ?_
      refine h_take (i := 1) (.int .i64 xn) rfl (by kernel_rfl) (by kernel_rfl) (by kernel_rfl) (fun _ _ _ h => h) rfl hS (fun W hW => by simp [execOp, go_sem, Act.put, hsz, s2, s5, s7, s8]) ?_
      by_cases hne : (i : Int) = xn
      · have en : ((i : Int) != xn) = false := by simpa using hne
        refine h_take (i := 2) (.bool false) rfl (by kernel_rfl) (by kernel_rfl) (by kernel_rfl) (fun _ _ _ h => h) rfl hS (fun W hW => by simp [execOp, go_sem, Act.put, hsz, s2, s5, s7, s8, en]) ?_
        refine h_take (i := 3) (.bool false) rfl (by kernel_rfl) (by kernel_rfl) (by kernel_rfl) (fun _ _ _ h => h) rfl hS (fun W hW => by simp [execOp, go_sem, Act.put, hsz, s2, s5, s7, s8]) ?_
        refine g_pass (i := 4) rfl (by kernel_rfl) (by kernel_rfl) (by kernel_rfl) (fun _ _ _ h => h) (unwanted_of 3 true 34 rfl (by kernel_rfl) (by simp [Act.put, hsz])) hS ?_
        refine g_pass (i := 5) rfl (by kernel_rfl) (by kernel_rfl) (by kernel_rfl) (fun _ _ _ h => h) (unwanted_of 3 true 34 rfl (by kernel_rfl) (by simp [Act.put, hsz])) hS ?_
        refine g_pass (i := 6) rfl (by kernel_rfl) (by kernel_rfl) (by kernel_rfl) (fun _ _ _ h => h) (unwanted_of 3 true 34 rfl (by kernel_rfl) (by simp [Act.put, hsz])) hS ?_
        refine g_pass (i := 7) rfl (by kernel_rfl) (by kernel_rfl) (by kernel_rfl) (fun _ _ _ h => h) (unwanted_of 3 true 34 rfl (by kernel_rfl) (by simp [Act.put, hsz])) hS ?_
        refine g_pass (i := 8) rfl (by kernel_rfl) (by kernel_rfl) (by kernel_rfl) (fun _ _ _ h => h) (unwanted_of 3 true 34 rfl (by kernel_rfl) (by simp [Act.put, hsz])) hS ?_
        refine g_pass (i := 9) rfl (by kernel_rfl) (by kernel_rfl) (by kernel_rfl) (fun _ _ _ h => h) (unwanted_of 3 true 34 rfl (by kernel_rfl) (by simp [Act.put, hsz])) hS ?_
        refine g_pass (i := 10) rfl (by kernel_rfl) (by kernel_rfl) (by kernel_rfl) (fun _ _ _ h => h) (unwanted_of 3 true 34 rfl (by kernel_rfl) (by simp [Act.put, hsz])) hS ?_
        refine g_pass (i := 11) rfl (by kernel_rfl) (by kernel_rfl) (by kernel_rfl) (fun _ _ _ h => h) (unwanted_of 3 true 34 rfl (by kernel_rfl) (by simp [Act.put, hsz])) hS ?_
        refine g_pass (i := 12) rfl (by kernel_rfl) (by kernel_rfl) (by kernel_rfl) (fun _ _ _ h => h) (unwanted_of 3 true 34 rfl (by kernel_rfl) (by simp [Act.put, hsz])) hS ?_
        refine h_take (i := 13) (.bool false) rfl (by kernel_rfl) (by kernel_rfl) (by kernel_rfl) (fun _ _ _ h => h) rfl hS (fun W hW => by simp [execOp, go_sem, Act.put, hsz, s2, s5, s7, s8]) ?_
        refine wpAnyH_done (by kernel_rfl) ?_ _
        subst ha0
        clear hsz s2 s5 s7 s8 hne en
        go_simp
        repeat' (first | go_values | go_skip | go_guarded | go_step | go_upon | (simp only [Int.not_lt, Int.not_le] at *; go_simp))
        go_meet
        case rel => exact ⟨rfl, hS⟩
      · have en : ((i : Int) != xn) = true := by simpa using hne
        have HT : Hid (sl xB i = sl B i) := HK1.out i hlt hne
        refine h_take (i := 2) (.bool true) rfl (by kernel_rfl) (by kernel_rfl) (by kernel_rfl) (fun _ _ _ h => h) rfl hS (fun W hW => by simp [execOp, go_sem, Act.put, hsz, s2, s5, s7, s8, en]) ?_
        refine h_take (i := 3) (.bool true) rfl (by kernel_rfl) (by kernel_rfl) (by kernel_rfl) (fun _ _ _ h => h) rfl hS (fun W hW => by simp [execOp, go_sem, Act.put, hsz, s2, s5, s7, s8]) ?_
        refine g_take (i := 4) (.int .i64 (i : Int)) rfl (by kernel_rfl) (by kernel_rfl) (by kernel_rfl) (fun _ _ _ h => h) (wanted_of 3 true 34 rfl (by kernel_rfl) (by simp [Act.put, hsz])) hS (fun W hW => by simp [execOp, go_sem, Act.put, hsz, s2, s5, s7, s8]) ?_
        refine g_take (i := 5) (.pointer (some ⟨zx, 0, none⟩)) rfl (by kernel_rfl) (by kernel_rfl) (by kernel_rfl) (fun _ _ _ h => h) (wanted_of 3 true 34 rfl (by kernel_rfl) (by simp [Act.put, hsz])) hS (fun W hW => by simp [execOp, go_sem, Act.put, hsz, s2, s5, s7, s8]) ?_
        refine g_take (i := 6) (.pointer (some ⟨zx, i * 66, none⟩)) rfl (by kernel_rfl) (by kernel_rfl) (by kernel_rfl) (fun _ _ _ h => h) (wanted_of 3 true 34 rfl (by kernel_rfl) (by simp [Act.put, hsz])) hS (fun W hW => by simp [execOp, go_sem, Act.put, hsz, s2, s5, s7, s8, hlt, size_slot]; intro h; omega) ?_
        refine g_take (i := 7) (ag (sl xB i)) rfl (by kernel_rfl) (by kernel_rfl) (by kernel_rfl) (fun _ _ _ h => h) (wanted_of 3 true 34 rfl (by kernel_rfl) (by simp [Act.put, hsz])) hS (fun W hW => ex_load rfl row_slot (by simp [go_sem, Act.put, hsz]) hW.at0 (by have := HLx.out; omega) (HSL.out i hlt).2.1) ?_
        refine g_take (i := 8) (.int .i64 (i : Int)) rfl (by kernel_rfl) (by kernel_rfl) (by kernel_rfl) (fun _ _ _ h => h) (wanted_of 3 true 34 rfl (by kernel_rfl) (by simp [Act.put, hsz])) hS (fun W hW => by simp [execOp, go_sem, Act.put, hsz, s2, s5, s7, s8]) ?_
        refine g_take (i := 9) (.pointer (some ⟨zbd, 0, none⟩)) rfl (by kernel_rfl) (by kernel_rfl) (by kernel_rfl) (fun _ _ _ h => h) (wanted_of 3 true 34 rfl (by kernel_rfl) (by simp [Act.put, hsz])) hS (fun W hW => by simp [execOp, go_sem, Act.put, hsz, s2, s5, s7, s8]) ?_
        refine g_take (i := 10) (.pointer (some ⟨zbd, i * 66, none⟩)) rfl (by kernel_rfl) (by kernel_rfl) (by kernel_rfl) (fun _ _ _ h => h) (wanted_of 3 true 34 rfl (by kernel_rfl) (by simp [Act.put, hsz])) hS (fun W hW => by simp [execOp, go_sem, Act.put, hsz, s2, s5, s7, s8, hlt, size_slot]; intro h; omega) ?_
        refine g_take (i := 11) (ag (sl B i)) rfl (by kernel_rfl) (by kernel_rfl) (by kernel_rfl) (fun _ _ _ h => h) (wanted_of 3 true 34 rfl (by kernel_rfl) (by simp [Act.put, hsz])) hS (fun W hW => ex_load rfl row_slot (by simp [go_sem, Act.put, hsz]) hW.at2 (by have := HL.out; omega) (HSL.out i hlt).1) ?_
        refine g_take (i := 12) (.bool (!decide (sl xB i = sl B i))) rfl (by kernel_rfl) (by kernel_rfl) (by kernel_rfl) (fun _ _ _ h => h) (wanted_of 3 true 34 rfl (by kernel_rfl) (by simp [Act.put, hsz])) hS (fun W hW => ex_neq rfl cmp_slot (by simp [go_sem, Act.put, hsz]) (by simp [go_sem, Act.put, hsz]) (HSL.out i hlt).2.2.2 (HSL.out i hlt).2.2.1) ?_
        refine h_take (i := 13) (.bool (!decide (sl xB i = sl B i))) rfl (by kernel_rfl) (by kernel_rfl) (by kernel_rfl) (fun _ _ _ h => h) rfl hS (fun W hW => by simp [execOp, go_sem, Act.put, hsz, s2, s5, s7, s8]) ?_
        refine wpAnyH_done (by kernel_rfl) ?_ _
        subst ha0
        clear hsz s2 s5 s7 s8
        go_simp
        repeat' (first | go_values | go_skip | go_guarded | go_step | go_upon | (simp only [Int.not_lt, Int.not_le] at *; go_simp))
        go_meet
        case rel => exact ⟨by rw [decide_eq_true HT.out]; rfl, hS⟩
    case rest =>
    obtain ⟨rfl, HM⟩ := hcut
    clear hM
    rename World => wx
    have hM := HM.out
    clear HM
    repeat' (first | go_values | go_skip | go_guarded | go_step | go_upon | (simp only [Int.not_lt, Int.not_le] at *; go_simp))
    go_roundw
    case rel => exact ⟨i + 1, by omega, by go_num, hM⟩
    case measure => simp [intOf]; omega
end Go.Proofs.Ytfhlbndilkidhaa.slotsKeep
