/- slots, the document's answer: what Board answers. -/
import Derived.Test.YthjmcopknkemnabSltR
namespace Go.Proofs.Ythjmcopknkemnab.slots
open Go Go.RowKit
set_option linter.unusedVariables false
set_option linter.unusedSimpArgs false
set_option maxRecDepth 100000

theorem if_bad {a b : Bool} {q : Int} (h : (if (a && b) = true then (0 : Int) else 4) = q) (ha : a = false) : 4 = q := by subst ha; exact h
theorem if_ok {a b : Bool} {q : Int} (h : (if (a && b) = true then (0 : Int) else 4) = q) (ha : a = true) : (if b = true then (0 : Int) else 4) = q := by subst ha; simpa using h
set_option maxHeartbeats 16000000 in
theorem board_any (B : Bd) (w : World) (hw : Wf B) : Calls Try.prog 25 #[ag (fl B)] w fun e w' => e = .returned (.int .i64 (chE B)) ∧ Below w.heap.size w w' := by
  have HW : Hid (Wf B) := hw
  have HE9 : Hid (0 + 594 ≤ (fl B).length) := by show 0 + 594 ≤ _; rw [hw.length]; omega
  have HC9 : Hid (cut (fl B) 0 594 = fl B) := cut_all hw.length
  have HZL : Hid (z66.length = 66) := z_length
  have HZE : Hid (0 + 66 ≤ z66.length) := by show 0 + 66 ≤ _; rw [z_length]; omega
  have HZC : Hid (cut z66 0 66 = z66) := cut_all z_length
  have hb := bld_0
  obtain ⟨q, hq⟩ : ∃ q, chE B = q := ⟨_, rfl⟩
  have HQ : Hid ((if allF 9 (refAt B) 0 = true then (0 : Int) else 4) = q) := by show _ = q; rw [ref_chk hw, ← hq]; rfl
  rw [hq]
  clear hq hw
  obtain ⟨F, hF⟩ : ∃ F, fl B = F := ⟨_, rfl⟩
  have HF : Hid (fl B = F) := hF
  rw [hF] at HE9 HC9 ⊢
  clear hF
  have hM := Mm.nil w
  go_enter Try.func25, Try.ntmps25
  repeat' (first | (go_big_may; first | (refine a_box rfl rfl rfl ?_; intro u zbd hN; replace hM := hM.new hN; clear hN) | (refine a_build rfl rfl hb (by simp [Act.eval]) ?_) | (refine a_alloc rfl zer_slot rfl ?_; intro u zn hN; replace hM := hM.new hN; clear hN) | (refine a_fill rfl rfl row_slot rfl rfl hM.at0 HZL.out List.length_replicate ?_; intro u hv hc; replace hM := hM.put0 hc hv; clear hv hc) | (refine a_load rfl rfl row_slots rfl hM.at1 HE9.out HC9.out ?_)) | go_values | go_skip | go_guarded | go_step | go_upon | (simp only [Int.not_lt, Int.not_le] at *; go_simp))
  have HM : Hid (Mm w u [(zn, 29, z66), (zbd, 32, F)]) := hM
  clear hM hb
  go_loopw [4, 5, 6, 8, 12] (fun _ _ _ _ i wr => ∃ k : Nat, k ≤ 9 ∧ i = .int .i64 (k : Int) ∧ Hid ((if allF 9 (refAt B) k = true then (0 : Int) else 4) = q ∧ Mm w wr [(zn, 29, z66), (zbd, 32, F)])) (fun _ _ _ _ i _ => 9 - (intOf i).toNat)
  case atStart => exact ⟨0, by omega, rfl, HQ.out, HM.out⟩
  case round =>
    obtain ⟨k, hk, rfl, HA⟩ := hrel
    clear HQ HM
    by_cases hlt : ¬ k < 9
    · have HQ3 : Hid (0 = q) := by
        have := HA.out.1
        rw [allF_end (by omega)] at this
        exact this
      have hM := HA.out.2
      clear HA
      repeat' (first | go_values | go_skip | go_guarded | go_step | go_upon | (simp only [Int.not_lt, Int.not_le] at *; go_simp))
      go_ret
      rw [← HQ3.out]
      exact ⟨rfl, hM.below⟩
    have hlt : k < 9 := by omega
    have hM := HA.out.2
    have HS := HA.out.1
    rw [allF_step hlt] at HS
    have HQ2 : Hid ((if (refAt B k && allF 9 (refAt B) (k + 1)) = true then (0 : Int) else 4) = q) := HS
    clear HA HS
    have hix := run_indexS F k hlt
    rw [← HF.out, fl_cut HW.out hlt, HF.out] at hix
    have HSL : Hid ((sl B k).length = 66) := HW.out.sl hlt
    have HRA : Hid (refAt B k = ((decide (k ≠ 0) || decide (sl B k = z66)) && ((decide (0 ≤ st (sl B k)) && decide (st (sl B k) ≤ 3)) && if st (sl B k) < 2 then decide ((sl B k).set 0 0 = z66) else r1 (sl B k) && (allF 32 (fun j => eok (en (sl B k) j) (mk (sl B k) j)) 0 && allF k (fun j => ad (sl B j) != ad (sl B k)) 0)))) := rfl
    obtain ⟨s, hs⟩ : ∃ s, sl B k = s := ⟨_, rfl⟩
    have HSK : Hid (sl B k = s) := hs
    rw [hs] at hix HSL HRA
    clear hs
    have HE : Hid (0 + 66 ≤ s.length) := by show 0 + 66 ≤ _; rw [HSL.out]; omega
    have HC : Hid (cut s 0 66 = s) := cut_all HSL.out
    have G0 : Hid (s[0]? = some (cl s 0)) := cl_at (by rw [HSL.out]; omega)
    have G1 : Hid (s[1]? = some (cl s 1)) := cl_at (by rw [HSL.out]; omega)
    have G2 : Hid (s[2]? = some (cl s 2)) := cl_at (by rw [HSL.out]; omega)
    have G3 : Hid (s[3]? = some (cl s 3)) := cl_at (by rw [HSL.out]; omega)
    have HB3 : Hid (∀ u, Calls Try.prog 49 #[.int .i64 (cl s 0), .int .i64 0, .int .i64 3] u fun e w' => e = .returned (.bool (decide (0 ≤ cl s 0) && decide (cl s 0 ≤ 3))) ∧ u = w') := between_any _ _ _
    obtain ⟨b3, hb3⟩ : ∃ b, (decide (0 ≤ cl s 0) && decide (cl s 0 ≤ 3)) = b := ⟨_, rfl⟩
    obtain ⟨bz, hbz⟩ : ∃ b, decide (s = z66) = b := ⟨_, rfl⟩
    have HRB : Hid (refAt B k = ((decide (k ≠ 0) || bz) && (b3 && if st s < 2 then decide (s.set 0 0 = z66) else r1 s && (allF 32 (fun j => eok (en s j) (mk s j)) 0 && allF k (fun j => ad (sl B j) != ad s) 0)))) := by
      show _ = _
      rw [HRA.out, hbz]
      show (_ && ((decide (0 ≤ cl s 0) && decide (cl s 0 ≤ 3)) && _)) = _
      rw [hb3]
    have HBZ : Hid (decide (s = z66) = bz) := hbz
    rw [hb3] at HB3
    clear HRA hb3 hbz
    go_upto_region 5 with (first | (refine a_alloc rfl zer_slot rfl ?_; intro u zs hN; replace hM := hM.new hN; clear hN) | (refine a_fill rfl rfl row_slot rfl rfl hM.at0 HSL.out List.length_replicate ?_; intro u hv hc; replace hM := hM.put0 hc hv; clear hv hc))
    go_simp
    rename World => u
    clear hix
    go_cut [28] from 16 to 106 (fun bv wx => bv = .bool (!((decide (k ≠ 0) || bz) && b3)) ∧ Hid (Mm w wx [(zs, 29, s), (zn, 29, z66), (zbd, 32, F)]))
    case first =>
      by_cases hz : k = 0
      · have ek : ((k : Int) == 0) = true := by simpa using hz
        have HK : Hid (decide (k ≠ 0) = false) := decide_eq_false (fun h => h hz)
        have e0 := HBZ.out
        clear hz HBZ
        cases bz
        · repeat' (first | (go_big_may; first | (refine a_load rfl rfl row_slot rfl hM.at0 HE.out HC.out ?_) | (refine a_load rfl rfl row_slot rfl hM.at1 HZE.out HZC.out ?_) | (refine a_neq rfl rfl cmp_slot rfl rfl HSL.out HZL.out ?_; rw [e0])) | go_values | go_skip | go_guarded | go_step | go_upon | (simp only [Int.not_lt, Int.not_le] at *; go_simp))
          go_meet
          case rel => exact ⟨by rw [HK.out]; rfl, hM⟩
        · repeat' (first | (go_big_may; first | (refine a_load rfl rfl row_slot rfl hM.at0 HE.out HC.out ?_) | (refine a_load rfl rfl row_slot rfl hM.at1 HZE.out HZC.out ?_) | (refine a_neq rfl rfl cmp_slot rfl rfl HSL.out HZL.out ?_; rw [e0]) | (refine a_get rfl rfl rfl hM.at0 G0.out ?_)) | go_values | go_skip | go_guarded | go_step | go_upon | (simp only [Int.not_lt, Int.not_le] at *; go_simp))
          refine (HB3.out _).mono ?_
          rintro r v ⟨rfl, rfl⟩
          repeat' (first | go_values | go_skip | go_guarded | go_step | go_upon | (simp only [Int.not_lt, Int.not_le] at *; go_simp))
          go_meet
          case rel => exact ⟨by rw [HK.out]; rfl, hM⟩
      · have ek : ((k : Int) == 0) = false := by simpa using hz
        have HK : Hid (decide (k ≠ 0) = true) := decide_eq_true hz
        clear hz
        repeat' (first | (go_big_may; first | (refine a_get rfl rfl rfl hM.at0 G0.out ?_)) | go_values | go_skip | go_guarded | go_step | go_upon | (simp only [Int.not_lt, Int.not_le] at *; go_simp))
        refine (HB3.out _).mono ?_
        rintro r v ⟨rfl, rfl⟩
        repeat' (first | go_values | go_skip | go_guarded | go_step | go_upon | (simp only [Int.not_lt, Int.not_le] at *; go_simp))
        go_meet
        case rel => exact ⟨by rw [HK.out]; rfl, hM⟩
    case rest =>
    obtain ⟨rfl, HM⟩ := hcut
    clear hM HB3 HBZ
    rename World => u
    have hM := HM.out
    clear HM
    have HRC : Hid (refAt B k = (((decide (k ≠ 0) || bz) && b3) && if st s < 2 then decide (s.set 0 0 = z66) else r1 s && (allF 32 (fun j => eok (en s j) (mk s j)) 0 && allF k (fun j => ad (sl B j) != ad s) 0))) := by
      show _ = _
      rw [HRB.out, Bool.and_assoc]
    clear HRB
    generalize ((decide (k ≠ 0) || bz) && b3) = bb at *
    cases bb
    · have HQ3 : Hid (4 = q) := if_bad HQ2.out (by rw [HRC.out]; rfl)
      clear HQ2 HRC
      repeat' (first | go_values | go_skip | go_guarded | go_step | go_upon | (simp only [Int.not_lt, Int.not_le] at *; go_simp))
      go_ret
      rw [← HQ3.out]
      exact ⟨rfl, hM.below⟩
    have HRB := HRC
    clear HRC
    by_cases h2 : cl s 0 < 2
    · rw [if_pos (show st s < 2 from h2), Bool.true_and] at HRB
      have e2 : decide (cl s 0 < 2) = true := decide_eq_true h2
      have HL0 : Hid ((s.set 0 0).length = 66) := by show _ = 66; rw [List.length_set]; exact HSL.out
      have HE0 : Hid (0 + 66 ≤ (s.set 0 0).length) := by show 0 + 66 ≤ _; rw [HL0.out]; omega
      have HC0 : Hid (cut (s.set 0 0) 0 66 = s.set 0 0) := cut_all HL0.out
      have HJ : Hid (0 < s.length) := by show 0 < _; rw [HSL.out]; omega
      cases e0 : decide (s.set 0 0 = z66)
      · have HQ3 : Hid (4 = q) := if_bad HQ2.out (by rw [HRB.out, e0])
        clear HQ2 HRB
        repeat' (first | (go_big_may; first | (refine a_get rfl rfl rfl hM.at0 G0.out ?_) | (refine a_put rfl rfl rfl rfl hM.at0 HJ.out ?_; intro u hv hc; replace hM := hM.put0 hc hv; clear hv hc) | (refine a_load rfl rfl row_slot rfl hM.at0 HE0.out HC0.out ?_) | (refine a_load rfl rfl row_slot rfl hM.at1 HZE.out HZC.out ?_) | (refine a_neq rfl rfl cmp_slot rfl rfl HL0.out HZL.out ?_; rw [e0])) | go_values | go_skip | go_guarded | go_step | go_upon | (simp only [Int.not_lt, Int.not_le] at *; go_simp))
        go_ret
        rw [← HQ3.out]
        exact ⟨rfl, hM.below⟩
      · have HQ3 : Hid ((if allF 9 (refAt B) (k + 1) = true then (0 : Int) else 4) = q) := if_ok HQ2.out (by rw [HRB.out, e0])
        clear HQ2 HRB
        repeat' (first | (go_big_may; first | (refine a_get rfl rfl rfl hM.at0 G0.out ?_) | (refine a_put rfl rfl rfl rfl hM.at0 HJ.out ?_; intro u hv hc; replace hM := hM.put0 hc hv; clear hv hc) | (refine a_load rfl rfl row_slot rfl hM.at0 HE0.out HC0.out ?_) | (refine a_load rfl rfl row_slot rfl hM.at1 HZE.out HZC.out ?_) | (refine a_neq rfl rfl cmp_slot rfl rfl HL0.out HZL.out ?_; rw [e0])) | go_values | go_skip | go_guarded | go_step | go_upon | (simp only [Int.not_lt, Int.not_le] at *; go_simp))
        go_roundw
        case rel => exact ⟨k + 1, by omega, by go_num, HQ3.out, hM.tail⟩
        case measure => simp [intOf]; omega
    rw [if_neg (show ¬ st s < 2 from h2), Bool.true_and, r1_eq s] at HRB
    have e2 : decide (cl s 0 < 2) = false := decide_eq_false h2
    clear h2
    have HBt : Hid (∀ u, Calls Try.prog 49 #[.int .i64 (cl s 1), .int .i64 1, .int .i64 127] u fun e w' => e = .returned (.bool (adB (cl s 1))) ∧ u = w') := between_any _ _ _
    have HEn : Hid (∀ u, Calls Try.prog 50 #[ag s, .int .i64 2, .int .i64 31] u fun e w' => e = .returned (.bool (hasS s)) ∧ Below u.heap.size u w') := fun u => endsIn_any s u HSL.out
    generalize hasS s = hh at *
    go_upto_region 11 with (refine a_get rfl rfl rfl hM.at0 G0.out ?_)
    go_cut [59] from 36 to 106 (fun bv wx => bv = .bool (!(((adB (cl s 1) && !(cl s 2 != 0)) && !(cl s 3 == 0)) && !(hh != (cl s 0 == 3)))) ∧ Hid (Mm w wx [(zs, 29, s), (zn, 29, z66), (zbd, 32, F)]))
    case first =>
      refine wp_abs (fun a0 => a0.tmps.size = 107 ∧ (∀ h, a0.tmps[5]'h = .pointer (some ⟨zs, 0, none⟩))) ⟨rfl, fun _ => rfl⟩ ?_
      rintro a0 ⟨hsz, s5⟩ ha0
      refine wp_region_held (S := fun W => Mm w W [(zs, 29, s), (zn, 29, z66), (zbd, 32, F)]) (by kernel_rfl) ?_
      have hS : Mm w u.drew [(zs, 29, s), (zn, 29, z66), (zbd, 32, F)] := ⟨hM.lies, hM.own, hM.ap, hM.below.drew⟩
      refine h_take (i := 0) (.pointer (some ⟨zs, 1, none⟩)) rfl (by kernel_rfl) (by kernel_rfl) (by kernel_rfl) (fun _ _ _ h => h) rfl hS (fun W hW => by simp [execOp, go_sem, Act.put, hsz, s5]) ?_
      refine h_take (i := 1) (.int .i64 (cl s 1)) rfl (by kernel_rfl) (by kernel_rfl) (by kernel_rfl) (fun _ _ _ h => h) rfl hS (fun W hW => ex_get rfl (by simp [go_sem, Act.put, hsz, s5]) hW.at0 G1.out) ?_
      refine h_call (i := 2) 49 #[.int .i64 (cl s 1), .int .i64 1, .int .i64 127] rfl (by kernel_rfl) rfl (by simp [execOp, go_sem, Act.put, hsz]) ((HBt.out _).mono ?_)
      rintro r v ⟨rfl, rfl⟩
      refine ⟨_, rfl, hS, ?_⟩
      cases hb : adB (cl s 1)
      · refine h_take (i := 3) (.bool true) rfl (by kernel_rfl) (by kernel_rfl) (by kernel_rfl) (fun _ _ _ h => h) rfl hS (fun W hW => by simp [execOp, go_sem, Act.put, hsz, s5]) ?_
        refine h_take (i := 4) (.bool true) rfl (by kernel_rfl) (by kernel_rfl) (by kernel_rfl) (fun _ _ _ h => h) rfl hS (fun W hW => by simp [execOp, go_sem, Act.put, hsz, s5]) ?_
        refine g_pass (i := 5) rfl (by kernel_rfl) (by kernel_rfl) (by kernel_rfl) (fun _ _ _ h => h) (unwanted_of 4 false 40 rfl (by kernel_rfl) (by simp [Act.put, hsz])) hS ?_
        refine g_pass (i := 6) rfl (by kernel_rfl) (by kernel_rfl) (by kernel_rfl) (fun _ _ _ h => h) (unwanted_of 4 false 40 rfl (by kernel_rfl) (by simp [Act.put, hsz])) hS ?_
        refine g_pass (i := 7) rfl (by kernel_rfl) (by kernel_rfl) (by kernel_rfl) (fun _ _ _ h => h) (unwanted_of 4 false 40 rfl (by kernel_rfl) (by simp [Act.put, hsz])) hS ?_
        refine g_pass (i := 8) rfl (by kernel_rfl) (by kernel_rfl) (by kernel_rfl) (fun _ _ _ h => h) (unwanted_of 4 false 40 rfl (by kernel_rfl) (by simp [Act.put, hsz])) hS ?_
        refine h_take (i := 9) (.bool true) rfl (by kernel_rfl) (by kernel_rfl) (by kernel_rfl) (fun _ _ _ h => h) rfl hS (fun W hW => by simp [execOp, go_sem, Act.put, hsz, s5]) ?_
        refine h_take (i := 10) (.bool true) rfl (by kernel_rfl) (by kernel_rfl) (by kernel_rfl) (fun _ _ _ h => h) rfl hS (fun W hW => by simp [execOp, go_sem, Act.put, hsz, s5]) ?_
        refine g_pass (i := 11) rfl (by kernel_rfl) (by kernel_rfl) (by kernel_rfl) (fun _ _ _ h => h) (unwanted_of 10 false 46 rfl (by kernel_rfl) (by simp [Act.put, hsz])) hS ?_
        refine g_pass (i := 12) rfl (by kernel_rfl) (by kernel_rfl) (by kernel_rfl) (fun _ _ _ h => h) (unwanted_of 10 false 46 rfl (by kernel_rfl) (by simp [Act.put, hsz])) hS ?_
        refine g_pass (i := 13) rfl (by kernel_rfl) (by kernel_rfl) (by kernel_rfl) (fun _ _ _ h => h) (unwanted_of 10 false 46 rfl (by kernel_rfl) (by simp [Act.put, hsz])) hS ?_
        refine g_pass (i := 14) rfl (by kernel_rfl) (by kernel_rfl) (by kernel_rfl) (fun _ _ _ h => h) (unwanted_of 10 false 46 rfl (by kernel_rfl) (by simp [Act.put, hsz])) hS ?_
        refine h_take (i := 15) (.bool true) rfl (by kernel_rfl) (by kernel_rfl) (by kernel_rfl) (fun _ _ _ h => h) rfl hS (fun W hW => by simp [execOp, go_sem, Act.put, hsz, s5]) ?_
        refine h_take (i := 16) (.bool true) rfl (by kernel_rfl) (by kernel_rfl) (by kernel_rfl) (fun _ _ _ h => h) rfl hS (fun W hW => by simp [execOp, go_sem, Act.put, hsz, s5]) ?_
        refine g_pass (i := 17) rfl (by kernel_rfl) (by kernel_rfl) (by kernel_rfl) (fun _ _ _ h => h) (unwanted_of 16 false 52 rfl (by kernel_rfl) (by simp [Act.put, hsz])) hS ?_
        refine g_pass (i := 19) rfl (by kernel_rfl) (by kernel_rfl) (by kernel_rfl) (fun _ _ _ h => h) (unwanted_of 16 false 52 rfl (by kernel_rfl) (by simp [Act.put, hsz])) hS ?_
        refine g_pass (i := 20) rfl (by kernel_rfl) (by kernel_rfl) (by kernel_rfl) (fun _ _ _ h => h) (unwanted_of 16 false 52 rfl (by kernel_rfl) (by simp [Act.put, hsz])) hS ?_
        refine g_pass (i := 21) rfl (by kernel_rfl) (by kernel_rfl) (by kernel_rfl) (fun _ _ _ h => h) (unwanted_of 16 false 52 rfl (by kernel_rfl) (by simp [Act.put, hsz])) hS ?_
        refine g_none (i := 18) rfl (by kernel_rfl) (unwanted_of 16 false 52 rfl (by kernel_rfl) (by simp [Act.put, hsz])) hS ?_
        refine g_pass (i := 22) rfl (by kernel_rfl) (by kernel_rfl) (by kernel_rfl) (fun _ _ _ h => h) (unwanted_of 16 false 52 rfl (by kernel_rfl) (by simp [Act.put, hsz])) hS ?_
        refine h_take (i := 23) (.bool true) rfl (by kernel_rfl) (by kernel_rfl) (by kernel_rfl) (fun _ _ _ h => h) rfl hS (fun W hW => by simp [execOp, go_sem, Act.put, hsz, s5]) ?_
        refine wpAnyH_done (by kernel_rfl) ?_ _
        subst ha0
        clear hsz s5
        go_simp
        repeat' (first | go_values | go_skip | go_guarded | go_step | go_upon | (simp only [Int.not_lt, Int.not_le] at *; go_simp))
        go_meet
        case rel => exact ⟨by rw [hb]; rfl, hS⟩
      · refine h_take (i := 3) (.bool false) rfl (by kernel_rfl) (by kernel_rfl) (by kernel_rfl) (fun _ _ _ h => h) rfl hS (fun W hW => by simp [execOp, go_sem, Act.put, hsz, s5]) ?_
        refine h_take (i := 4) (.bool false) rfl (by kernel_rfl) (by kernel_rfl) (by kernel_rfl) (fun _ _ _ h => h) rfl hS (fun W hW => by simp [execOp, go_sem, Act.put, hsz, s5]) ?_
        refine g_take (i := 5) (.pointer (some ⟨zs, 2, none⟩)) rfl (by kernel_rfl) (by kernel_rfl) (by kernel_rfl) (fun _ _ _ h => h) (wanted_of 4 false 40 rfl (by kernel_rfl) (by simp [Act.put, hsz])) hS (fun W hW => by simp [execOp, go_sem, Act.put, hsz, s5]) ?_
        refine g_take (i := 6) (.pointer (some ⟨zs, 2, none⟩)) rfl (by kernel_rfl) (by kernel_rfl) (by kernel_rfl) (fun _ _ _ h => h) (wanted_of 4 false 40 rfl (by kernel_rfl) (by simp [Act.put, hsz])) hS (fun W hW => by simp [execOp, go_sem, Act.put, hsz, s5]) ?_
        refine g_take (i := 7) (.int .i64 (cl s 2)) rfl (by kernel_rfl) (by kernel_rfl) (by kernel_rfl) (fun _ _ _ h => h) (wanted_of 4 false 40 rfl (by kernel_rfl) (by simp [Act.put, hsz])) hS (fun W hW => ex_get rfl (by simp [go_sem, Act.put, hsz, s5]) hW.at0 G2.out) ?_
        cases h2 : (cl s 2 != 0)
        · refine g_take (i := 8) (.bool false) rfl (by kernel_rfl) (by kernel_rfl) (by kernel_rfl) (fun _ _ _ h => h) (wanted_of 4 false 40 rfl (by kernel_rfl) (by simp [Act.put, hsz])) hS (fun W hW => by simp [execOp, go_sem, Act.put, hsz, s5, h2]) ?_
          refine h_take (i := 9) (.bool false) rfl (by kernel_rfl) (by kernel_rfl) (by kernel_rfl) (fun _ _ _ h => h) rfl hS (fun W hW => by simp [execOp, go_sem, Act.put, hsz, s5]) ?_
          refine h_take (i := 10) (.bool false) rfl (by kernel_rfl) (by kernel_rfl) (by kernel_rfl) (fun _ _ _ h => h) rfl hS (fun W hW => by simp [execOp, go_sem, Act.put, hsz, s5]) ?_
          refine g_take (i := 11) (.pointer (some ⟨zs, 2, none⟩)) rfl (by kernel_rfl) (by kernel_rfl) (by kernel_rfl) (fun _ _ _ h => h) (wanted_of 10 false 46 rfl (by kernel_rfl) (by simp [Act.put, hsz])) hS (fun W hW => by simp [execOp, go_sem, Act.put, hsz, s5]) ?_
          refine g_take (i := 12) (.pointer (some ⟨zs, 3, none⟩)) rfl (by kernel_rfl) (by kernel_rfl) (by kernel_rfl) (fun _ _ _ h => h) (wanted_of 10 false 46 rfl (by kernel_rfl) (by simp [Act.put, hsz])) hS (fun W hW => by simp [execOp, go_sem, Act.put, hsz, s5]) ?_
          refine g_take (i := 13) (.int .i64 (cl s 3)) rfl (by kernel_rfl) (by kernel_rfl) (by kernel_rfl) (fun _ _ _ h => h) (wanted_of 10 false 46 rfl (by kernel_rfl) (by simp [Act.put, hsz])) hS (fun W hW => ex_get rfl (by simp [go_sem, Act.put, hsz, s5]) hW.at0 G3.out) ?_
          cases h3 : (cl s 3 == 0)
          · refine g_take (i := 14) (.bool false) rfl (by kernel_rfl) (by kernel_rfl) (by kernel_rfl) (fun _ _ _ h => h) (wanted_of 10 false 46 rfl (by kernel_rfl) (by simp [Act.put, hsz])) hS (fun W hW => by simp [execOp, go_sem, Act.put, hsz, s5, h3]) ?_
            refine h_take (i := 15) (.bool false) rfl (by kernel_rfl) (by kernel_rfl) (by kernel_rfl) (fun _ _ _ h => h) rfl hS (fun W hW => by simp [execOp, go_sem, Act.put, hsz, s5]) ?_
            refine h_take (i := 16) (.bool false) rfl (by kernel_rfl) (by kernel_rfl) (by kernel_rfl) (fun _ _ _ h => h) rfl hS (fun W hW => by simp [execOp, go_sem, Act.put, hsz, s5]) ?_
            refine g_take (i := 17) (ag s) rfl (by kernel_rfl) (by kernel_rfl) (by kernel_rfl) (fun _ _ _ h => h) (wanted_of 16 false 52 rfl (by kernel_rfl) (by simp [Act.put, hsz])) hS (fun W hW => ex_load rfl row_slot (by simp [go_sem, Act.put, hsz, s5]) hW.at0 HE.out HC.out) ?_
            refine g_take (i := 19) (.pointer (some ⟨zs, 0, none⟩)) rfl (by kernel_rfl) (by kernel_rfl) (by kernel_rfl) (fun _ _ _ h => h) (wanted_of 16 false 52 rfl (by kernel_rfl) (by simp [Act.put, hsz])) hS (fun W hW => by simp [execOp, go_sem, Act.put, hsz, s5]) ?_
            refine g_take (i := 20) (.int .i64 (cl s 0)) rfl (by kernel_rfl) (by kernel_rfl) (by kernel_rfl) (fun _ _ _ h => h) (wanted_of 16 false 52 rfl (by kernel_rfl) (by simp [Act.put, hsz])) hS (fun W hW => ex_get rfl (by simp [go_sem, Act.put, hsz, s5]) hW.at0 G0.out) ?_
            refine g_take (i := 21) (.bool (cl s 0 == 3)) rfl (by kernel_rfl) (by kernel_rfl) (by kernel_rfl) (fun _ _ _ h => h) (wanted_of 16 false 52 rfl (by kernel_rfl) (by simp [Act.put, hsz])) hS (fun W hW => by simp [execOp, go_sem, Act.put, hsz, s5]) ?_
            refine g_call (i := 18) 50 #[ag s, .int .i64 2, .int .i64 31] rfl (by kernel_rfl) (wanted_of 16 false 52 rfl (by kernel_rfl) (by simp [Act.put, hsz])) (by simp [execOp, go_sem, Act.put, hsz]) ((HEn.out _).mono ?_)
            rintro r v ⟨rfl, hv⟩
            replace hS := hS.call hv
            refine ⟨_, rfl, hS, ?_⟩
            refine g_take (i := 22) (.bool (hh != (cl s 0 == 3))) rfl (by kernel_rfl) (by kernel_rfl) (by kernel_rfl) (fun _ _ _ h => h) (wanted_of 16 false 52 rfl (by kernel_rfl) (by simp [Act.put, hsz])) hS (fun W hW => by simp [execOp, go_sem, Act.put, hsz, s5]; cases hh <;> cases (cl s 0 == 3) <;> rfl) ?_
            refine h_take (i := 23) (.bool (hh != (cl s 0 == 3))) rfl (by kernel_rfl) (by kernel_rfl) (by kernel_rfl) (fun _ _ _ h => h) rfl hS (fun W hW => by simp [execOp, go_sem, Act.put, hsz, s5]) ?_
            refine wpAnyH_done (by kernel_rfl) ?_ _
            subst ha0
            clear hsz s5
            go_simp
            repeat' (first | go_values | go_skip | go_guarded | go_step | go_upon | (simp only [Int.not_lt, Int.not_le] at *; go_simp))
            go_meet
            case rel => exact ⟨by rw [hb, h2, h3]; cases hh <;> cases (cl s 0 == 3) <;> rfl, hS⟩
          · refine g_take (i := 14) (.bool true) rfl (by kernel_rfl) (by kernel_rfl) (by kernel_rfl) (fun _ _ _ h => h) (wanted_of 10 false 46 rfl (by kernel_rfl) (by simp [Act.put, hsz])) hS (fun W hW => by simp [execOp, go_sem, Act.put, hsz, s5, h3]) ?_
            refine h_take (i := 15) (.bool true) rfl (by kernel_rfl) (by kernel_rfl) (by kernel_rfl) (fun _ _ _ h => h) rfl hS (fun W hW => by simp [execOp, go_sem, Act.put, hsz, s5]) ?_
            refine h_take (i := 16) (.bool true) rfl (by kernel_rfl) (by kernel_rfl) (by kernel_rfl) (fun _ _ _ h => h) rfl hS (fun W hW => by simp [execOp, go_sem, Act.put, hsz, s5]) ?_
            refine g_pass (i := 17) rfl (by kernel_rfl) (by kernel_rfl) (by kernel_rfl) (fun _ _ _ h => h) (unwanted_of 16 false 52 rfl (by kernel_rfl) (by simp [Act.put, hsz])) hS ?_
            refine g_pass (i := 19) rfl (by kernel_rfl) (by kernel_rfl) (by kernel_rfl) (fun _ _ _ h => h) (unwanted_of 16 false 52 rfl (by kernel_rfl) (by simp [Act.put, hsz])) hS ?_
            refine g_pass (i := 20) rfl (by kernel_rfl) (by kernel_rfl) (by kernel_rfl) (fun _ _ _ h => h) (unwanted_of 16 false 52 rfl (by kernel_rfl) (by simp [Act.put, hsz])) hS ?_
            refine g_pass (i := 21) rfl (by kernel_rfl) (by kernel_rfl) (by kernel_rfl) (fun _ _ _ h => h) (unwanted_of 16 false 52 rfl (by kernel_rfl) (by simp [Act.put, hsz])) hS ?_
            refine g_none (i := 18) rfl (by kernel_rfl) (unwanted_of 16 false 52 rfl (by kernel_rfl) (by simp [Act.put, hsz])) hS ?_
            refine g_pass (i := 22) rfl (by kernel_rfl) (by kernel_rfl) (by kernel_rfl) (fun _ _ _ h => h) (unwanted_of 16 false 52 rfl (by kernel_rfl) (by simp [Act.put, hsz])) hS ?_
            refine h_take (i := 23) (.bool true) rfl (by kernel_rfl) (by kernel_rfl) (by kernel_rfl) (fun _ _ _ h => h) rfl hS (fun W hW => by simp [execOp, go_sem, Act.put, hsz, s5]) ?_
            refine wpAnyH_done (by kernel_rfl) ?_ _
            subst ha0
            clear hsz s5
            go_simp
            repeat' (first | go_values | go_skip | go_guarded | go_step | go_upon | (simp only [Int.not_lt, Int.not_le] at *; go_simp))
            go_meet
            case rel => exact ⟨by rw [hb, h2, h3]; rfl, hS⟩
        · refine g_take (i := 8) (.bool true) rfl (by kernel_rfl) (by kernel_rfl) (by kernel_rfl) (fun _ _ _ h => h) (wanted_of 4 false 40 rfl (by kernel_rfl) (by simp [Act.put, hsz])) hS (fun W hW => by simp [execOp, go_sem, Act.put, hsz, s5, h2]) ?_
          refine h_take (i := 9) (.bool true) rfl (by kernel_rfl) (by kernel_rfl) (by kernel_rfl) (fun _ _ _ h => h) rfl hS (fun W hW => by simp [execOp, go_sem, Act.put, hsz, s5]) ?_
          refine h_take (i := 10) (.bool true) rfl (by kernel_rfl) (by kernel_rfl) (by kernel_rfl) (fun _ _ _ h => h) rfl hS (fun W hW => by simp [execOp, go_sem, Act.put, hsz, s5]) ?_
          refine g_pass (i := 11) rfl (by kernel_rfl) (by kernel_rfl) (by kernel_rfl) (fun _ _ _ h => h) (unwanted_of 10 false 46 rfl (by kernel_rfl) (by simp [Act.put, hsz])) hS ?_
          refine g_pass (i := 12) rfl (by kernel_rfl) (by kernel_rfl) (by kernel_rfl) (fun _ _ _ h => h) (unwanted_of 10 false 46 rfl (by kernel_rfl) (by simp [Act.put, hsz])) hS ?_
          refine g_pass (i := 13) rfl (by kernel_rfl) (by kernel_rfl) (by kernel_rfl) (fun _ _ _ h => h) (unwanted_of 10 false 46 rfl (by kernel_rfl) (by simp [Act.put, hsz])) hS ?_
          refine g_pass (i := 14) rfl (by kernel_rfl) (by kernel_rfl) (by kernel_rfl) (fun _ _ _ h => h) (unwanted_of 10 false 46 rfl (by kernel_rfl) (by simp [Act.put, hsz])) hS ?_
          refine h_take (i := 15) (.bool true) rfl (by kernel_rfl) (by kernel_rfl) (by kernel_rfl) (fun _ _ _ h => h) rfl hS (fun W hW => by simp [execOp, go_sem, Act.put, hsz, s5]) ?_
          refine h_take (i := 16) (.bool true) rfl (by kernel_rfl) (by kernel_rfl) (by kernel_rfl) (fun _ _ _ h => h) rfl hS (fun W hW => by simp [execOp, go_sem, Act.put, hsz, s5]) ?_
          refine g_pass (i := 17) rfl (by kernel_rfl) (by kernel_rfl) (by kernel_rfl) (fun _ _ _ h => h) (unwanted_of 16 false 52 rfl (by kernel_rfl) (by simp [Act.put, hsz])) hS ?_
          refine g_pass (i := 19) rfl (by kernel_rfl) (by kernel_rfl) (by kernel_rfl) (fun _ _ _ h => h) (unwanted_of 16 false 52 rfl (by kernel_rfl) (by simp [Act.put, hsz])) hS ?_
          refine g_pass (i := 20) rfl (by kernel_rfl) (by kernel_rfl) (by kernel_rfl) (fun _ _ _ h => h) (unwanted_of 16 false 52 rfl (by kernel_rfl) (by simp [Act.put, hsz])) hS ?_
          refine g_pass (i := 21) rfl (by kernel_rfl) (by kernel_rfl) (by kernel_rfl) (fun _ _ _ h => h) (unwanted_of 16 false 52 rfl (by kernel_rfl) (by simp [Act.put, hsz])) hS ?_
          refine g_none (i := 18) rfl (by kernel_rfl) (unwanted_of 16 false 52 rfl (by kernel_rfl) (by simp [Act.put, hsz])) hS ?_
          refine g_pass (i := 22) rfl (by kernel_rfl) (by kernel_rfl) (by kernel_rfl) (fun _ _ _ h => h) (unwanted_of 16 false 52 rfl (by kernel_rfl) (by simp [Act.put, hsz])) hS ?_
          refine h_take (i := 23) (.bool true) rfl (by kernel_rfl) (by kernel_rfl) (by kernel_rfl) (fun _ _ _ h => h) rfl hS (fun W hW => by simp [execOp, go_sem, Act.put, hsz, s5]) ?_
          refine wpAnyH_done (by kernel_rfl) ?_ _
          subst ha0
          clear hsz s5
          go_simp
          repeat' (first | go_values | go_skip | go_guarded | go_step | go_upon | (simp only [Int.not_lt, Int.not_le] at *; go_simp))
          go_meet
          case rel => exact ⟨by rw [hb, h2]; rfl, hS⟩
    case rest =>
    obtain ⟨rfl, HM⟩ := hcut
    clear hM HBt HEn
    rename World => u
    have hM := HM.out
    clear HM
    generalize (((adB (cl s 1) && !(cl s 2 != 0)) && !(cl s 3 == 0)) && !(hh != (cl s 0 == 3))) = bb at *
    cases bb
    · have HQ3 : Hid (4 = q) := if_bad HQ2.out (by rw [HRB.out]; rfl)
      clear HQ2 HRB
      repeat' (first | go_values | go_skip | go_guarded | go_step | go_upon | (simp only [Int.not_lt, Int.not_le] at *; go_simp))
      go_ret
      rw [← HQ3.out]
      exact ⟨rfl, hM.below⟩
    rw [Bool.not_true]
    rw [Bool.true_and] at HRB
    obtain ⟨q2, hq2⟩ : ∃ q2, allF 32 (fun j => eok (en s j) (mk s j)) 0 = q2 := ⟨_, rfl⟩
    have HQ0 : Hid (allF 32 (fun j => eok (en s j) (mk s j)) 0 = q2) := hq2
    rw [hq2] at HRB
    clear hq2
    have HB03 : Hid (∀ j u, Calls Try.prog 49 #[.int .i64 (cl s (2 + j)), .int .i64 0, .int .i64 3] u fun e w' => e = .returned (.bool (decide (0 ≤ cl s (2 + j)) && decide (cl s (2 + j) ≤ 3))) ∧ u = w') := fun j => between_any _ _ _
    have HB65 : Hid (∀ j u, Calls Try.prog 49 #[.int .i64 (cl s (34 + j)), .int .i64 0, .int .i64 65535] u fun e w' => e = .returned (.bool (decide (0 ≤ cl s (34 + j)) && decide (cl s (34 + j) ≤ 65535))) ∧ u = w') := fun j => between_any _ _ _
    repeat' (first | go_values | go_skip | go_guarded | go_step | go_upon | (simp only [Int.not_lt, Int.not_le] at *; go_simp))
    go_loopw [6, 60] (fun _ i wi => ∃ j : Nat, j ≤ 32 ∧ i = .int .i64 (j : Int) ∧ u = wi ∧ Hid (allF 32 (fun j => eok (en s j) (mk s j)) j = q2)) (fun _ i _ => 32 - (intOf i).toNat)
    case atStart => exact ⟨0, by omega, rfl, rfl, HQ0.out⟩
    case round =>
      obtain ⟨j, hj, rfl, rfl, HA⟩ := hrel
      clear HQ0
      by_cases hjt : ¬ j < 32
      · have HQ2t : Hid (true = q2) := by have := HA.out; rw [allF_end (by omega)] at this; exact this
        rw [← HQ2t.out, Bool.true_and] at HRB
        clear HA HB03 HB65
        obtain ⟨q3, hq3⟩ : ∃ q3, allF k (fun j => ad (sl B j) != ad s) 0 = q3 := ⟨_, rfl⟩
        have HQ0 : Hid (allF k (fun j => ad (sl B j) != ad s) 0 = q3) := hq3
        rw [hq3] at HRB
        clear hq3
        have hsl := run_sl zbd k hk
        have ej : decide ((j : Int) < 32) = false := decide_eq_false (by omega)
        clear hjt hj
        repeat' (first | go_values | go_skip | go_guarded | go_step | go_upon | (simp only [Int.not_lt, Int.not_le] at *; go_simp))
        clear hsl ej
        have HM : Hid (Mm w u [(zs, 29, s), (zn, 29, z66), (zbd, 32, F)]) := hM
        clear hM
        go_loopw [8, 96] (fun _ i wi => ∃ j : Nat, j ≤ k ∧ i = .int .i64 (j : Int) ∧ Hid (allF k (fun j => ad (sl B j) != ad s) j = q3 ∧ Mm w wi [(zs, 29, s), (zn, 29, z66), (zbd, 32, F)])) (fun _ i _ => k - (intOf i).toNat)
        case atStart => exact ⟨0, by omega, rfl, HQ0.out, HM.out⟩
        case round =>
          obtain ⟨j, hj, rfl, HA⟩ := hrel
          clear HQ0 HM
          have hM := HA.out.2
          by_cases hjt : ¬ j < k
          · have HQ3t : Hid (true = q3) := by have := HA.out.1; rw [allF_end (by omega)] at this; exact this
            have HQ4 : Hid ((if allF 9 (refAt B) (k + 1) = true then (0 : Int) else 4) = q) := if_ok HQ2.out (by rw [HRB.out, ← HQ3t.out])
            clear HA HQ2 HRB
            repeat' (first | go_values | go_skip | go_guarded | go_step | go_upon | (simp only [Int.not_lt, Int.not_le] at *; go_simp))
            go_roundw
            case rel => exact ⟨k + 1, by omega, by go_num, HQ4.out, hM.tail⟩
            case measure => simp [intOf]; omega
          have hjt : j < k := by omega
          have HS := HA.out.1
          rw [allF_step hjt] at HS
          have HSt : Hid (((ad (sl B j) != ad s) && allF k (fun j => ad (sl B j) != ad s) (j + 1)) = q3) := HS
          have HSCj : Hid (cut F (j * 66) 66 = sl B j) := by show _ = _; rw [← HF.out]; exact fl_cut HW.out (by omega)
          have HSEj : Hid (j * 66 + 66 ≤ F.length) := by show _ ≤ _; rw [← HF.out, HW.out.length]; omega
          have HLj : Hid ((sl B j).length = 66) := HW.out.sl (by omega)
          have HD : Hid ((ad (sl B j) != ad s) = !(cl (sl B j) 1 == cl s 1)) := rfl
          clear HA HS
          generalize (ad (sl B j) != ad s) = dd at *
          generalize sl B j = t at *
          have Gj : Hid (t[1]? = some (cl t 1)) := cl_at (by rw [HLj.out]; omega)
          cases hd : (cl t 1 == cl s 1)
          · have HS2 : Hid (allF k (fun j => ad (sl B j) != ad s) (j + 1) = q3) := by show _ = _; rw [← HSt.out, HD.out, hd]; rfl
            clear HSt HD
            repeat' (first | (go_big_may; first | (refine a_load rfl rfl row_slot rfl hM.at2 HSEj.out HSCj.out ?_) | (refine a_alloc rfl zer_slot rfl ?_; intro u zt hN; replace hM := hM.new hN; clear hN) | (refine a_fill rfl rfl row_slot rfl rfl hM.at0 HLj.out List.length_replicate ?_; intro u hv hc; replace hM := hM.put0 hc hv; clear hv hc) | (refine a_get rfl rfl rfl hM.at0 Gj.out ?_) | (refine a_get rfl rfl rfl hM.at1 G1.out ?_)) | go_values | go_skip | go_guarded | go_step | go_upon | (simp only [Int.not_lt, Int.not_le] at *; go_simp))
            go_roundw
            case rel => exact ⟨j + 1, by omega, by go_num, HS2.out, hM.tail⟩
            case measure => simp [intOf]; omega
          · have HQ4 : Hid (4 = q) := if_bad HQ2.out (by rw [HRB.out, ← HSt.out, HD.out, hd]; rfl)
            clear HSt HD HQ2 HRB
            repeat' (first | (go_big_may; first | (refine a_load rfl rfl row_slot rfl hM.at2 HSEj.out HSCj.out ?_) | (refine a_alloc rfl zer_slot rfl ?_; intro u zt hN; replace hM := hM.new hN; clear hN) | (refine a_fill rfl rfl row_slot rfl rfl hM.at0 HLj.out List.length_replicate ?_; intro u hv hc; replace hM := hM.put0 hc hv; clear hv hc) | (refine a_get rfl rfl rfl hM.at0 Gj.out ?_) | (refine a_get rfl rfl rfl hM.at1 G1.out ?_)) | go_values | go_skip | go_guarded | go_step | go_upon | (simp only [Int.not_lt, Int.not_le] at *; go_simp))
            go_ret
            rw [← HQ4.out]
            exact ⟨rfl, hM.below⟩
      have hjt : j < 32 := by omega
      have GE : Hid (s[2 + j]? = some (cl s (2 + j))) := cl_at (by rw [HSL.out]; omega)
      have GM : Hid (s[34 + j]? = some (cl s (34 + j))) := cl_at (by rw [HSL.out]; omega)
      have HS := HA.out
      rw [allF_step hjt] at HS
      have HEQ : Hid (eok (en s j) (mk s j) = ((decide (0 ≤ cl s (2 + j)) && decide (cl s (2 + j) ≤ 3)) && ((decide (0 ≤ cl s (34 + j)) && decide (cl s (34 + j) ≤ 65535)) && !((cl s (2 + j) == 0) && (cl s (34 + j) != 0))))) := eok_ref _ _
      have HSt : Hid ((eok (en s j) (mk s j) && allF 32 (fun j => eok (en s j) (mk s j)) (j + 1)) = q2) := HS
      have H1 : Hid (∀ u, Calls Try.prog 49 #[.int .i64 (cl s (2 + j)), .int .i64 0, .int .i64 3] u fun e w' => e = .returned (.bool (decide (0 ≤ cl s (2 + j)) && decide (cl s (2 + j) ≤ 3))) ∧ u = w') := HB03.out j
      have H2 : Hid (∀ u, Calls Try.prog 49 #[.int .i64 (cl s (34 + j)), .int .i64 0, .int .i64 65535] u fun e w' => e = .returned (.bool (decide (0 ≤ cl s (34 + j)) && decide (cl s (34 + j) ≤ 65535))) ∧ u = w') := HB65.out j
      clear HA HS HB03 HB65
      generalize eok (en s j) (mk s j) = ok at *
      generalize (decide (0 ≤ cl s (2 + j)) && decide (cl s (2 + j) ≤ 3)) = b1 at *
      generalize (decide (0 ≤ cl s (34 + j)) && decide (cl s (34 + j) ≤ 65535)) = b2 at *
      go_upto_region 16 with (fail)
      go_cut [90] from 61 to 91 (fun bv wx => bv = .bool (!ok) ∧ u = wx)
      case first =>
        cases b1
        · repeat' (first | (go_big_may; first | (refine a_get rfl rfl rfl hM.at0 GE.out ?_)) | go_values | go_skip | go_guarded | go_step | go_upon | (simp only [Int.not_lt, Int.not_le] at *; go_simp))
          refine (H1.out _).mono ?_
          rintro r v ⟨rfl, rfl⟩
          repeat' (first | go_values | go_skip | go_guarded | go_step | go_upon | (simp only [Int.not_lt, Int.not_le] at *; go_simp))
          go_meet
          case rel => exact ⟨by rw [HEQ.out]; rfl, rfl⟩
        · cases b2
          · repeat' (first | (go_big_may; first | (refine a_get rfl rfl rfl hM.at0 GE.out ?_)) | go_values | go_skip | go_guarded | go_step | go_upon | (simp only [Int.not_lt, Int.not_le] at *; go_simp))
            refine (H1.out _).mono ?_
            rintro r v ⟨rfl, rfl⟩
            repeat' (first | (go_big_may; first | (refine a_get rfl rfl rfl hM.at0 GM.out ?_)) | go_values | go_skip | go_guarded | go_step | go_upon | (simp only [Int.not_lt, Int.not_le] at *; go_simp))
            refine (H2.out _).mono ?_
            rintro r v ⟨rfl, rfl⟩
            repeat' (first | go_values | go_skip | go_guarded | go_step | go_upon | (simp only [Int.not_lt, Int.not_le] at *; go_simp))
            go_meet
            case rel => exact ⟨by rw [HEQ.out]; rfl, rfl⟩
          · cases h0 : (cl s (2 + j) == 0)
            · repeat' (first | (go_big_may; first | (refine a_get rfl rfl rfl hM.at0 GE.out ?_)) | go_values | go_skip | go_guarded | go_step | go_upon | (simp only [Int.not_lt, Int.not_le] at *; go_simp))
              refine (H1.out _).mono ?_
              rintro r v ⟨rfl, rfl⟩
              repeat' (first | (go_big_may; first | (refine a_get rfl rfl rfl hM.at0 GM.out ?_)) | go_values | go_skip | go_guarded | go_step | go_upon | (simp only [Int.not_lt, Int.not_le] at *; go_simp))
              refine (H2.out _).mono ?_
              rintro r v ⟨rfl, rfl⟩
              repeat' (first | (go_big_may; first | (refine a_get rfl rfl rfl hM.at0 GE.out ?_)) | go_values | go_skip | go_guarded | go_step | go_upon | (simp only [Int.not_lt, Int.not_le] at *; go_simp))
              go_meet
              case rel => exact ⟨by rw [HEQ.out, h0]; rfl, rfl⟩
            · repeat' (first | (go_big_may; first | (refine a_get rfl rfl rfl hM.at0 GE.out ?_)) | go_values | go_skip | go_guarded | go_step | go_upon | (simp only [Int.not_lt, Int.not_le] at *; go_simp))
              refine (H1.out _).mono ?_
              rintro r v ⟨rfl, rfl⟩
              repeat' (first | (go_big_may; first | (refine a_get rfl rfl rfl hM.at0 GM.out ?_)) | go_values | go_skip | go_guarded | go_step | go_upon | (simp only [Int.not_lt, Int.not_le] at *; go_simp))
              refine (H2.out _).mono ?_
              rintro r v ⟨rfl, rfl⟩
              repeat' (first | (go_big_may; first | (refine a_get rfl rfl rfl hM.at0 GE.out ?_) | (refine a_get rfl rfl rfl hM.at0 GM.out ?_)) | go_values | go_skip | go_guarded | go_step | go_upon | (simp only [Int.not_lt, Int.not_le] at *; go_simp))
              go_meet
              case rel => exact ⟨by rw [HEQ.out, h0]; simp, rfl⟩
      case rest =>
      obtain ⟨rfl, rfl⟩ := hcut
      clear H1 H2 HEQ
      cases ok
      · have HQ3 : Hid (4 = q) := if_bad HQ2.out (by rw [HRB.out, ← HSt.out]; rfl)
        clear HQ2 HRB HSt
        repeat' (first | go_values | go_skip | go_guarded | go_step | go_upon | (simp only [Int.not_lt, Int.not_le] at *; go_simp))
        go_ret
        rw [← HQ3.out]
        exact ⟨rfl, hM.below⟩
      · rw [Bool.true_and] at HSt
        repeat' (first | go_values | go_skip | go_guarded | go_step | go_upon | (simp only [Int.not_lt, Int.not_le] at *; go_simp))
        go_roundw
        case rel => exact ⟨j + 1, by omega, by go_num, trivial, HSt.out⟩
        case measure => simp [intOf]; omega
end Go.Proofs.Ythjmcopknkemnab.slots
