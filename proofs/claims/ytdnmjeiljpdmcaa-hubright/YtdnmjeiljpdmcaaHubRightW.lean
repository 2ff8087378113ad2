/- HubRight: whatever is done at a right hub, it is right; an error leaves it as it was; one port alone is other than before. -/
import Derived.Test.YtdnmjeiljpdmcaaHubR
import Derived.Test.YtdnmjeiljpdmcaaHubL
import Derived.Test.YtdnmjeiljpdmcaaHubO
namespace Go.Proofs.Ytdnmjeiljpdmcaa.hubRight
open Go Go.RowKit Go.PlainAid Go.Proofs.Ytdnmjeiljpdmcaa.hub
set_option linter.unusedVariables false
set_option linter.unusedSimpArgs false
set_option maxRecDepth 100000

theorem hi16 {k : Nat} (h : k < 16) : (k : Int) < 16 := by omega
set_option maxHeartbeats 16000000 in
theorem walk (F : List Int) (n : Int) (t : Bool) (q : ByteArray) (hn : (Lit.int .i64 n).wf = true) (hq : q.size ≤ maxLen) (w : World) (hb : Hb F) : Calls Try.prog 5 #[ag F, .int .i64 n, .bool t, .string q] w fun r w' => r = .returned (.bool true) ∧ Below w.heap.size w w' := by
  have HL : Hid (F.length = 33) := hb.len
  have HC : Hid (cut F 0 33 = F) := cut_all hb.len
  have HE : Hid (0 + 33 ≤ F.length) := by show 0 + 33 ≤ _; rw [hb.len]; omega
  have HP1 : Hid (∀ u, Calls Try.prog 9 #[ag F, .int .i64 n, .bool t] u fun e w' => e = .returned (.tuple #[ag (plugV F n t), .int .i64 (plugC F n)]) ∧ Below u.heap.size u w') := fun u => plug_any F n t u hb
  have HC1 : Hid (∀ u, Calls Try.prog 15 #[ag F, .string q] u fun e w' => e = .returned (.tuple #[ag (ctlV F (qs q)), .string (ctS F q), .int .i64 (ctlE F (qs q))]) ∧ Below u.heap.size u w') := fun u => control_any F q u hb hq
  have HT1 : Hid (∀ u, Calls Try.prog 11 #[ag F] u fun e w' => e = .returned (.tuple #[ag (tickV F), .int .i64 (chk F)]) ∧ Below u.heap.size u w') := fun u => tick_any F u hb
  have HLv : Hid (∀ u, Calls Try.prog 19 #[] u fun e w' => e = .returned (.bool true) ∧ Below u.heap.size u w') := lives_any
  have HRk : Hid (∀ u, Calls Try.prog 14 #[ag F] u fun e w' => e = .returned (.int .i64 (chk F)) ∧ Below u.heap.size u w') := fun u => rhub_any F u hb
  have hM := Mm.nil w
  have hdF : decide (F = F) = true := decide_eq_true rfl
  clear hn
  by_cases h0 : ¬ chk F = 0
  · have hp : plugC F n ≠ 0 := plugC_err h0
    have hc : ctlE F (qs q) ≠ 0 := ctlE_err h0
    have e1 : plugV F n t = F := plugV_bad hp
    have e2 : ctlV F (qs q) = F := ctl_bad hb.len hc
    have e3 : tickV F = F := by unfold tickV; rw [if_pos h0]
    rw [e1] at HP1
    rw [e2] at HC1
    rw [e3] at HT1
    have b1 : (plugC F n != 0) = true := by simpa using hp
    have b2 : (ctlE F (qs q) != 0) = true := by simpa using hc
    have b3 : (chk F != 0) = true := by simpa using h0
    clear hb hq h0 hp hc e1 e2 e3
    generalize ctS F q = T1 at *
    generalize plugC F n = c1 at *
    generalize ctlE F (qs q) = c2 at *
    generalize chk F = c3 at *
    go_enter Try.func5, Try.ntmps5
    repeat' (first | (go_big_may; first | (refine a_box rfl rfl rfl ?_; intro u zh hN; replace hM := hM.new hN; clear hN) | (refine a_load rfl rfl row_hub rfl hM.at0 HE.out HC.out ?_)) | go_values | go_skip | go_guarded | go_step | go_upon | (simp only [Int.not_lt, Int.not_le] at *; go_simp))
    refine (HP1.out _).mono ?_
    rintro r u ⟨rfl, hv⟩
    replace hM := hM.call hv
    clear hv
    repeat' (first | (go_big_may; first | (refine a_alloc rfl zer_hub rfl ?_; intro u z1 hN; replace hM := hM.new hN; clear hN) | (refine a_fill rfl rfl row_hub rfl rfl hM.at0 HL.out rep_33 ?_; intro u hv hc; replace hM := hM.put0 hc hv; clear hv hc) | (refine a_load rfl rfl row_hub rfl hM.at1 HE.out HC.out ?_)) | go_values | go_skip | go_guarded | go_step | go_upon | (simp only [Int.not_lt, Int.not_le] at *; go_simp))
    refine (HC1.out _).mono ?_
    rintro r u ⟨rfl, hv⟩
    replace hM := hM.call hv
    clear hv
    repeat' (first | (go_big_may; first | (refine a_alloc rfl zer_hub rfl ?_; intro u z2 hN; replace hM := hM.new hN; clear hN) | (refine a_fill rfl rfl row_hub rfl rfl hM.at0 HL.out rep_33 ?_; intro u hv hc; replace hM := hM.put0 hc hv; clear hv hc) | (refine a_load rfl rfl row_hub rfl hM.at2 HE.out HC.out ?_)) | go_values | go_skip | go_guarded | go_step | go_upon | (simp only [Int.not_lt, Int.not_le] at *; go_simp))
    refine (HT1.out _).mono ?_
    rintro r u ⟨rfl, hv⟩
    replace hM := hM.call hv
    clear hv
    repeat' (first | (go_big_may; first | (refine a_alloc rfl zer_hub rfl ?_; intro u z3 hN; replace hM := hM.new hN; clear hN) | (refine a_fill rfl rfl row_hub rfl rfl hM.at0 HL.out rep_33 ?_; intro u hv hc; replace hM := hM.put0 hc hv; clear hv hc)) | go_values | go_skip | go_guarded | go_step | go_upon | (simp only [Int.not_lt, Int.not_le] at *; go_simp))
    refine (HLv.out _).mono ?_
    rintro r u ⟨rfl, hv⟩
    replace hM := hM.call hv
    clear hv
    repeat' (first | (go_big_may; first | (refine a_load rfl rfl row_hub rfl hM.at0 HE.out HC.out ?_) | (refine a_load rfl rfl row_hub rfl hM.at1 HE.out HC.out ?_) | (refine a_load rfl rfl row_hub rfl hM.at2 HE.out HC.out ?_) | (refine a_load rfl rfl row_hub rfl hM.at3 HE.out HC.out ?_) | (refine a_neq rfl rfl cmp_hub rfl rfl HL.out HL.out ?_; rw [show decide (F = F) = true from decide_eq_true rfl])) | go_values | go_skip | go_guarded | go_step | go_upon | (simp only [Int.not_lt, Int.not_le] at *; go_simp))
    refine (HRk.out _).mono ?_
    rintro r u ⟨rfl, hv⟩
    replace hM := hM.call hv
    clear hv
    repeat' (first | go_values | go_skip | go_guarded | go_step | go_upon | (simp only [Int.not_lt, Int.not_le] at *; go_simp))
    go_ret
    exact ⟨rfl, hM.below⟩
  have h0 : chk F = 0 := by omega
  have hok := chk_ok hb.len h0
  rw [h0] at HT1 HRk
  have o1 := plugV_ok (n := n) (t := t) hok
  have o2 := ctlV_ok (t := q) hok
  have o3 := tick_ok hok
  have HL1 : Hid ((plugV F n t).length = 33) := o1.len
  have HL2 : Hid ((ctlV F (qs q)).length = 33) := o2.len
  have HL3 : Hid ((tickV F).length = 33) := o3.len
  have HR1 : Hid (∀ u, Calls Try.prog 14 #[ag (plugV F n t)] u fun e w' => e = .returned (.int .i64 0) ∧ Below u.heap.size u w') := fun u => by
    have := rhub_any _ u o1.hb; rw [o1.chk] at this; exact this
  have HR2 : Hid (∀ u, Calls Try.prog 14 #[ag (ctlV F (qs q))] u fun e w' => e = .returned (.int .i64 0) ∧ Below u.heap.size u w') := fun u => by
    have := rhub_any _ u o2.hb; rw [o2.chk] at this; exact this
  have HR3 : Hid (∀ u, Calls Try.prog 14 #[ag (tickV F)] u fun e w' => e = .returned (.int .i64 0) ∧ Below u.heap.size u w') := fun u => by
    have := rhub_any _ u o3.hb; rw [o3.chk] at this; exact this
  have HA : Hid (plugC F n = 0 ∨ (plugC F n != 0) = true ∧ decide (plugV F n t = F) = true) := by
    by_cases z : plugC F n = 0
    · exact .inl z
    · exact .inr ⟨by simpa using z, decide_eq_true (plugV_bad z)⟩
  have HB : Hid (ctlE F (qs q) = 0 ∨ (ctlE F (qs q) != 0) = true ∧ decide (ctlV F (qs q) = F) = true) := by
    by_cases z : ctlE F (qs q) = 0
    · exact .inl z
    · exact .inr ⟨by simpa using z, decide_eq_true (ctl_bad hb.len z)⟩
  have HOth : Hid (∀ k : Nat, (k : Int) ≠ n → [sta (plugV F n t) k, chg (plugV F n t) k] = [sta F k, chg F k]) := fun k hk => by
    obtain ⟨a1, a2⟩ := plug_other (t := t) hok hk
    rw [a1, a2]
  have HOne : Hid (cntF (fun k => !decide ([sta (ctlV F (qs q)) k, chg (ctlV F (qs q)) k] = [sta F k, chg F k])) 16 ≤ 1) := by
    obtain ⟨i, _, hi⟩ := ctl_one (t := q) hok
    refine cntF_one (i := i) (fun j hj => ?_) 16
    obtain ⟨a1, a2⟩ := hi j hj
    simp [a1, a2]
  have HPa : Hid (∀ k, k < 16 → cut (plugV F n t) (1 + k * 2) 2 = [sta (plugV F n t) k, chg (plugV F n t) k]) := fun k hk => cut_port o1.len hk
  have HPb : Hid (∀ k, k < 16 → cut (ctlV F (qs q)) (1 + k * 2) 2 = [sta (ctlV F (qs q)) k, chg (ctlV F (qs q)) k]) := fun k hk => cut_port o2.len hk
  have HPh : Hid (∀ k, k < 16 → cut F (1 + k * 2) 2 = [sta F k, chg F k]) := fun k hk => cut_port hok.len hk
  clear hb hq h0 hok o1 o2 o3 hdF
  generalize ctS F q = T1 at *
  generalize plugV F n t = G1 at *
  generalize ctlV F (qs q) = G2 at *
  generalize tickV F = G3 at *
  generalize plugC F n = c1 at *
  generalize ctlE F (qs q) = c2 at *
  have HCa : Hid (cut G1 0 33 = G1) := cut_all HL1.out
  have HEa : Hid (0 + 33 ≤ G1.length) := by show 0 + 33 ≤ _; rw [HL1.out]; omega
  have HCb : Hid (cut G2 0 33 = G2) := cut_all HL2.out
  have HEb : Hid (0 + 33 ≤ G2.length) := by show 0 + 33 ≤ _; rw [HL2.out]; omega
  have HCc : Hid (cut G3 0 33 = G3) := cut_all HL3.out
  have HEc : Hid (0 + 33 ≤ G3.length) := by show 0 + 33 ≤ _; rw [HL3.out]; omega
  go_enter Try.func5, Try.ntmps5
  repeat' (first | (go_big_may; first | (refine a_box rfl rfl rfl ?_; intro u zh hN; replace hM := hM.new hN; clear hN) | (refine a_load rfl rfl row_hub rfl hM.at0 HE.out HC.out ?_)) | go_values | go_skip | go_guarded | go_step | go_upon | (simp only [Int.not_lt, Int.not_le] at *; go_simp))
  refine (HP1.out _).mono ?_
  rintro r u ⟨rfl, hv⟩
  replace hM := hM.call hv
  clear hv
  repeat' (first | (go_big_may; first | (refine a_alloc rfl zer_hub rfl ?_; intro u z1 hN; replace hM := hM.new hN; clear hN) | (refine a_fill rfl rfl row_hub rfl rfl hM.at0 HL1.out rep_33 ?_; intro u hv hc; replace hM := hM.put0 hc hv; clear hv hc) | (refine a_load rfl rfl row_hub rfl hM.at1 HE.out HC.out ?_)) | go_values | go_skip | go_guarded | go_step | go_upon | (simp only [Int.not_lt, Int.not_le] at *; go_simp))
  refine (HC1.out _).mono ?_
  rintro r u ⟨rfl, hv⟩
  replace hM := hM.call hv
  clear hv
  repeat' (first | (go_big_may; first | (refine a_alloc rfl zer_hub rfl ?_; intro u z2 hN; replace hM := hM.new hN; clear hN) | (refine a_fill rfl rfl row_hub rfl rfl hM.at0 HL2.out rep_33 ?_; intro u hv hc; replace hM := hM.put0 hc hv; clear hv hc) | (refine a_load rfl rfl row_hub rfl hM.at2 HE.out HC.out ?_)) | go_values | go_skip | go_guarded | go_step | go_upon | (simp only [Int.not_lt, Int.not_le] at *; go_simp))
  refine (HT1.out _).mono ?_
  rintro r u ⟨rfl, hv⟩
  replace hM := hM.call hv
  clear hv
  go_upto_region 4 with (first | (refine a_alloc rfl zer_hub rfl ?_; intro u z3 hN; replace hM := hM.new hN; clear hN) | (refine a_fill rfl rfl row_hub rfl rfl hM.at0 HL3.out rep_33 ?_; intro u hv hc; replace hM := hM.put0 hc hv; clear hv hc))
  go_simp
  rename World => u3
  go_cut [65] from 37 to 66 (fun bv wx => bv = .bool false ∧ Hid (Mm w wx [(z3, 26, G3), (z2, 26, G2), (z1, 26, G1), (zh, 26, F)]))
  case first =>
    rcases HA.out with rfl | ⟨b1, d1⟩ <;> rcases HB.out with rfl | ⟨b2, d2⟩
    all_goals
      repeat' (first | go_values | go_skip | go_guarded | go_step | go_upon | (simp only [Int.not_lt, Int.not_le] at *; go_simp))
      refine (HLv.out _).mono ?_
      rintro r u ⟨rfl, hv⟩
      replace hM := hM.call hv
      clear hv
      repeat' (first | (go_big_may; first | (refine a_load rfl rfl row_hub rfl hM.at3 HE.out HC.out ?_) | (refine a_load rfl rfl row_hub rfl hM.at2 HEa.out HCa.out ?_) | (refine a_load rfl rfl row_hub rfl hM.at1 HEb.out HCb.out ?_) | (refine a_neq rfl rfl cmp_hub rfl rfl HL1.out HL.out ?_; rw [d1]) | (refine a_neq rfl rfl cmp_hub rfl rfl HL2.out HL.out ?_; rw [d2])) | go_values | go_skip | go_guarded | go_step | go_upon | (simp only [Int.not_lt, Int.not_le] at *; go_simp))
      go_meet
      case rel => exact ⟨rfl, hM⟩
  case rest =>
  obtain ⟨rfl, HX⟩ := hcut
  rename World => u4
  replace hM := HX.out
  clear HX HA HB
  repeat' (first | (go_big_may; first | (refine a_load rfl rfl row_hub rfl hM.at3 HE.out HC.out ?_)) | go_values | go_skip | go_guarded | go_step | go_upon | (simp only [Int.not_lt, Int.not_le] at *; go_simp))
  refine (HRk.out _).mono ?_
  rintro r u ⟨rfl, hv⟩
  replace hM := hM.call hv
  clear hv
  repeat' (first | go_values | go_skip | go_guarded | go_step | go_upon | (simp only [Int.not_lt, Int.not_le] at *; go_simp))
  go_loopw [16, 17, 79] (fun nv _ i wr => ∃ k : Nat, k ≤ 16 ∧ i = .int .i64 (k : Int) ∧ ∃ m : Nat, m ≤ k ∧ nv = .int .i64 (m : Int) ∧ Hid (m = cntF (fun k => !decide ([sta G2 k, chg G2 k] = [sta F k, chg F k])) k ∧ Mm w wr [(z3, 26, G3), (z2, 26, G2), (z1, 26, G1), (zh, 26, F)])) (fun _ _ i _ => 16 - (intOf i).toNat)
  case atStart => exact ⟨0, by omega, rfl, 0, by omega, rfl, rfl, hM⟩
  case round =>
    clear hM
    obtain ⟨k, hk, rfl, m, hmk, rfl, HA⟩ := hrel
    have hM := HA.out.2
    by_cases hlt : ¬ k < 16
    · have hk16 : k = 16 := by omega
      subst hk16
      have hm1 : m ≤ 1 := by rw [HA.out.1]; exact HOne.out
      have hm2 : (m : Int) ≤ 1 := by omega
      clear HA HOne HOth HPa HPb HPh hlt hmk
      repeat' (first | (go_big_may; first | (refine a_load rfl rfl row_hub rfl hM.at2 HEa.out HCa.out ?_)) | go_values | go_skip | go_guarded | go_step | go_upon | (simp only [Int.not_lt, Int.not_le] at *; go_simp))
      refine (HR1.out _).mono ?_
      rintro r u ⟨rfl, hv⟩
      replace hM := hM.call hv
      clear hv
      repeat' (first | (go_big_may; first | (refine a_load rfl rfl row_hub rfl hM.at1 HEb.out HCb.out ?_)) | go_values | go_skip | go_guarded | go_step | go_upon | (simp only [Int.not_lt, Int.not_le] at *; go_simp))
      refine (HR2.out _).mono ?_
      rintro r u ⟨rfl, hv⟩
      replace hM := hM.call hv
      clear hv
      repeat' (first | (go_big_may; first | (refine a_load rfl rfl row_hub rfl hM.at0 HEc.out HCc.out ?_)) | go_values | go_skip | go_guarded | go_step | go_upon | (simp only [Int.not_lt, Int.not_le] at *; go_simp))
      refine (HR3.out _).mono ?_
      rintro r u ⟨rfl, hv⟩
      replace hM := hM.call hv
      clear hv
      repeat' (first | go_values | go_skip | go_guarded | go_step | go_upon | (simp only [Int.not_lt, Int.not_le] at *; go_simp))
      go_ret
      exact ⟨rfl, hM.below⟩
    have hlt : k < 16 := by omega
    have HKa : Hid (cut G1 (1 + k * 2) 2 = [sta G1 k, chg G1 k]) := HPa.out k hlt
    have HKb : Hid (cut G2 (1 + k * 2) 2 = [sta G2 k, chg G2 k]) := HPb.out k hlt
    have HKh : Hid (cut F (1 + k * 2) 2 = [sta F k, chg F k]) := HPh.out k hlt
    have HIa : Hid (1 + k * 2 + 2 ≤ G1.length) := by show _ ≤ _; rw [HL1.out]; omega
    have HIb : Hid (1 + k * 2 + 2 ≤ G2.length) := by show _ ≤ _; rw [HL2.out]; omega
    have HIh : Hid (1 + k * 2 + 2 ≤ F.length) := by show _ ≤ _; rw [HL.out]; omega
    have HOk : Hid ((k : Int) ≠ n → [sta G1 k, chg G1 k] = [sta F k, chg F k]) := HOth.out k
    have HCn : Hid (cntF (fun k => !decide ([sta G2 k, chg G2 k] = [sta F k, chg F k])) (k + 1) = m + (if (!decide ([sta G2 k, chg G2 k] = [sta F k, chg F k])) = true then 1 else 0)) := by
      show _ = _
      rw [HA.out.1]; rfl
    obtain ⟨m2, hm2⟩ : ∃ m2, cntF (fun k => !decide ([sta G2 k, chg G2 k] = [sta F k, chg F k])) (k + 1) = m2 := ⟨_, rfl⟩
    have HM2 : Hid (cntF (fun k => !decide ([sta G2 k, chg G2 k] = [sta F k, chg F k])) (k + 1) = m2) := hm2
    rw [hm2] at HCn
    clear HA HOne HOth HPa HPb HPh hm2
    generalize hz : (!decide ([sta G2 k, chg G2 k] = [sta F k, chg F k])) = zz at *
    have HZ : Hid ((!decide ([sta G2 k, chg G2 k] = [sta F k, chg F k])) = zz) := hz
    clear hz
    generalize sta G1 k = y1 at *
    generalize chg G1 k = x1 at *
    generalize sta G2 k = y2 at *
    generalize chg G2 k = x2 at *
    generalize sta F k = y at *
    generalize chg F k = x at *
    have hki := hi16 hlt
    by_cases hkn : (k : Int) = n
    · cases zz
      · have hm2 : m2 = m := HCn.out
        subst hkn
        repeat' (first | go_values | go_skip | go_guarded | go_step | go_upon | (simp only [Int.not_lt, Int.not_le] at *; go_simp))
        go_simp
        refine reg.wp_abs (fun a0 => a0.tmps.size = 125 ∧ (∀ h, a0.tmps[4]'h = .pointer (some ⟨zh, 0, none⟩)) ∧ (∀ h, a0.tmps[11]'h = .pointer (some ⟨z2, 0, none⟩)) ∧ (∀ h, a0.tmps[17]'h = .int .i64 (k : Int))) ⟨rfl, fun _ => rfl, fun _ => rfl, fun _ => rfl⟩ ?_
        rintro a0 ⟨hsz, s4, s11, s17⟩ ha0
        refine reg.wp_region_E (S := fun W => Ls W [(z2, 26, G2), (zh, 26, F)]) (E := fun _ => false) (by kernel_rfl) ?_
        replace hM := hM.drew
        refine reg.e_take (i := 0) (.int .i64 (k : Int)) rfl (by kernel_rfl) (by kernel_rfl) (by kernel_rfl) (by kernel_rfl) (fun _ _ _ h => h) (reg.wanted_none rfl) (hM.ls (by simp)) (fun W hW => by simp [execOp, go_sem, Act.put, hsz, s4, s11, s17]) ?_
        refine reg.e_take (i := 1) (.pointer (some ⟨z2, 1, none⟩)) rfl (by kernel_rfl) (by kernel_rfl) (by kernel_rfl) (by kernel_rfl) (fun _ _ _ h => h) (reg.wanted_none rfl) (hM.ls (by simp)) (fun W hW => by simp [execOp, go_sem, Act.put, hsz, s4, s11, s17]) ?_
        refine reg.e_take (i := 2) (.pointer (some ⟨z2, 1 + k * 2, none⟩)) rfl (by kernel_rfl) (by kernel_rfl) (by kernel_rfl) (by kernel_rfl) (fun _ _ _ h => h) (reg.wanted_none rfl) (hM.ls (by simp)) (fun W hW => by simp [execOp, go_sem, Act.put, hsz, s4, s11, s17, hki]) ?_
        refine reg.e_take (i := 3) (ag [y2, x2]) rfl (by kernel_rfl) (by kernel_rfl) (by kernel_rfl) (by kernel_rfl) (fun _ _ _ h => h) (reg.wanted_none rfl) (hM.ls (by simp)) (fun W hW => ex_load rfl row_port (by simp [go_sem, Act.put, hsz, s4, s11, s17]) hW.at0 HIb.out HKb.out) ?_
        refine reg.e_take (i := 4) (.int .i64 (k : Int)) rfl (by kernel_rfl) (by kernel_rfl) (by kernel_rfl) (by kernel_rfl) (fun _ _ _ h => h) (reg.wanted_none rfl) (hM.ls (by simp)) (fun W hW => by simp [execOp, go_sem, Act.put, hsz, s4, s11, s17]) ?_
        refine reg.e_take (i := 5) (.pointer (some ⟨zh, 1, none⟩)) rfl (by kernel_rfl) (by kernel_rfl) (by kernel_rfl) (by kernel_rfl) (fun _ _ _ h => h) (reg.wanted_none rfl) (hM.ls (by simp)) (fun W hW => by simp [execOp, go_sem, Act.put, hsz, s4, s11, s17]) ?_
        refine reg.e_take (i := 6) (.pointer (some ⟨zh, 1 + k * 2, none⟩)) rfl (by kernel_rfl) (by kernel_rfl) (by kernel_rfl) (by kernel_rfl) (fun _ _ _ h => h) (reg.wanted_none rfl) (hM.ls (by simp)) (fun W hW => by simp [execOp, go_sem, Act.put, hsz, s4, s11, s17, hki]) ?_
        refine reg.e_take (i := 7) (ag [y, x]) rfl (by kernel_rfl) (by kernel_rfl) (by kernel_rfl) (by kernel_rfl) (fun _ _ _ h => h) (reg.wanted_none rfl) (hM.ls (by simp)) (fun W hW => ex_load rfl row_port (by simp [go_sem, Act.put, hsz, s4, s11, s17]) hW.at1 HIh.out HKh.out) ?_
        refine reg.e_take (i := 8) (.bool false) rfl (by kernel_rfl) (by kernel_rfl) (by kernel_rfl) (by kernel_rfl) (fun _ _ _ h => h) (reg.wanted_none rfl) (hM.ls (by simp)) (fun W hW => ex_neq rfl cmp_port (by simp [go_sem, Act.put, hsz, s4, s11, s17]) (by simp [go_sem, Act.put, hsz, s4, s11, s17]) rfl rfl HZ.out) ?_
        refine reg.e_done (by kernel_rfl) ?_ _
        subst ha0
        clear hsz s4 s11 s17
        go_simp
        repeat' (first | go_values | go_skip | go_guarded | go_step | go_upon | (simp only [Int.not_lt, Int.not_le] at *; go_simp))
        go_simp
        refine reg.wp_abs (fun a0 => a0.tmps.size = 125 ∧ (∀ h, a0.tmps[1]'h = .int .i64 (k : Int)) ∧ (∀ h, a0.tmps[4]'h = .pointer (some ⟨zh, 0, none⟩)) ∧ (∀ h, a0.tmps[9]'h = .pointer (some ⟨z1, 0, none⟩)) ∧ (∀ h, a0.tmps[17]'h = .int .i64 (k : Int))) ⟨rfl, fun _ => rfl, fun _ => rfl, fun _ => rfl, fun _ => rfl⟩ ?_
        rintro a0 ⟨hsz, s1, s4, s9, s17⟩ ha0
        refine reg.wp_region_E (S := fun W => Ls W [(z1, 26, G1), (zh, 26, F)]) (E := fun _ => false) (by kernel_rfl) ?_
        replace hM := hM.drew
        refine reg.e_take (i := 0) (.int .i64 (k : Int)) rfl (by kernel_rfl) (by kernel_rfl) (by kernel_rfl) (by kernel_rfl) (fun _ _ _ h => h) (reg.wanted_none rfl) (hM.ls (by simp)) (fun W hW => by simp [execOp, go_sem, Act.put, hsz, s1, s4, s9, s17]) ?_
        refine reg.e_take (i := 1) (.int .i64 (k : Int)) rfl (by kernel_rfl) (by kernel_rfl) (by kernel_rfl) (by kernel_rfl) (fun _ _ _ h => h) (reg.wanted_none rfl) (hM.ls (by simp)) (fun W hW => by simp [execOp, go_sem, Act.put, hsz, s1, s4, s9, s17]) ?_
        refine reg.e_take (i := 2) (.bool false) rfl (by kernel_rfl) (by kernel_rfl) (by kernel_rfl) (by kernel_rfl) (fun _ _ _ h => h) (reg.wanted_none rfl) (hM.ls (by simp)) (fun W hW => by simp [execOp, go_sem, Act.put, hsz, s1, s4, s9, s17]) ?_
        refine reg.e_take (i := 3) (.bool false) rfl (by kernel_rfl) (by kernel_rfl) (by kernel_rfl) (by kernel_rfl) (fun _ _ _ h => h) (reg.wanted_none rfl) (hM.ls (by simp)) (fun W hW => by simp [execOp, go_sem, Act.put, hsz, s1, s4, s9, s17]) ?_
        refine reg.e_pass (i := 4) rfl (by kernel_rfl) (by kernel_rfl) (by kernel_rfl) (by kernel_rfl) (fun _ _ _ h => h) (reg.unwanted_of 3 true 96 rfl (by kernel_rfl) (by simp [Act.put, hsz])) (hM.ls (by simp)) ?_
        refine reg.e_pass (i := 5) rfl (by kernel_rfl) (by kernel_rfl) (by kernel_rfl) (by kernel_rfl) (fun _ _ _ h => h) (reg.unwanted_of 3 true 96 rfl (by kernel_rfl) (by simp [Act.put, hsz])) (hM.ls (by simp)) ?_
        refine reg.e_pass (i := 6) rfl (by kernel_rfl) (by kernel_rfl) (by kernel_rfl) (by kernel_rfl) (fun _ _ _ h => h) (reg.unwanted_of 3 true 96 rfl (by kernel_rfl) (by simp [Act.put, hsz])) (hM.ls (by simp)) ?_
        refine reg.e_pass (i := 7) rfl (by kernel_rfl) (by kernel_rfl) (by kernel_rfl) (by kernel_rfl) (fun _ _ _ h => h) (reg.unwanted_of 3 true 96 rfl (by kernel_rfl) (by simp [Act.put, hsz])) (hM.ls (by simp)) ?_
        refine reg.e_pass (i := 8) rfl (by kernel_rfl) (by kernel_rfl) (by kernel_rfl) (by kernel_rfl) (fun _ _ _ h => h) (reg.unwanted_of 3 true 96 rfl (by kernel_rfl) (by simp [Act.put, hsz])) (hM.ls (by simp)) ?_
        refine reg.e_pass (i := 9) rfl (by kernel_rfl) (by kernel_rfl) (by kernel_rfl) (by kernel_rfl) (fun _ _ _ h => h) (reg.unwanted_of 3 true 96 rfl (by kernel_rfl) (by simp [Act.put, hsz])) (hM.ls (by simp)) ?_
        refine reg.e_pass (i := 10) rfl (by kernel_rfl) (by kernel_rfl) (by kernel_rfl) (by kernel_rfl) (fun _ _ _ h => h) (reg.unwanted_of 3 true 96 rfl (by kernel_rfl) (by simp [Act.put, hsz])) (hM.ls (by simp)) ?_
        refine reg.e_pass (i := 11) rfl (by kernel_rfl) (by kernel_rfl) (by kernel_rfl) (by kernel_rfl) (fun _ _ _ h => h) (reg.unwanted_of 3 true 96 rfl (by kernel_rfl) (by simp [Act.put, hsz])) (hM.ls (by simp)) ?_
        refine reg.e_pass (i := 12) rfl (by kernel_rfl) (by kernel_rfl) (by kernel_rfl) (by kernel_rfl) (fun _ _ _ h => h) (reg.unwanted_of 3 true 96 rfl (by kernel_rfl) (by simp [Act.put, hsz])) (hM.ls (by simp)) ?_
        refine reg.e_take (i := 13) (.bool false) rfl (by kernel_rfl) (by kernel_rfl) (by kernel_rfl) (by kernel_rfl) (fun _ _ _ h => h) (reg.wanted_none rfl) (hM.ls (by simp)) (fun W hW => by simp [execOp, go_sem, Act.put, hsz, s1, s4, s9, s17]) ?_
        refine reg.e_done (by kernel_rfl) ?_ _
        subst ha0
        clear hsz s1 s4 s9 s17
        go_simp
        repeat' (first | go_values | go_skip | go_guarded | go_step | go_upon | (simp only [Int.not_lt, Int.not_le] at *; go_simp))
        subst hm2
        go_roundw
        case rel => exact ⟨k + 1, by omega, by go_num, _, by omega, by go_num, HM2.out.symm, hM⟩
        case measure => simp [intOf]; omega
      · have hm2 : m2 = m + 1 := HCn.out
        subst hkn
        repeat' (first | go_values | go_skip | go_guarded | go_step | go_upon | (simp only [Int.not_lt, Int.not_le] at *; go_simp))
        go_simp
        refine reg.wp_abs (fun a0 => a0.tmps.size = 125 ∧ (∀ h, a0.tmps[4]'h = .pointer (some ⟨zh, 0, none⟩)) ∧ (∀ h, a0.tmps[11]'h = .pointer (some ⟨z2, 0, none⟩)) ∧ (∀ h, a0.tmps[17]'h = .int .i64 (k : Int))) ⟨rfl, fun _ => rfl, fun _ => rfl, fun _ => rfl⟩ ?_
        rintro a0 ⟨hsz, s4, s11, s17⟩ ha0
        refine reg.wp_region_E (S := fun W => Ls W [(z2, 26, G2), (zh, 26, F)]) (E := fun _ => false) (by kernel_rfl) ?_
        replace hM := hM.drew
        refine reg.e_take (i := 0) (.int .i64 (k : Int)) rfl (by kernel_rfl) (by kernel_rfl) (by kernel_rfl) (by kernel_rfl) (fun _ _ _ h => h) (reg.wanted_none rfl) (hM.ls (by simp)) (fun W hW => by simp [execOp, go_sem, Act.put, hsz, s4, s11, s17]) ?_
        refine reg.e_take (i := 1) (.pointer (some ⟨z2, 1, none⟩)) rfl (by kernel_rfl) (by kernel_rfl) (by kernel_rfl) (by kernel_rfl) (fun _ _ _ h => h) (reg.wanted_none rfl) (hM.ls (by simp)) (fun W hW => by simp [execOp, go_sem, Act.put, hsz, s4, s11, s17]) ?_
        refine reg.e_take (i := 2) (.pointer (some ⟨z2, 1 + k * 2, none⟩)) rfl (by kernel_rfl) (by kernel_rfl) (by kernel_rfl) (by kernel_rfl) (fun _ _ _ h => h) (reg.wanted_none rfl) (hM.ls (by simp)) (fun W hW => by simp [execOp, go_sem, Act.put, hsz, s4, s11, s17, hki]) ?_
        refine reg.e_take (i := 3) (ag [y2, x2]) rfl (by kernel_rfl) (by kernel_rfl) (by kernel_rfl) (by kernel_rfl) (fun _ _ _ h => h) (reg.wanted_none rfl) (hM.ls (by simp)) (fun W hW => ex_load rfl row_port (by simp [go_sem, Act.put, hsz, s4, s11, s17]) hW.at0 HIb.out HKb.out) ?_
        refine reg.e_take (i := 4) (.int .i64 (k : Int)) rfl (by kernel_rfl) (by kernel_rfl) (by kernel_rfl) (by kernel_rfl) (fun _ _ _ h => h) (reg.wanted_none rfl) (hM.ls (by simp)) (fun W hW => by simp [execOp, go_sem, Act.put, hsz, s4, s11, s17]) ?_
        refine reg.e_take (i := 5) (.pointer (some ⟨zh, 1, none⟩)) rfl (by kernel_rfl) (by kernel_rfl) (by kernel_rfl) (by kernel_rfl) (fun _ _ _ h => h) (reg.wanted_none rfl) (hM.ls (by simp)) (fun W hW => by simp [execOp, go_sem, Act.put, hsz, s4, s11, s17]) ?_
        refine reg.e_take (i := 6) (.pointer (some ⟨zh, 1 + k * 2, none⟩)) rfl (by kernel_rfl) (by kernel_rfl) (by kernel_rfl) (by kernel_rfl) (fun _ _ _ h => h) (reg.wanted_none rfl) (hM.ls (by simp)) (fun W hW => by simp [execOp, go_sem, Act.put, hsz, s4, s11, s17, hki]) ?_
        refine reg.e_take (i := 7) (ag [y, x]) rfl (by kernel_rfl) (by kernel_rfl) (by kernel_rfl) (by kernel_rfl) (fun _ _ _ h => h) (reg.wanted_none rfl) (hM.ls (by simp)) (fun W hW => ex_load rfl row_port (by simp [go_sem, Act.put, hsz, s4, s11, s17]) hW.at1 HIh.out HKh.out) ?_
        refine reg.e_take (i := 8) (.bool true) rfl (by kernel_rfl) (by kernel_rfl) (by kernel_rfl) (by kernel_rfl) (fun _ _ _ h => h) (reg.wanted_none rfl) (hM.ls (by simp)) (fun W hW => ex_neq rfl cmp_port (by simp [go_sem, Act.put, hsz, s4, s11, s17]) (by simp [go_sem, Act.put, hsz, s4, s11, s17]) rfl rfl HZ.out) ?_
        refine reg.e_done (by kernel_rfl) ?_ _
        subst ha0
        clear hsz s4 s11 s17
        go_simp
        repeat' (first | go_values | go_skip | go_guarded | go_step | go_upon | (simp only [Int.not_lt, Int.not_le] at *; go_simp))
        go_simp
        refine reg.wp_abs (fun a0 => a0.tmps.size = 125 ∧ (∀ h, a0.tmps[1]'h = .int .i64 (k : Int)) ∧ (∀ h, a0.tmps[4]'h = .pointer (some ⟨zh, 0, none⟩)) ∧ (∀ h, a0.tmps[9]'h = .pointer (some ⟨z1, 0, none⟩)) ∧ (∀ h, a0.tmps[17]'h = .int .i64 (k : Int))) ⟨rfl, fun _ => rfl, fun _ => rfl, fun _ => rfl, fun _ => rfl⟩ ?_
        rintro a0 ⟨hsz, s1, s4, s9, s17⟩ ha0
        refine reg.wp_region_E (S := fun W => Ls W [(z1, 26, G1), (zh, 26, F)]) (E := fun _ => false) (by kernel_rfl) ?_
        replace hM := hM.drew
        refine reg.e_take (i := 0) (.int .i64 (k : Int)) rfl (by kernel_rfl) (by kernel_rfl) (by kernel_rfl) (by kernel_rfl) (fun _ _ _ h => h) (reg.wanted_none rfl) (hM.ls (by simp)) (fun W hW => by simp [execOp, go_sem, Act.put, hsz, s1, s4, s9, s17]) ?_
        refine reg.e_take (i := 1) (.int .i64 (k : Int)) rfl (by kernel_rfl) (by kernel_rfl) (by kernel_rfl) (by kernel_rfl) (fun _ _ _ h => h) (reg.wanted_none rfl) (hM.ls (by simp)) (fun W hW => by simp [execOp, go_sem, Act.put, hsz, s1, s4, s9, s17]) ?_
        refine reg.e_take (i := 2) (.bool false) rfl (by kernel_rfl) (by kernel_rfl) (by kernel_rfl) (by kernel_rfl) (fun _ _ _ h => h) (reg.wanted_none rfl) (hM.ls (by simp)) (fun W hW => by simp [execOp, go_sem, Act.put, hsz, s1, s4, s9, s17]) ?_
        refine reg.e_take (i := 3) (.bool false) rfl (by kernel_rfl) (by kernel_rfl) (by kernel_rfl) (by kernel_rfl) (fun _ _ _ h => h) (reg.wanted_none rfl) (hM.ls (by simp)) (fun W hW => by simp [execOp, go_sem, Act.put, hsz, s1, s4, s9, s17]) ?_
        refine reg.e_pass (i := 4) rfl (by kernel_rfl) (by kernel_rfl) (by kernel_rfl) (by kernel_rfl) (fun _ _ _ h => h) (reg.unwanted_of 3 true 96 rfl (by kernel_rfl) (by simp [Act.put, hsz])) (hM.ls (by simp)) ?_
        refine reg.e_pass (i := 5) rfl (by kernel_rfl) (by kernel_rfl) (by kernel_rfl) (by kernel_rfl) (fun _ _ _ h => h) (reg.unwanted_of 3 true 96 rfl (by kernel_rfl) (by simp [Act.put, hsz])) (hM.ls (by simp)) ?_
        refine reg.e_pass (i := 6) rfl (by kernel_rfl) (by kernel_rfl) (by kernel_rfl) (by kernel_rfl) (fun _ _ _ h => h) (reg.unwanted_of 3 true 96 rfl (by kernel_rfl) (by simp [Act.put, hsz])) (hM.ls (by simp)) ?_
        refine reg.e_pass (i := 7) rfl (by kernel_rfl) (by kernel_rfl) (by kernel_rfl) (by kernel_rfl) (fun _ _ _ h => h) (reg.unwanted_of 3 true 96 rfl (by kernel_rfl) (by simp [Act.put, hsz])) (hM.ls (by simp)) ?_
        refine reg.e_pass (i := 8) rfl (by kernel_rfl) (by kernel_rfl) (by kernel_rfl) (by kernel_rfl) (fun _ _ _ h => h) (reg.unwanted_of 3 true 96 rfl (by kernel_rfl) (by simp [Act.put, hsz])) (hM.ls (by simp)) ?_
        refine reg.e_pass (i := 9) rfl (by kernel_rfl) (by kernel_rfl) (by kernel_rfl) (by kernel_rfl) (fun _ _ _ h => h) (reg.unwanted_of 3 true 96 rfl (by kernel_rfl) (by simp [Act.put, hsz])) (hM.ls (by simp)) ?_
        refine reg.e_pass (i := 10) rfl (by kernel_rfl) (by kernel_rfl) (by kernel_rfl) (by kernel_rfl) (fun _ _ _ h => h) (reg.unwanted_of 3 true 96 rfl (by kernel_rfl) (by simp [Act.put, hsz])) (hM.ls (by simp)) ?_
        refine reg.e_pass (i := 11) rfl (by kernel_rfl) (by kernel_rfl) (by kernel_rfl) (by kernel_rfl) (fun _ _ _ h => h) (reg.unwanted_of 3 true 96 rfl (by kernel_rfl) (by simp [Act.put, hsz])) (hM.ls (by simp)) ?_
        refine reg.e_pass (i := 12) rfl (by kernel_rfl) (by kernel_rfl) (by kernel_rfl) (by kernel_rfl) (fun _ _ _ h => h) (reg.unwanted_of 3 true 96 rfl (by kernel_rfl) (by simp [Act.put, hsz])) (hM.ls (by simp)) ?_
        refine reg.e_take (i := 13) (.bool false) rfl (by kernel_rfl) (by kernel_rfl) (by kernel_rfl) (by kernel_rfl) (fun _ _ _ h => h) (reg.wanted_none rfl) (hM.ls (by simp)) (fun W hW => by simp [execOp, go_sem, Act.put, hsz, s1, s4, s9, s17]) ?_
        refine reg.e_done (by kernel_rfl) ?_ _
        subst ha0
        clear hsz s1 s4 s9 s17
        go_simp
        repeat' (first | go_values | go_skip | go_guarded | go_step | go_upon | (simp only [Int.not_lt, Int.not_le] at *; go_simp))
        subst hm2
        go_roundw
        case rel => exact ⟨k + 1, by omega, by go_num, _, by omega, by go_num, HM2.out.symm, hM⟩
        case measure => simp [intOf]; omega
    · cases zz
      · have hm2 : m2 = m := HCn.out
        have hkn3 : ((k : Int) != n) = true := by simp [hkn]
        have HEq : Hid ((!decide ([y1, x1] = [y, x])) = false) := by show _ = _; rw [HOk.out hkn, decide_eq_true rfl]; rfl
        repeat' (first | go_values | go_skip | go_guarded | go_step | go_upon | (simp only [Int.not_lt, Int.not_le] at *; go_simp))
        go_simp
        refine reg.wp_abs (fun a0 => a0.tmps.size = 125 ∧ (∀ h, a0.tmps[4]'h = .pointer (some ⟨zh, 0, none⟩)) ∧ (∀ h, a0.tmps[11]'h = .pointer (some ⟨z2, 0, none⟩)) ∧ (∀ h, a0.tmps[17]'h = .int .i64 (k : Int))) ⟨rfl, fun _ => rfl, fun _ => rfl, fun _ => rfl⟩ ?_
        rintro a0 ⟨hsz, s4, s11, s17⟩ ha0
        refine reg.wp_region_E (S := fun W => Ls W [(z2, 26, G2), (zh, 26, F)]) (E := fun _ => false) (by kernel_rfl) ?_
        replace hM := hM.drew
        refine reg.e_take (i := 0) (.int .i64 (k : Int)) rfl (by kernel_rfl) (by kernel_rfl) (by kernel_rfl) (by kernel_rfl) (fun _ _ _ h => h) (reg.wanted_none rfl) (hM.ls (by simp)) (fun W hW => by simp [execOp, go_sem, Act.put, hsz, s4, s11, s17]) ?_
        refine reg.e_take (i := 1) (.pointer (some ⟨z2, 1, none⟩)) rfl (by kernel_rfl) (by kernel_rfl) (by kernel_rfl) (by kernel_rfl) (fun _ _ _ h => h) (reg.wanted_none rfl) (hM.ls (by simp)) (fun W hW => by simp [execOp, go_sem, Act.put, hsz, s4, s11, s17]) ?_
        refine reg.e_take (i := 2) (.pointer (some ⟨z2, 1 + k * 2, none⟩)) rfl (by kernel_rfl) (by kernel_rfl) (by kernel_rfl) (by kernel_rfl) (fun _ _ _ h => h) (reg.wanted_none rfl) (hM.ls (by simp)) (fun W hW => by simp [execOp, go_sem, Act.put, hsz, s4, s11, s17, hki]) ?_
        refine reg.e_take (i := 3) (ag [y2, x2]) rfl (by kernel_rfl) (by kernel_rfl) (by kernel_rfl) (by kernel_rfl) (fun _ _ _ h => h) (reg.wanted_none rfl) (hM.ls (by simp)) (fun W hW => ex_load rfl row_port (by simp [go_sem, Act.put, hsz, s4, s11, s17]) hW.at0 HIb.out HKb.out) ?_
        refine reg.e_take (i := 4) (.int .i64 (k : Int)) rfl (by kernel_rfl) (by kernel_rfl) (by kernel_rfl) (by kernel_rfl) (fun _ _ _ h => h) (reg.wanted_none rfl) (hM.ls (by simp)) (fun W hW => by simp [execOp, go_sem, Act.put, hsz, s4, s11, s17]) ?_
        refine reg.e_take (i := 5) (.pointer (some ⟨zh, 1, none⟩)) rfl (by kernel_rfl) (by kernel_rfl) (by kernel_rfl) (by kernel_rfl) (fun _ _ _ h => h) (reg.wanted_none rfl) (hM.ls (by simp)) (fun W hW => by simp [execOp, go_sem, Act.put, hsz, s4, s11, s17]) ?_
        refine reg.e_take (i := 6) (.pointer (some ⟨zh, 1 + k * 2, none⟩)) rfl (by kernel_rfl) (by kernel_rfl) (by kernel_rfl) (by kernel_rfl) (fun _ _ _ h => h) (reg.wanted_none rfl) (hM.ls (by simp)) (fun W hW => by simp [execOp, go_sem, Act.put, hsz, s4, s11, s17, hki]) ?_
        refine reg.e_take (i := 7) (ag [y, x]) rfl (by kernel_rfl) (by kernel_rfl) (by kernel_rfl) (by kernel_rfl) (fun _ _ _ h => h) (reg.wanted_none rfl) (hM.ls (by simp)) (fun W hW => ex_load rfl row_port (by simp [go_sem, Act.put, hsz, s4, s11, s17]) hW.at1 HIh.out HKh.out) ?_
        refine reg.e_take (i := 8) (.bool false) rfl (by kernel_rfl) (by kernel_rfl) (by kernel_rfl) (by kernel_rfl) (fun _ _ _ h => h) (reg.wanted_none rfl) (hM.ls (by simp)) (fun W hW => ex_neq rfl cmp_port (by simp [go_sem, Act.put, hsz, s4, s11, s17]) (by simp [go_sem, Act.put, hsz, s4, s11, s17]) rfl rfl HZ.out) ?_
        refine reg.e_done (by kernel_rfl) ?_ _
        subst ha0
        clear hsz s4 s11 s17
        go_simp
        repeat' (first | go_values | go_skip | go_guarded | go_step | go_upon | (simp only [Int.not_lt, Int.not_le] at *; go_simp))
        go_simp
        refine reg.wp_abs (fun a0 => a0.tmps.size = 125 ∧ (∀ h, a0.tmps[1]'h = .int .i64 n) ∧ (∀ h, a0.tmps[4]'h = .pointer (some ⟨zh, 0, none⟩)) ∧ (∀ h, a0.tmps[9]'h = .pointer (some ⟨z1, 0, none⟩)) ∧ (∀ h, a0.tmps[17]'h = .int .i64 (k : Int))) ⟨rfl, fun _ => rfl, fun _ => rfl, fun _ => rfl, fun _ => rfl⟩ ?_
        rintro a0 ⟨hsz, s1, s4, s9, s17⟩ ha0
        refine reg.wp_region_E (S := fun W => Ls W [(z1, 26, G1), (zh, 26, F)]) (E := fun _ => false) (by kernel_rfl) ?_
        replace hM := hM.drew
        refine reg.e_take (i := 0) (.int .i64 (k : Int)) rfl (by kernel_rfl) (by kernel_rfl) (by kernel_rfl) (by kernel_rfl) (fun _ _ _ h => h) (reg.wanted_none rfl) (hM.ls (by simp)) (fun W hW => by simp [execOp, go_sem, Act.put, hsz, s1, s4, s9, s17]) ?_
        refine reg.e_take (i := 1) (.int .i64 n) rfl (by kernel_rfl) (by kernel_rfl) (by kernel_rfl) (by kernel_rfl) (fun _ _ _ h => h) (reg.wanted_none rfl) (hM.ls (by simp)) (fun W hW => by simp [execOp, go_sem, Act.put, hsz, s1, s4, s9, s17]) ?_
        refine reg.e_take (i := 2) (.bool true) rfl (by kernel_rfl) (by kernel_rfl) (by kernel_rfl) (by kernel_rfl) (fun _ _ _ h => h) (reg.wanted_none rfl) (hM.ls (by simp)) (fun W hW => by simp [execOp, go_sem, Act.put, hsz, s1, s4, s9, s17, hkn3]) ?_
        refine reg.e_take (i := 3) (.bool true) rfl (by kernel_rfl) (by kernel_rfl) (by kernel_rfl) (by kernel_rfl) (fun _ _ _ h => h) (reg.wanted_none rfl) (hM.ls (by simp)) (fun W hW => by simp [execOp, go_sem, Act.put, hsz, s1, s4, s9, s17]) ?_
        refine reg.e_take (i := 4) (.int .i64 (k : Int)) rfl (by kernel_rfl) (by kernel_rfl) (by kernel_rfl) (by kernel_rfl) (fun _ _ _ h => h) (reg.wanted_of 3 true 96 rfl (by kernel_rfl) (by simp [Act.put, hsz])) (hM.ls (by simp)) (fun W hW => by simp [execOp, go_sem, Act.put, hsz, s1, s4, s9, s17]) ?_
        refine reg.e_take (i := 5) (.pointer (some ⟨z1, 1, none⟩)) rfl (by kernel_rfl) (by kernel_rfl) (by kernel_rfl) (by kernel_rfl) (fun _ _ _ h => h) (reg.wanted_of 3 true 96 rfl (by kernel_rfl) (by simp [Act.put, hsz])) (hM.ls (by simp)) (fun W hW => by simp [execOp, go_sem, Act.put, hsz, s1, s4, s9, s17]) ?_
        refine reg.e_take (i := 6) (.pointer (some ⟨z1, 1 + k * 2, none⟩)) rfl (by kernel_rfl) (by kernel_rfl) (by kernel_rfl) (by kernel_rfl) (fun _ _ _ h => h) (reg.wanted_of 3 true 96 rfl (by kernel_rfl) (by simp [Act.put, hsz])) (hM.ls (by simp)) (fun W hW => by simp [execOp, go_sem, Act.put, hsz, s1, s4, s9, s17, hki]) ?_
        refine reg.e_take (i := 7) (ag [y1, x1]) rfl (by kernel_rfl) (by kernel_rfl) (by kernel_rfl) (by kernel_rfl) (fun _ _ _ h => h) (reg.wanted_of 3 true 96 rfl (by kernel_rfl) (by simp [Act.put, hsz])) (hM.ls (by simp)) (fun W hW => ex_load rfl row_port (by simp [go_sem, Act.put, hsz, s1, s4, s9, s17]) hW.at0 HIa.out HKa.out) ?_
        refine reg.e_take (i := 8) (.int .i64 (k : Int)) rfl (by kernel_rfl) (by kernel_rfl) (by kernel_rfl) (by kernel_rfl) (fun _ _ _ h => h) (reg.wanted_of 3 true 96 rfl (by kernel_rfl) (by simp [Act.put, hsz])) (hM.ls (by simp)) (fun W hW => by simp [execOp, go_sem, Act.put, hsz, s1, s4, s9, s17]) ?_
        refine reg.e_take (i := 9) (.pointer (some ⟨zh, 1, none⟩)) rfl (by kernel_rfl) (by kernel_rfl) (by kernel_rfl) (by kernel_rfl) (fun _ _ _ h => h) (reg.wanted_of 3 true 96 rfl (by kernel_rfl) (by simp [Act.put, hsz])) (hM.ls (by simp)) (fun W hW => by simp [execOp, go_sem, Act.put, hsz, s1, s4, s9, s17]) ?_
        refine reg.e_take (i := 10) (.pointer (some ⟨zh, 1 + k * 2, none⟩)) rfl (by kernel_rfl) (by kernel_rfl) (by kernel_rfl) (by kernel_rfl) (fun _ _ _ h => h) (reg.wanted_of 3 true 96 rfl (by kernel_rfl) (by simp [Act.put, hsz])) (hM.ls (by simp)) (fun W hW => by simp [execOp, go_sem, Act.put, hsz, s1, s4, s9, s17, hki]) ?_
        refine reg.e_take (i := 11) (ag [y, x]) rfl (by kernel_rfl) (by kernel_rfl) (by kernel_rfl) (by kernel_rfl) (fun _ _ _ h => h) (reg.wanted_of 3 true 96 rfl (by kernel_rfl) (by simp [Act.put, hsz])) (hM.ls (by simp)) (fun W hW => ex_load rfl row_port (by simp [go_sem, Act.put, hsz, s1, s4, s9, s17]) hW.at1 HIh.out HKh.out) ?_
        refine reg.e_take (i := 12) (.bool false) rfl (by kernel_rfl) (by kernel_rfl) (by kernel_rfl) (by kernel_rfl) (fun _ _ _ h => h) (reg.wanted_of 3 true 96 rfl (by kernel_rfl) (by simp [Act.put, hsz])) (hM.ls (by simp)) (fun W hW => ex_neq rfl cmp_port (by simp [go_sem, Act.put, hsz, s1, s4, s9, s17]) (by simp [go_sem, Act.put, hsz, s1, s4, s9, s17]) rfl rfl HEq.out) ?_
        refine reg.e_take (i := 13) (.bool false) rfl (by kernel_rfl) (by kernel_rfl) (by kernel_rfl) (by kernel_rfl) (fun _ _ _ h => h) (reg.wanted_none rfl) (hM.ls (by simp)) (fun W hW => by simp [execOp, go_sem, Act.put, hsz, s1, s4, s9, s17]) ?_
        refine reg.e_done (by kernel_rfl) ?_ _
        subst ha0
        clear hsz s1 s4 s9 s17
        go_simp
        repeat' (first | go_values | go_skip | go_guarded | go_step | go_upon | (simp only [Int.not_lt, Int.not_le] at *; go_simp))
        subst hm2
        go_roundw
        case rel => exact ⟨k + 1, by omega, by go_num, _, by omega, by go_num, HM2.out.symm, hM⟩
        case measure => simp [intOf]; omega
      · have hm2 : m2 = m + 1 := HCn.out
        have hkn3 : ((k : Int) != n) = true := by simp [hkn]
        have HEq : Hid ((!decide ([y1, x1] = [y, x])) = false) := by show _ = _; rw [HOk.out hkn, decide_eq_true rfl]; rfl
        repeat' (first | go_values | go_skip | go_guarded | go_step | go_upon | (simp only [Int.not_lt, Int.not_le] at *; go_simp))
        go_simp
        refine reg.wp_abs (fun a0 => a0.tmps.size = 125 ∧ (∀ h, a0.tmps[4]'h = .pointer (some ⟨zh, 0, none⟩)) ∧ (∀ h, a0.tmps[11]'h = .pointer (some ⟨z2, 0, none⟩)) ∧ (∀ h, a0.tmps[17]'h = .int .i64 (k : Int))) ⟨rfl, fun _ => rfl, fun _ => rfl, fun _ => rfl⟩ ?_
        rintro a0 ⟨hsz, s4, s11, s17⟩ ha0
        refine reg.wp_region_E (S := fun W => Ls W [(z2, 26, G2), (zh, 26, F)]) (E := fun _ => false) (by kernel_rfl) ?_
        replace hM := hM.drew
        refine reg.e_take (i := 0) (.int .i64 (k : Int)) rfl (by kernel_rfl) (by kernel_rfl) (by kernel_rfl) (by kernel_rfl) (fun _ _ _ h => h) (reg.wanted_none rfl) (hM.ls (by simp)) (fun W hW => by simp [execOp, go_sem, Act.put, hsz, s4, s11, s17]) ?_
        refine reg.e_take (i := 1) (.pointer (some ⟨z2, 1, none⟩)) rfl (by kernel_rfl) (by kernel_rfl) (by kernel_rfl) (by kernel_rfl) (fun _ _ _ h => h) (reg.wanted_none rfl) (hM.ls (by simp)) (fun W hW => by simp [execOp, go_sem, Act.put, hsz, s4, s11, s17]) ?_
        refine reg.e_take (i := 2) (.pointer (some ⟨z2, 1 + k * 2, none⟩)) rfl (by kernel_rfl) (by kernel_rfl) (by kernel_rfl) (by kernel_rfl) (fun _ _ _ h => h) (reg.wanted_none rfl) (hM.ls (by simp)) (fun W hW => by simp [execOp, go_sem, Act.put, hsz, s4, s11, s17, hki]) ?_
        refine reg.e_take (i := 3) (ag [y2, x2]) rfl (by kernel_rfl) (by kernel_rfl) (by kernel_rfl) (by kernel_rfl) (fun _ _ _ h => h) (reg.wanted_none rfl) (hM.ls (by simp)) (fun W hW => ex_load rfl row_port (by simp [go_sem, Act.put, hsz, s4, s11, s17]) hW.at0 HIb.out HKb.out) ?_
        refine reg.e_take (i := 4) (.int .i64 (k : Int)) rfl (by kernel_rfl) (by kernel_rfl) (by kernel_rfl) (by kernel_rfl) (fun _ _ _ h => h) (reg.wanted_none rfl) (hM.ls (by simp)) (fun W hW => by simp [execOp, go_sem, Act.put, hsz, s4, s11, s17]) ?_
        refine reg.e_take (i := 5) (.pointer (some ⟨zh, 1, none⟩)) rfl (by kernel_rfl) (by kernel_rfl) (by kernel_rfl) (by kernel_rfl) (fun _ _ _ h => h) (reg.wanted_none rfl) (hM.ls (by simp)) (fun W hW => by simp [execOp, go_sem, Act.put, hsz, s4, s11, s17]) ?_
        refine reg.e_take (i := 6) (.pointer (some ⟨zh, 1 + k * 2, none⟩)) rfl (by kernel_rfl) (by kernel_rfl) (by kernel_rfl) (by kernel_rfl) (fun _ _ _ h => h) (reg.wanted_none rfl) (hM.ls (by simp)) (fun W hW => by simp [execOp, go_sem, Act.put, hsz, s4, s11, s17, hki]) ?_
        refine reg.e_take (i := 7) (ag [y, x]) rfl (by kernel_rfl) (by kernel_rfl) (by kernel_rfl) (by kernel_rfl) (fun _ _ _ h => h) (reg.wanted_none rfl) (hM.ls (by simp)) (fun W hW => ex_load rfl row_port (by simp [go_sem, Act.put, hsz, s4, s11, s17]) hW.at1 HIh.out HKh.out) ?_
        refine reg.e_take (i := 8) (.bool true) rfl (by kernel_rfl) (by kernel_rfl) (by kernel_rfl) (by kernel_rfl) (fun _ _ _ h => h) (reg.wanted_none rfl) (hM.ls (by simp)) (fun W hW => ex_neq rfl cmp_port (by simp [go_sem, Act.put, hsz, s4, s11, s17]) (by simp [go_sem, Act.put, hsz, s4, s11, s17]) rfl rfl HZ.out) ?_
        refine reg.e_done (by kernel_rfl) ?_ _
        subst ha0
        clear hsz s4 s11 s17
        go_simp
        repeat' (first | go_values | go_skip | go_guarded | go_step | go_upon | (simp only [Int.not_lt, Int.not_le] at *; go_simp))
        go_simp
        refine reg.wp_abs (fun a0 => a0.tmps.size = 125 ∧ (∀ h, a0.tmps[1]'h = .int .i64 n) ∧ (∀ h, a0.tmps[4]'h = .pointer (some ⟨zh, 0, none⟩)) ∧ (∀ h, a0.tmps[9]'h = .pointer (some ⟨z1, 0, none⟩)) ∧ (∀ h, a0.tmps[17]'h = .int .i64 (k : Int))) ⟨rfl, fun _ => rfl, fun _ => rfl, fun _ => rfl, fun _ => rfl⟩ ?_
        rintro a0 ⟨hsz, s1, s4, s9, s17⟩ ha0
        refine reg.wp_region_E (S := fun W => Ls W [(z1, 26, G1), (zh, 26, F)]) (E := fun _ => false) (by kernel_rfl) ?_
        replace hM := hM.drew
        refine reg.e_take (i := 0) (.int .i64 (k : Int)) rfl (by kernel_rfl) (by kernel_rfl) (by kernel_rfl) (by kernel_rfl) (fun _ _ _ h => h) (reg.wanted_none rfl) (hM.ls (by simp)) (fun W hW => by simp [execOp, go_sem, Act.put, hsz, s1, s4, s9, s17]) ?_
        refine reg.e_take (i := 1) (.int .i64 n) rfl (by kernel_rfl) (by kernel_rfl) (by kernel_rfl) (by kernel_rfl) (fun _ _ _ h => h) (reg.wanted_none rfl) (hM.ls (by simp)) (fun W hW => by simp [execOp, go_sem, Act.put, hsz, s1, s4, s9, s17]) ?_
        refine reg.e_take (i := 2) (.bool true) rfl (by kernel_rfl) (by kernel_rfl) (by kernel_rfl) (by kernel_rfl) (fun _ _ _ h => h) (reg.wanted_none rfl) (hM.ls (by simp)) (fun W hW => by simp [execOp, go_sem, Act.put, hsz, s1, s4, s9, s17, hkn3]) ?_
        refine reg.e_take (i := 3) (.bool true) rfl (by kernel_rfl) (by kernel_rfl) (by kernel_rfl) (by kernel_rfl) (fun _ _ _ h => h) (reg.wanted_none rfl) (hM.ls (by simp)) (fun W hW => by simp [execOp, go_sem, Act.put, hsz, s1, s4, s9, s17]) ?_
        refine reg.e_take (i := 4) (.int .i64 (k : Int)) rfl (by kernel_rfl) (by kernel_rfl) (by kernel_rfl) (by kernel_rfl) (fun _ _ _ h => h) (reg.wanted_of 3 true 96 rfl (by kernel_rfl) (by simp [Act.put, hsz])) (hM.ls (by simp)) (fun W hW => by simp [execOp, go_sem, Act.put, hsz, s1, s4, s9, s17]) ?_
        refine reg.e_take (i := 5) (.pointer (some ⟨z1, 1, none⟩)) rfl (by kernel_rfl) (by kernel_rfl) (by kernel_rfl) (by kernel_rfl) (fun _ _ _ h => h) (reg.wanted_of 3 true 96 rfl (by kernel_rfl) (by simp [Act.put, hsz])) (hM.ls (by simp)) (fun W hW => by simp [execOp, go_sem, Act.put, hsz, s1, s4, s9, s17]) ?_
        refine reg.e_take (i := 6) (.pointer (some ⟨z1, 1 + k * 2, none⟩)) rfl (by kernel_rfl) (by kernel_rfl) (by kernel_rfl) (by kernel_rfl) (fun _ _ _ h => h) (reg.wanted_of 3 true 96 rfl (by kernel_rfl) (by simp [Act.put, hsz])) (hM.ls (by simp)) (fun W hW => by simp [execOp, go_sem, Act.put, hsz, s1, s4, s9, s17, hki]) ?_
        refine reg.e_take (i := 7) (ag [y1, x1]) rfl (by kernel_rfl) (by kernel_rfl) (by kernel_rfl) (by kernel_rfl) (fun _ _ _ h => h) (reg.wanted_of 3 true 96 rfl (by kernel_rfl) (by simp [Act.put, hsz])) (hM.ls (by simp)) (fun W hW => ex_load rfl row_port (by simp [go_sem, Act.put, hsz, s1, s4, s9, s17]) hW.at0 HIa.out HKa.out) ?_
        refine reg.e_take (i := 8) (.int .i64 (k : Int)) rfl (by kernel_rfl) (by kernel_rfl) (by kernel_rfl) (by kernel_rfl) (fun _ _ _ h => h) (reg.wanted_of 3 true 96 rfl (by kernel_rfl) (by simp [Act.put, hsz])) (hM.ls (by simp)) (fun W hW => by simp [execOp, go_sem, Act.put, hsz, s1, s4, s9, s17]) ?_
        refine reg.e_take (i := 9) (.pointer (some ⟨zh, 1, none⟩)) rfl (by kernel_rfl) (by kernel_rfl) (by kernel_rfl) (by kernel_rfl) (fun _ _ _ h => h) (reg.wanted_of 3 true 96 rfl (by kernel_rfl) (by simp [Act.put, hsz])) (hM.ls (by simp)) (fun W hW => by simp [execOp, go_sem, Act.put, hsz, s1, s4, s9, s17]) ?_
        refine reg.e_take (i := 10) (.pointer (some ⟨zh, 1 + k * 2, none⟩)) rfl (by kernel_rfl) (by kernel_rfl) (by kernel_rfl) (by kernel_rfl) (fun _ _ _ h => h) (reg.wanted_of 3 true 96 rfl (by kernel_rfl) (by simp [Act.put, hsz])) (hM.ls (by simp)) (fun W hW => by simp [execOp, go_sem, Act.put, hsz, s1, s4, s9, s17, hki]) ?_
        refine reg.e_take (i := 11) (ag [y, x]) rfl (by kernel_rfl) (by kernel_rfl) (by kernel_rfl) (by kernel_rfl) (fun _ _ _ h => h) (reg.wanted_of 3 true 96 rfl (by kernel_rfl) (by simp [Act.put, hsz])) (hM.ls (by simp)) (fun W hW => ex_load rfl row_port (by simp [go_sem, Act.put, hsz, s1, s4, s9, s17]) hW.at1 HIh.out HKh.out) ?_
        refine reg.e_take (i := 12) (.bool false) rfl (by kernel_rfl) (by kernel_rfl) (by kernel_rfl) (by kernel_rfl) (fun _ _ _ h => h) (reg.wanted_of 3 true 96 rfl (by kernel_rfl) (by simp [Act.put, hsz])) (hM.ls (by simp)) (fun W hW => ex_neq rfl cmp_port (by simp [go_sem, Act.put, hsz, s1, s4, s9, s17]) (by simp [go_sem, Act.put, hsz, s1, s4, s9, s17]) rfl rfl HEq.out) ?_
        refine reg.e_take (i := 13) (.bool false) rfl (by kernel_rfl) (by kernel_rfl) (by kernel_rfl) (by kernel_rfl) (fun _ _ _ h => h) (reg.wanted_none rfl) (hM.ls (by simp)) (fun W hW => by simp [execOp, go_sem, Act.put, hsz, s1, s4, s9, s17]) ?_
        refine reg.e_done (by kernel_rfl) ?_ _
        subst ha0
        clear hsz s1 s4 s9 s17
        go_simp
        repeat' (first | go_values | go_skip | go_guarded | go_step | go_upon | (simp only [Int.not_lt, Int.not_le] at *; go_simp))
        subst hm2
        go_roundw
        case rel => exact ⟨k + 1, by omega, by go_num, _, by omega, by go_num, HM2.out.symm, hM⟩
        case measure => simp [intOf]; omega
end Go.Proofs.Ytdnmjeiljpdmcaa.hubRight
