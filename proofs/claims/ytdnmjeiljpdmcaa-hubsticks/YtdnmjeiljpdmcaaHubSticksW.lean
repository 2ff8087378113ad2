/- HubSticks: a change that a port has told stays until it is cleared, one by one. -/
import Derived.Test.YtdnmjeiljpdmcaaHubL
import Derived.Test.YtdnmjeiljpdmcaaHubU
import Derived.Test.YtdnmjeiljpdmcaaHubO
namespace Go.Proofs.Ytdnmjeiljpdmcaa.hubSticks
open Go Go.RowKit Go.PlainAid Go.Proofs.Ytdnmjeiljpdmcaa.hub
open Go.Proofs.Ytdnmjeiljpdmcaa.slots (cl cl_at)
open Go.Proofs.Ytdnmjeiljpdmcaa.crc (pop)
set_option linter.unusedVariables false
set_option linter.unusedSimpArgs false
set_option maxRecDepth 100000

theorem hi16 {k : Nat} (h : k < 16) : (k : Int) < 16 := by omega
theorem run_ix (s : ByteArray) (k : Nat) (h : k < s.size) (W : World) : (Instr.index 9 (.string s) (.int .i64 (k : Int))).run Try.prog W = .ok (.int .u8 (bt s k)) W := by
  have e : bt s k = ((s[k]'h).toNat : Int) := by unfold bt; rw [dif_pos h]
  rw [e]
  simp [Instr.index, asIntOf, run_underlying Try.underlying9, h, Result.andThen]
set_option maxHeartbeats 16000000 in
theorem walk (F : List Int) (n : Int) (t : Bool) (q : ByteArray) (hn : (Lit.int .i64 n).wf = true) (hq : q.size ≤ maxLen) (w : World) (hb : Hb F) : Calls Try.prog 6 #[ag F, .int .i64 n, .bool t, .string q] w fun r w' => r = .returned (.bool true) ∧ Below w.heap.size w w' := by
  have HL : Hid (F.length = 33) := hb.len
  have HC : Hid (cut F 0 33 = F) := cut_all hb.len
  have HE : Hid (0 + 33 ≤ F.length) := by show 0 + 33 ≤ _; rw [hb.len]; omega
  have HP1 : Hid (∀ u, Calls Try.prog 9 #[ag F, .int .i64 n, .bool t] u fun e w' => e = .returned (.tuple #[ag (plugV F n t), .int .i64 (plugC F n)]) ∧ Below u.heap.size u w') := fun u => plug_any F n t u hb
  have HC1 : Hid (∀ u, Calls Try.prog 15 #[ag F, .string q] u fun e w' => e = .returned (.tuple #[ag (ctlV F (qs q)), .string (ctS F q), .int .i64 (ctlE F (qs q))]) ∧ Below u.heap.size u w') := fun u => control_any F q u hb hq
  have HT1 : Hid (∀ u, Calls Try.prog 11 #[ag F] u fun e w' => e = .returned (.tuple #[ag (tickV F), .int .i64 (chk F)]) ∧ Below u.heap.size u w') := fun u => tick_any F u hb
  have HLv : Hid (∀ u, Calls Try.prog 19 #[] u fun e w' => e = .returned (.bool true) ∧ Below u.heap.size u w') := lives_any
  have HCk : Hid (∀ u, Calls Try.prog 13 #[ag F] u fun e w' => e = .returned (.int .i64 (chk F)) ∧ Below u.heap.size u w') := fun u => check_any F u hb
  have hM := Mm.nil w
  clear hn
  by_cases h0 : ¬ chk F = 0
  · have b3 : (chk F != 0) = true := by simpa using h0
    clear hb hq h0 HP1 HC1 HT1
    generalize chk F = c3 at *
    go_enter Try.func6, Try.ntmps6
    repeat' (first | (go_big_may; first | (refine a_box rfl rfl rfl ?_; intro u zh hN; replace hM := hM.new hN; clear hN)) | go_values | go_skip | go_guarded | go_step | go_upon | (simp only [Int.not_lt, Int.not_le] at *; go_simp))
    refine (HLv.out _).mono ?_
    rintro r u ⟨rfl, hv⟩
    replace hM := hM.call hv
    clear hv
    repeat' (first | (go_big_may; first | (refine a_load rfl rfl row_hub rfl hM.at0 HE.out HC.out ?_)) | go_values | go_skip | go_guarded | go_step | go_upon | (simp only [Int.not_lt, Int.not_le] at *; go_simp))
    refine (HCk.out _).mono ?_
    rintro r u ⟨rfl, hv⟩
    replace hM := hM.call hv
    clear hv
    repeat' (first | go_values | go_skip | go_guarded | go_step | go_upon | (simp only [Int.not_lt, Int.not_le] at *; go_simp))
    refine (HLv.out _).mono ?_
    rintro r u ⟨rfl, hv⟩
    replace hM := hM.call hv
    clear hv
    repeat' (first | go_values | go_skip | go_guarded | go_step | go_upon | (simp only [Int.not_lt, Int.not_le] at *; go_simp))
    go_ret
    exact ⟨rfl, hM.below⟩
  have h0 : chk F = 0 := by omega
  have hok := chk_ok hb.len h0
  rw [h0] at HT1 HCk
  have o1 := plugV_ok (n := n) (t := t) hok
  have o2 := ctlV_ok (t := q) hok
  have o3 := tick_ok hok
  have HL1 : Hid ((plugV F n t).length = 33) := o1.len
  have HL2 : Hid ((ctlV F (qs q)).length = 33) := o2.len
  have HL3 : Hid ((tickV F).length = 33) := o3.len
  have HG1 : Hid (∀ k, k < 16 → (plugV F n t)[1 + k * 2 + 1]? = some (chg (plugV F n t) k)) := fun k hk => cl_at (by rw [o1.len]; omega)
  have HG2 : Hid (∀ k, k < 16 → (ctlV F (qs q))[1 + k * 2 + 1]? = some (chg (ctlV F (qs q)) k)) := fun k hk => cl_at (by rw [o2.len]; omega)
  have HG3 : Hid (∀ k, k < 16 → (tickV F)[1 + k * 2 + 1]? = some (chg (tickV F) k)) := fun k hk => cl_at (by rw [o3.len]; omega)
  have HGh : Hid (∀ k, k < 16 → F[1 + k * 2 + 1]? = some (chg F k)) := fun k hk => cl_at (by rw [hok.len]; omega)
  have HSt : Hid (∀ k, k < 16 → gone (chg F k) (chg (plugV F n t) k) = 0 ∧ gone (chg F k) (chg (tickV F) k) = 0 ∧ gone (chg (ctlV F (qs q)) k) (chg F k) = 0 ∧ (gone (chg F k) (chg (ctlV F (qs q)) k) = 0 ∨ gone (chg F k) (chg (ctlV F (qs q)) k) = 1 ∨ gone (chg F k) (chg (ctlV F (qs q)) k) = 2 ∨ gone (chg F k) (chg (ctlV F (qs q)) k) = 16)) := fun k hk => sticks hok n t q hk
  have HOne : Hid (cntF (fun k => decide (k < 16) && decide (gone (chg F k) (chg (ctlV F (qs q)) k) ≠ 0)) 16 ≤ 1) := lost_one hok q
  have HLost : Hid (0 < cntF (fun k => decide (k < 16) && decide (gone (chg F k) (chg (ctlV F (qs q)) k) ≠ 0)) 16 → ctlE F (qs q) = 0 ∧ 1 < q.size ∧ bt q 1 = 1) := fun hp => by
    obtain ⟨j, hj, hpj⟩ := cntF_pos 16 hp
    simp [hj] at hpj
    obtain ⟨a, b, c⟩ := lost_ask hok hj hpj
    exact ⟨a, by omega, c⟩
  clear hb hq h0 hok o1 o2 o3
  generalize ctS F q = T1 at *
  generalize plugV F n t = G1 at *
  generalize ctlV F (qs q) = G2 at *
  generalize tickV F = G3 at *
  generalize plugC F n = c1 at *
  generalize ctlE F (qs q) = c2 at *
  go_enter Try.func6, Try.ntmps6
  repeat' (first | (go_big_may; first | (refine a_box rfl rfl rfl ?_; intro u zh hN; replace hM := hM.new hN; clear hN)) | go_values | go_skip | go_guarded | go_step | go_upon | (simp only [Int.not_lt, Int.not_le] at *; go_simp))
  refine (HLv.out _).mono ?_
  rintro r u ⟨rfl, hv⟩
  replace hM := hM.call hv
  clear hv
  repeat' (first | (go_big_may; first | (refine a_load rfl rfl row_hub rfl hM.at0 HE.out HC.out ?_)) | go_values | go_skip | go_guarded | go_step | go_upon | (simp only [Int.not_lt, Int.not_le] at *; go_simp))
  refine (HCk.out _).mono ?_
  rintro r u ⟨rfl, hv⟩
  replace hM := hM.call hv
  clear hv
  repeat' (first | (go_big_may; first | (refine a_load rfl rfl row_hub rfl hM.at0 HE.out HC.out ?_)) | go_values | go_skip | go_guarded | go_step | go_upon | (simp only [Int.not_lt, Int.not_le] at *; go_simp))
  refine (HP1.out _).mono ?_
  rintro r u ⟨rfl, hv⟩
  replace hM := hM.call hv
  clear hv
  repeat' (first | (go_big_may; first | (refine a_alloc rfl zer_hub rfl ?_; intro u z1 hN; replace hM := hM.new hN; clear hN) | (refine a_fill rfl rfl row_hub rfl rfl hM.at0 HL1.out rep_33 ?_; intro u hv hc; replace hM := hM.put0 hc hv; clear hv hc) | (refine a_load rfl rfl row_hub rfl hM.at1 HE.out HC.out ?_)) | go_values | go_skip | go_guarded | go_step | go_upon | (simp only [Int.not_lt, Int.not_le] at *; go_simp))
  refine (HC1.out _).mono ?_
  rintro r u ⟨rfl, hv⟩
  replace hM := hM.call hv
  clear hv
  repeat' (first | (go_big_may; first | (refine a_alloc rfl zer_hub rfl ?_; intro u z2 hN; replace hM := hM.new hN; clear hN) | (refine a_fill rfl rfl row_hub rfl rfl hM.at0 HL2.out rep_33 ?_; intro u hv hc; replace hM := hM.put0 hc hv; clear hv hc) | (refine a_load rfl rfl row_hub rfl hM.at2 HE.out HC.out ?_)) | go_values | go_skip | go_guarded | go_step | go_upon | (simp only [Int.not_lt, Int.not_le] at *; go_simp))
  refine (HT1.out _).mono ?_
  rintro r u ⟨rfl, hv⟩
  replace hM := hM.call hv
  clear hv
  repeat' (first | (go_big_may; first | (refine a_alloc rfl zer_hub rfl ?_; intro u z3 hN; replace hM := hM.new hN; clear hN) | (refine a_fill rfl rfl row_hub rfl rfl hM.at0 HL3.out rep_33 ?_; intro u hv hc; replace hM := hM.put0 hc hv; clear hv hc)) | go_values | go_skip | go_guarded | go_step | go_upon | (simp only [Int.not_lt, Int.not_le] at *; go_simp))
  go_loopw [16, 17, 18, 46] (fun nv _ _ i wr => ∃ k : Nat, k ≤ 16 ∧ i = .int .i64 (k : Int) ∧ ∃ m : Nat, m ≤ k ∧ nv = .int .i64 (m : Int) ∧ Hid (m = cntF (fun k => decide (k < 16) && decide (gone (chg F k) (chg G2 k) ≠ 0)) k ∧ Mm w wr [(z3, 26, G3), (z2, 26, G2), (z1, 26, G1), (zh, 26, F)])) (fun _ _ _ i _ => 16 - (intOf i).toNat)
  case atStart => exact ⟨0, by omega, rfl, 0, by omega, rfl, rfl, hM⟩
  case round =>
    clear hM
    obtain ⟨k, hk, rfl, m, hmk, rfl, HA⟩ := hrel
    have hM := HA.out.2
    by_cases hlt : ¬ k < 16
    · have hk16 : k = 16 := by omega
      subst hk16
      have hm1 : m ≤ 1 := by rw [HA.out.1]; exact HOne.out
      have HLs := HLost.out
      rw [← HA.out.1] at HLs
      by_cases hm0 : m = 0
      · subst hm0
        clear HA HOne HLost HLs HG1 HG2 HG3 HGh HSt hlt hmk hm1
        repeat' (first | go_values | go_skip | go_guarded | go_step | go_upon | (simp only [Int.not_lt, Int.not_le] at *; go_simp))
        go_ret
        exact ⟨rfl, hM.below⟩
      · have hme : m = 1 := by omega
        subst hme
        obtain ⟨rfl, hq1, hbt⟩ := HLs (by omega)
        have hix := run_ix q 1 hq1
        rw [hbt] at hix
        have hix2 : ∀ W : World, (Instr.index 9 (.string q) (.int .i64 1)).run Try.prog W = .ok (.int .u8 1) W := hix
        clear HA HOne HLost HLs HG1 HG2 HG3 HGh HSt hlt hmk hm1 hm0 hix hbt hq1
        repeat' (first | go_values | go_skip | go_guarded | go_step | go_upon | (simp only [Int.not_lt, Int.not_le] at *; go_simp))
        go_ret
        exact ⟨rfl, hM.below⟩
    have hlt : k < 16 := by omega
    have HKa : Hid (G1[1 + k * 2 + 1]? = some (chg G1 k)) := HG1.out k hlt
    have HKb : Hid (G2[1 + k * 2 + 1]? = some (chg G2 k)) := HG2.out k hlt
    have HKc : Hid (G3[1 + k * 2 + 1]? = some (chg G3 k)) := HG3.out k hlt
    have HKh : Hid (F[1 + k * 2 + 1]? = some (chg F k)) := HGh.out k hlt
    obtain ⟨g1, g2, g3, g4⟩ := HSt.out k hlt
    have HCn : Hid (cntF (fun k => decide (k < 16) && decide (gone (chg F k) (chg G2 k) ≠ 0)) (k + 1) = m + (if (decide (gone (chg F k) (chg G2 k) ≠ 0)) = true then 1 else 0)) := by
      show cntF _ k + (if (decide (k < 16) && decide (gone (chg F k) (chg G2 k) ≠ 0)) = true then 1 else 0) = _
      rw [← HA.out.1, decide_eq_true hlt, Bool.true_and]
    obtain ⟨m2, hm2⟩ : ∃ m2, cntF (fun k => decide (k < 16) && decide (gone (chg F k) (chg G2 k) ≠ 0)) (k + 1) = m2 := ⟨_, rfl⟩
    have HM2 : Hid (cntF (fun k => decide (k < 16) && decide (gone (chg F k) (chg G2 k) ≠ 0)) (k + 1) = m2) := hm2
    rw [hm2] at HCn
    clear HA HOne HLost HG1 HG2 HG3 HGh HSt hm2
    obtain ⟨d, hd⟩ : ∃ d, gone (chg F k) (chg G2 k) = d := ⟨_, rfl⟩
    rw [hd] at g4 HCn
    obtain ⟨pp, hpp, HO, hpm⟩ : ∃ pp : Nat, pp ≤ 1 ∧ Hid (∀ u, Calls Try.prog 20 #[.int .u64 d] u fun e w' => e = .returned (.int .i64 (pp : Int)) ∧ u = w') ∧ Hid (m2 = m + pp) := by
      rcases g4 with rfl | rfl | rfl | rfl
      · exact ⟨0, by omega, fun u => ones_any 0 (by omega) u, HCn.out⟩
      · exact ⟨1, by omega, fun u => ones_any 1 (by omega) u, HCn.out⟩
      · exact ⟨1, by omega, fun u => ones_any 2 (by omega) u, HCn.out⟩
      · exact ⟨1, by omega, fun u => ones_any 16 (by omega) u, HCn.out⟩
    have hd0 : 0 ≤ d := by omega
    have hd1 : d ≤ 16 := by omega
    clear HCn g4
    unfold gone at g1 g2 g3 hd
    generalize chg G1 k = x1 at *
    generalize chg G2 k = x2 at *
    generalize chg G3 k = x3 at *
    generalize chg F k = x at *
    have hki := hi16 hlt
    repeat' (first | (go_big_may; first | (refine a_get rfl rfl rfl hM.at3 HKh.out ?_) | (refine a_get rfl rfl rfl hM.at2 HKa.out ?_) | (refine a_get rfl rfl rfl hM.at1 HKb.out ?_) | (refine a_get rfl rfl rfl hM.at0 HKc.out ?_)) | go_values | go_skip | go_guarded | go_step | go_upon | (simp only [Int.not_lt, Int.not_le] at *; go_simp))
    refine (HO.out _).mono ?_
    rintro r u ⟨rfl, rfl⟩
    repeat' (first | go_values | go_skip | go_guarded | go_step | go_upon | (simp only [Int.not_lt, Int.not_le] at *; go_simp))
    go_roundw
    case rel => exact ⟨k + 1, by omega, by go_num, m + pp, by omega, by go_num, by rw [HM2.out, hpm.out], hM⟩
    case measure => simp [intOf]; omega
end Go.Proofs.Ytdnmjeiljpdmcaa.hubSticks
