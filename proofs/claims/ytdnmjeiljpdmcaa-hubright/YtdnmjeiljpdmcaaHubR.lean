/- plugref's hub: what status, changed, with, without, Hub, HubPlug and HubTick answer. -/
import Derived.Test.YtdnmjeiljpdmcaaHubD
namespace Go.Proofs.Ytdnmjeiljpdmcaa.hub
open Go Go.RowKit
open Go.Proofs.Ytdnmjeiljpdmcaa.slots (cl cl_at cl_set cl_ext allF allF_step allF_end allF_iff anyF)
set_option linter.unusedVariables false
set_option linter.unusedSimpArgs false
set_option maxRecDepth 100000

theorem between_any (a b c : Int) (w : World) : Calls Try.prog 24 #[.int .i64 a, .int .i64 b, .int .i64 c] w fun e w' => e = .returned (.bool (decide (b ≤ a) && decide (a ≤ c))) ∧ w = w' := by
  cases h1 : decide (b ≤ a) <;> cases h2 : decide (a ≤ c) <;> (go_enter Try.func24, Try.ntmps24; go_wp2; go_ret; exact ⟨rfl, rfl⟩)
theorem status_any (s : Int) (w : World) : Calls Try.prog 27 #[.int .i64 s] w fun e w' => e = .returned (.bool (stB s)) ∧ w = w' := by
  cases hs : stB s
  · have : ¬ (s = 0 ∨ s = 256 ∨ s = 257 ∨ s = 259 ∨ s = 273) := fun q => by rw [stB_iff.2 q] at hs; cases hs
    have e0 : (s == 0) = false := by simp; omega
    have e1 : (s == 256) = false := by simp; omega
    have e2 : (s == 257) = false := by simp; omega
    have e3 : (s == 259) = false := by simp; omega
    have e4 : (s == 273) = false := by simp; omega
    clear this hs
    go_enter Try.func27, Try.ntmps27
    go_wp2
    go_ret
    exact ⟨rfl, rfl⟩
  · rcases stB_iff.1 hs with rfl | rfl | rfl | rfl | rfl
    all_goals
      clear hs
      go_enter Try.func27, Try.ntmps27
      go_wp2
      go_ret
      exact ⟨rfl, rfl⟩
theorem changed_any (c : Int) (w : World) : Calls Try.prog 28 #[.int .i64 c] w fun e w' => e = .returned (.bool (chB c)) ∧ w = w' := by
  have H1 : Hid (∀ u, Calls Try.prog 24 #[.int .i64 c, .int .i64 0, .int .i64 3] u fun e w' => e = .returned (.bool (decide (0 ≤ c) && decide (c ≤ 3))) ∧ u = w') := between_any c 0 3
  have H2 : Hid (∀ u, Calls Try.prog 24 #[.int .i64 c, .int .i64 16, .int .i64 19] u fun e w' => e = .returned (.bool (decide (16 ≤ c) && decide (c ≤ 19))) ∧ u = w') := between_any c 16 19
  unfold chB
  generalize (decide (0 ≤ c) && decide (c ≤ 3)) = b1 at *
  generalize (decide (16 ≤ c) && decide (c ≤ 19)) = b2 at *
  cases b1
  · go_enter Try.func28, Try.ntmps28
    go_wp2_with fail
    refine (H1.out _).mono ?_
    rintro r u ⟨rfl, rfl⟩
    go_wp2_with fail
    refine (H2.out _).mono ?_
    rintro r u ⟨rfl, rfl⟩
    go_wp2
    go_ret
    exact ⟨rfl, rfl⟩
  · go_enter Try.func28, Try.ntmps28
    go_wp2_with fail
    refine (H1.out _).mono ?_
    rintro r u ⟨rfl, rfl⟩
    go_wp2
    go_ret
    exact ⟨rfl, rfl⟩
set_option maxHeartbeats 4000000 in
theorem rhub_any (F : List Int) (w : World) (hb : Hb F) : Calls Try.prog 14 #[ag F] w fun e w' => e = .returned (.int .i64 (chk F)) ∧ Below w.heap.size w w' := by
  have HL : Hid (F.length = 33) := hb.len
  have H0 : Hid (F[0]? = some (cn F)) := cl_at (by rw [hb.len]; omega)
  have HE1 : Hid (1 + 32 ≤ F.length) := by show 1 + 32 ≤ _; rw [hb.len]; omega
  have HS : Hid (∀ k u, Calls Try.prog 27 #[.int .i64 (sta F k)] u fun e w' => e = .returned (.bool (stB (sta F k))) ∧ u = w') := fun k u => status_any _ u
  have HH : Hid (∀ k u, Calls Try.prog 28 #[.int .i64 (chg F k)] u fun e w' => e = .returned (.bool (chB (chg F k))) ∧ u = w') := fun k u => changed_any _ u
  have HP : Hid (∀ (k : Nat) u, Calls Try.prog 24 #[.int .i64 (k : Int), .int .i64 1, .int .i64 (cn F)] u fun e w' => e = .returned (.bool (isP F k)) ∧ u = w') := fun k u => between_any _ _ _ u
  have HB : Hid (∀ u, Calls Try.prog 24 #[.int .i64 (cn F), .int .i64 1, .int .i64 15] u fun e w' => e = .returned (.bool (cnB F)) ∧ u = w') := fun u => between_any _ _ _ u
  have HX : Hid (∀ k : Nat, k < 16 → ∀ u, (Instr.index 24 (ag (cut F 1 32)) (.int .i64 (k : Int))).run Try.prog u = .ok (ag [sta F k, chg F k]) u) := fun k hk u => by rw [run_indexP _ k hk, cut_cut hb.len hk]
  have hM := Mm.nil w
  obtain ⟨q, hq⟩ : ∃ q, chk F = q := ⟨_, rfl⟩
  have HQ : Hid (chk F = q) := hq
  rw [hq]
  clear hq hb
  cases hc : cnB F
  · have HQ2 : Hid (1 = q) := by show _ = q; rw [← HQ.out]; unfold chk; rw [if_pos hc]
    rw [hc] at HB
    clear HQ hc
    generalize cn F = m at *
    go_enter Try.func14, Try.ntmps14
    repeat' (first | (go_big_may; first | (refine a_box rfl rfl rfl ?_; intro u zb hN; replace hM := hM.new hN; clear hN) | (refine a_get rfl rfl rfl hM.at0 H0.out ?_)) | go_values | go_skip | go_guarded | go_step | go_upon | (simp only [Int.not_lt, Int.not_le] at *; go_simp))
    refine (HB.out _).mono ?_
    rintro e v ⟨rfl, rfl⟩
    repeat' (first | go_values | go_skip | go_guarded | go_step | go_upon | (simp only [Int.not_lt, Int.not_le] at *; go_simp))
    go_ret
    rw [← HQ2.out]
    exact ⟨rfl, hM.below⟩
  have HQ2 : Hid ((if allF 16 (okP F) 0 = true then 0 else 4) = q) := by show _ = q; rw [← HQ.out]; unfold chk; rw [if_neg (show ¬ cnB F = false by rw [hc]; simp)]
  rw [hc] at HB
  clear HQ hc
  generalize hcf : cut F 1 32 = cf at *
  have HCF : Hid (cut F 1 32 = cf) := hcf
  clear hcf
  generalize hcn : cn F = m at *
  clear hcn
  go_enter Try.func14, Try.ntmps14
  repeat' (first | (go_big_may; first | (refine a_box rfl rfl rfl ?_; intro u zb hN; replace hM := hM.new hN; clear hN) | (refine a_get rfl rfl rfl hM.at0 H0.out ?_)) | go_values | go_skip | go_guarded | go_step | go_upon | (simp only [Int.not_lt, Int.not_le] at *; go_simp))
  refine (HB.out _).mono ?_
  rintro e v ⟨rfl, rfl⟩
  repeat' (first | (go_big_may; first | (refine a_load rfl rfl row_ports rfl hM.at0 HE1.out HCF.out ?_)) | go_values | go_skip | go_guarded | go_step | go_upon | (simp only [Int.not_lt, Int.not_le] at *; go_simp))
  clear HCF HB
  go_loopw [3, 4, 11] (fun _ _ i wr => ∃ k : Nat, k ≤ 16 ∧ i = .int .i64 (k : Int) ∧ Hid ((if allF 16 (okP F) k = true then 0 else 4) = q ∧ Mm w wr [(zb, 26, F)])) (fun _ _ i _ => 16 - (intOf i).toNat)
  case atStart => exact ⟨0, by omega, rfl, HQ2.out, hM⟩
  case round =>
    clear hM
    obtain ⟨k, hk, rfl, HA⟩ := hrel
    have hM := HA.out.2
    by_cases hlt : ¬ k < 16
    · have HQ3 : Hid (0 = q) := by
        have := HA.out.1
        rw [allF_end (by omega), if_pos rfl] at this
        exact this
      clear HA HQ2
      repeat' (first | go_values | go_skip | go_guarded | go_step | go_upon | (simp only [Int.not_lt, Int.not_le] at *; go_simp))
      go_ret
      rw [← HQ3.out]
      exact ⟨rfl, hM.below⟩
    have hlt : k < 16 := by omega
    have hix := HX.out k hlt
    have HSt := HA.out.1
    rw [allF_step hlt] at HSt
    have HS2 : Hid ((if (okP F k && allF 16 (okP F) (k + 1)) = true then 0 else 4) = q) := HSt
    have HOK : Hid (okP F k = ((stB (sta F k) && chB (chg F k)) && (isP F k || (sta F k == 0 && chg F k == 0)))) := rfl
    have HSk : Hid (∀ u, Calls Try.prog 27 #[.int .i64 (sta F k)] u fun e w' => e = .returned (.bool (stB (sta F k))) ∧ u = w') := HS.out k
    have HHk : Hid (∀ u, Calls Try.prog 28 #[.int .i64 (chg F k)] u fun e w' => e = .returned (.bool (chB (chg F k))) ∧ u = w') := HH.out k
    have HPk : Hid (∀ u, Calls Try.prog 24 #[.int .i64 (k : Int), .int .i64 1, .int .i64 m] u fun e w' => e = .returned (.bool (isP F k)) ∧ u = w') := HP.out k
    have HBd : Hid (stB (sta F k) = true → 0 ≤ sta F k ∧ sta F k ≤ 273) := fun h => by have := stB_iff.1 h; omega
    have HBc : Hid (chB (chg F k) = true → 0 ≤ chg F k ∧ chg F k ≤ 19) := fun h => by have := chB_iff.1 h; omega
    clear HSt HA HQ2 HS HH HP HX
    generalize okP F k = ok at *
    generalize isP F k = ip at *
    generalize sta F k = s at *
    generalize chg F k = c at *
    generalize stB s = bs at *
    generalize chB c = bc at *
    have HGS : Hid (([s, c] : List Int)[0]? = some s) := rfl
    have HGC : Hid (([s, c] : List Int)[1]? = some c) := rfl
    go_upto_region 6 with (first | (refine a_alloc rfl zer_port rfl ?_; intro u yb hN; replace hM := hM.new hN; clear hN) | (refine a_fill rfl rfl row_port rfl rfl hM.at0 rfl rfl ?_; intro u hv hc; replace hM := hM.put0 hc hv; clear hv hc))
    clear hix
    go_simp
    rename World => u2
    go_cut [39] from 12 to 40 (fun bv wx => bv = .bool (!ok) ∧ Hid (Mm w wx [(yb, 23, [s, c]), (zb, 26, F)]))
    case first =>
      cases bs
      · have HE1 : Hid (ok = false) := HOK.out
        clear HOK HBd HBc
        repeat' (first | (go_big_may; first | (refine a_get rfl rfl rfl hM.at0 HGS.out ?_) | (refine a_get rfl rfl rfl hM.at0 HGC.out ?_) | (refine a_get rfl rfl rfl hM.at1 H0.out ?_)) | go_values | go_skip | go_guarded | go_step | go_upon | (simp only [Int.not_lt, Int.not_le] at *; go_simp))
        refine (HSk.out _).mono ?_
        rintro e v ⟨rfl, rfl⟩
        repeat' (first | go_values | go_skip | go_guarded | go_step | go_upon | (simp only [Int.not_lt, Int.not_le] at *; go_simp))
        go_meet
        case rel => exact ⟨by rw [HE1.out]; rfl, hM⟩
      · cases bc
        · have HE1 : Hid (ok = false) := HOK.out
          clear HOK HBd HBc
          repeat' (first | (go_big_may; first | (refine a_get rfl rfl rfl hM.at0 HGS.out ?_) | (refine a_get rfl rfl rfl hM.at0 HGC.out ?_) | (refine a_get rfl rfl rfl hM.at1 H0.out ?_)) | go_values | go_skip | go_guarded | go_step | go_upon | (simp only [Int.not_lt, Int.not_le] at *; go_simp))
          refine (HSk.out _).mono ?_
          rintro e v ⟨rfl, rfl⟩
          repeat' (first | (go_big_may; first | (refine a_get rfl rfl rfl hM.at0 HGS.out ?_) | (refine a_get rfl rfl rfl hM.at0 HGC.out ?_) | (refine a_get rfl rfl rfl hM.at1 H0.out ?_)) | go_values | go_skip | go_guarded | go_step | go_upon | (simp only [Int.not_lt, Int.not_le] at *; go_simp))
          refine (HHk.out _).mono ?_
          rintro e v ⟨rfl, rfl⟩
          repeat' (first | go_values | go_skip | go_guarded | go_step | go_upon | (simp only [Int.not_lt, Int.not_le] at *; go_simp))
          go_meet
          case rel => exact ⟨by rw [HE1.out]; rfl, hM⟩
        · cases ip
          · have HE1 : Hid ((!ok) = (s + c != 0)) := by
              show _ = _
              have h1 := HBd.out rfl
              have h2 := HBc.out rfl
              rw [HOK.out, Bool.eq_iff_iff]
              simp
              omega
            obtain ⟨hs1, hs2⟩ := HBd.out rfl
            obtain ⟨hc1, hc2⟩ := HBc.out rfl
            clear HOK HBd HBc
            repeat' (first | (go_big_may; first | (refine a_get rfl rfl rfl hM.at0 HGS.out ?_) | (refine a_get rfl rfl rfl hM.at0 HGC.out ?_) | (refine a_get rfl rfl rfl hM.at1 H0.out ?_)) | go_values | go_skip | go_guarded | go_step | go_upon | (simp only [Int.not_lt, Int.not_le] at *; go_simp))
            refine (HSk.out _).mono ?_
            rintro e v ⟨rfl, rfl⟩
            repeat' (first | (go_big_may; first | (refine a_get rfl rfl rfl hM.at0 HGS.out ?_) | (refine a_get rfl rfl rfl hM.at0 HGC.out ?_) | (refine a_get rfl rfl rfl hM.at1 H0.out ?_)) | go_values | go_skip | go_guarded | go_step | go_upon | (simp only [Int.not_lt, Int.not_le] at *; go_simp))
            refine (HHk.out _).mono ?_
            rintro e v ⟨rfl, rfl⟩
            repeat' (first | (go_big_may; first | (refine a_get rfl rfl rfl hM.at0 HGS.out ?_) | (refine a_get rfl rfl rfl hM.at0 HGC.out ?_) | (refine a_get rfl rfl rfl hM.at1 H0.out ?_)) | go_values | go_skip | go_guarded | go_step | go_upon | (simp only [Int.not_lt, Int.not_le] at *; go_simp))
            refine (HPk.out _).mono ?_
            rintro e v ⟨rfl, rfl⟩
            repeat' (first | (go_big_may; first | (refine a_get rfl rfl rfl hM.at0 HGS.out ?_) | (refine a_get rfl rfl rfl hM.at0 HGC.out ?_) | (refine a_get rfl rfl rfl hM.at1 H0.out ?_)) | go_values | go_skip | go_guarded | go_step | go_upon | (simp only [Int.not_lt, Int.not_le] at *; go_simp))
            go_meet
            case rel => exact ⟨by rw [HE1.out], hM⟩
          · have HE1 : Hid (ok = true) := HOK.out
            clear HOK HBd HBc
            repeat' (first | (go_big_may; first | (refine a_get rfl rfl rfl hM.at0 HGS.out ?_) | (refine a_get rfl rfl rfl hM.at0 HGC.out ?_) | (refine a_get rfl rfl rfl hM.at1 H0.out ?_)) | go_values | go_skip | go_guarded | go_step | go_upon | (simp only [Int.not_lt, Int.not_le] at *; go_simp))
            refine (HSk.out _).mono ?_
            rintro e v ⟨rfl, rfl⟩
            repeat' (first | (go_big_may; first | (refine a_get rfl rfl rfl hM.at0 HGS.out ?_) | (refine a_get rfl rfl rfl hM.at0 HGC.out ?_) | (refine a_get rfl rfl rfl hM.at1 H0.out ?_)) | go_values | go_skip | go_guarded | go_step | go_upon | (simp only [Int.not_lt, Int.not_le] at *; go_simp))
            refine (HHk.out _).mono ?_
            rintro e v ⟨rfl, rfl⟩
            repeat' (first | (go_big_may; first | (refine a_get rfl rfl rfl hM.at0 HGS.out ?_) | (refine a_get rfl rfl rfl hM.at0 HGC.out ?_) | (refine a_get rfl rfl rfl hM.at1 H0.out ?_)) | go_values | go_skip | go_guarded | go_step | go_upon | (simp only [Int.not_lt, Int.not_le] at *; go_simp))
            refine (HPk.out _).mono ?_
            rintro e v ⟨rfl, rfl⟩
            repeat' (first | go_values | go_skip | go_guarded | go_step | go_upon | (simp only [Int.not_lt, Int.not_le] at *; go_simp))
            go_meet
            case rel => exact ⟨by rw [HE1.out]; rfl, hM⟩
    case rest =>
    obtain ⟨rfl, HW2⟩ := hcut
    rename World => wx
    replace hM := HW2.out.tail
    clear HW2 HOK HBd HBc
    cases ok
    · have HQ3 : Hid (4 = q) := HS2.out
      repeat' (first | go_values | go_skip | go_guarded | go_step | go_upon | (simp only [Int.not_lt, Int.not_le] at *; go_simp))
      go_ret
      rw [← HQ3.out]
      exact ⟨rfl, hM.below⟩
    · have HS3 : Hid ((if allF 16 (okP F) (k + 1) = true then 0 else 4) = q) := by have := HS2.out; rw [Bool.true_and] at this; exact this
      repeat' (first | go_values | go_skip | go_guarded | go_step | go_upon | (simp only [Int.not_lt, Int.not_le] at *; go_simp))
      go_roundw
      case rel => exact ⟨k + 1, by omega, by go_num, HS3.out, hM⟩
      case measure => simp [intOf]; omega
theorem with_any (n b : Int) (w : World) (hn : chB n = true) (hb : b = 1 ∨ b = 2 ∨ b = 16) : Calls Try.prog 25 #[.int .i64 n, .int .i64 b] w fun e w' => e = .returned (.int .i64 (with' n b)) ∧ w = w' := by
  rcases hb with rfl | rfl | rfl <;> rcases chB_iff.1 hn with rfl | rfl | rfl | rfl | rfl | rfl | rfl | rfl
  all_goals
    clear hn
    go_enter Try.func25, Try.ntmps25
    go_wp2
    go_ret
    exact ⟨rfl, rfl⟩
theorem without_any (n b : Int) (w : World) (hn : chB n = true) (hb : b = 1 ∨ b = 2 ∨ b = 16) : Calls Try.prog 41 #[.int .i64 n, .int .i64 b] w fun e w' => e = .returned (.int .i64 (less n b)) ∧ w = w' := by
  have HW : Hid (∀ u, Calls Try.prog 25 #[.int .i64 n, .int .i64 b] u fun e w' => e = .returned (.int .i64 (with' n b)) ∧ u = w') := fun u => with_any n b u hn hb
  have hz : 0 ≤ with' n b ∧ with' n b ≤ 40 := by
    have h1 := chB_iff.1 hn
    unfold with'
    split <;> omega
  obtain ⟨hz1, hz2⟩ := hz
  have hb1 : 1 ≤ b ∧ b ≤ 16 := by omega
  obtain ⟨hb1, hb2⟩ := hb1
  clear hn hb
  unfold less
  generalize with' n b = m at *
  go_enter Try.func41, Try.ntmps41
  go_wp2_with fail
  refine (HW.out _).mono ?_
  rintro r u ⟨rfl, rfl⟩
  go_wp2
  go_ret
  exact ⟨rfl, rfl⟩
set_option maxHeartbeats 8000000 in
theorem rplug_any (F : List Int) (n : Int) (t : Bool) (w : World) (hb : Hb F) : Calls Try.prog 10 #[ag F, .int .i64 n, .bool t] w fun e w' => e = .returned (.tuple #[ag (plugV F n t), .int .i64 (plugC F n)]) ∧ Below w.heap.size w w' := by
  have HL : Hid (F.length = 33) := hb.len
  have HC : Hid (cut F 0 33 = F) := cut_all hb.len
  have HE : Hid (0 + 33 ≤ F.length) := by show 0 + 33 ≤ _; rw [hb.len]; omega
  have H0 : Hid (F[0]? = some (cn F)) := cl_at (by rw [hb.len]; omega)
  have HK : Hid (∀ u, Calls Try.prog 14 #[ag F] u fun e w' => e = .returned (.int .i64 (chk F)) ∧ Below u.heap.size u w') := fun u => rhub_any F u hb
  have HP : Hid (∀ u, Calls Try.prog 24 #[.int .i64 n, .int .i64 1, .int .i64 (cn F)] u fun e w' => e = .returned (.bool (isP F n)) ∧ u = w') := fun u => between_any _ _ _ u
  have hM := Mm.nil w
  by_cases h0 : ¬ chk F = 0
  · have HV : Hid (plugV F n t = F ∧ plugC F n = chk F) := by
      have : plugC F n = chk F := by unfold plugC; rw [if_pos h0]
      exact ⟨by unfold plugV; rw [if_pos (by rw [this]; exact h0)], this⟩
    rw [HV.out.1, HV.out.2]
    have e0 : (chk F != 0) = true := by simpa using h0
    clear h0 HV hb
    generalize chk F = z at *
    go_enter Try.func10, Try.ntmps10
    repeat' (first | (go_big_may; first | (refine a_box rfl rfl rfl ?_; intro u zb hN; replace hM := hM.new hN; clear hN) | (refine a_alloc rfl zer_hub rfl ?_; intro u zb hN; replace hM := hM.new hN; clear hN) | (refine a_load rfl rfl row_hub rfl hM.at1 HE.out HC.out ?_)) | go_values | go_skip | go_guarded | go_step | go_upon | (simp only [Int.not_lt, Int.not_le] at *; go_simp))
    refine (HK.out _).mono ?_
    rintro r u ⟨rfl, hv⟩
    replace hM := hM.call hv
    clear hv
    repeat' (first | (go_big_may; first | (refine a_load rfl rfl row_hub rfl hM.at1 HE.out HC.out ?_) | (refine a_fill rfl rfl row_hub rfl rfl hM.at0 HL.out rep_33 ?_; intro u hv hc; replace hM := hM.put0 hc hv; clear hv hc)) | go_values | go_skip | go_guarded | go_step | go_upon | (simp only [Int.not_lt, Int.not_le] at *; go_simp))
    exact bodyPost_ret (ret_2 Try.results10 rfl (ld_var row_hub hM.at0 HL.out) rfl) rfl ⟨rfl, hM.below⟩
  have h0 : chk F = 0 := by omega
  have hok := chk_ok hb.len h0
  rw [h0] at HK
  by_cases h1 : isP F n = false
  · have HV : Hid (plugV F n t = F ∧ plugC F n = 12) := by
      have : plugC F n = 12 := by unfold plugC; rw [if_neg (fun z => z h0), if_pos h1]
      exact ⟨by unfold plugV; rw [if_pos (by rw [this]; decide)], this⟩
    rw [HV.out.1, HV.out.2]
    rw [h1] at HP
    clear h0 h1 HV hb hok
    generalize cn F = m at *
    go_enter Try.func10, Try.ntmps10
    repeat' (first | (go_big_may; first | (refine a_box rfl rfl rfl ?_; intro u zb hN; replace hM := hM.new hN; clear hN) | (refine a_alloc rfl zer_hub rfl ?_; intro u zb hN; replace hM := hM.new hN; clear hN) | (refine a_load rfl rfl row_hub rfl hM.at1 HE.out HC.out ?_)) | go_values | go_skip | go_guarded | go_step | go_upon | (simp only [Int.not_lt, Int.not_le] at *; go_simp))
    refine (HK.out _).mono ?_
    rintro r u ⟨rfl, hv⟩
    replace hM := hM.call hv
    clear hv
    repeat' (first | (go_big_may; first | (refine a_get rfl rfl rfl hM.at1 H0.out ?_)) | go_values | go_skip | go_guarded | go_step | go_upon | (simp only [Int.not_lt, Int.not_le] at *; go_simp))
    refine (HP.out _).mono ?_
    rintro r u ⟨rfl, rfl⟩
    repeat' (first | (go_big_may; first | (refine a_load rfl rfl row_hub rfl hM.at1 HE.out HC.out ?_) | (refine a_fill rfl rfl row_hub rfl rfl hM.at0 HL.out rep_33 ?_; intro u hv hc; replace hM := hM.put0 hc hv; clear hv hc)) | go_values | go_skip | go_guarded | go_step | go_upon | (simp only [Int.not_lt, Int.not_le] at *; go_simp))
    exact bodyPost_ret (ret_2 Try.results10 rfl (ld_var row_hub hM.at0 HL.out) rfl) rfl ⟨rfl, hM.below⟩
  have h1 : isP F n = true := by simpa using h1
  obtain ⟨k, hk1, hk2, rfl, hpk⟩ := port_of hok h1
  rw [h1] at HP
  have htn : ((k : Int)).toNat = k := by omega
  have hst := hok.st hk2
  have hch := chB_iff.2 (hok.ch hk2)
  have HEP : Hid (1 + k * 2 + 2 ≤ F.length) := by show _ ≤ _; rw [hb.len]; omega
  have HCP : Hid (cut F (1 + k * 2) 2 = [sta F k, chg F k]) := cut_port hb.len hk2
  have HGS : Hid (([sta F k, chg F k] : List Int)[0]? = some (sta F k)) := rfl
  have HGC : Hid (([sta F k, chg F k] : List Int)[1]? = some (chg F k)) := rfl
  by_cases h2 : sta F k = 0
  · have HV : Hid (plugV F (k : Int) t = F ∧ plugC F (k : Int) = 8) := by
      have : plugC F (k : Int) = 8 := by unfold plugC; rw [if_neg (fun z => z h0), if_neg (by rw [h1]; decide), htn, if_pos h2]
      exact ⟨by unfold plugV; rw [if_pos (by rw [this]; decide)], this⟩
    rw [HV.out.1, HV.out.2]
    rw [h2] at HCP HGS
    clear h0 h1 HV hb hok hst hch htn hpk h2
    generalize cn F = m at *
    generalize chg F k = c at *
    go_enter Try.func10, Try.ntmps10
    repeat' (first | (go_big_may; first | (refine a_box rfl rfl rfl ?_; intro u zb hN; replace hM := hM.new hN; clear hN) | (refine a_alloc rfl zer_hub rfl ?_; intro u zb hN; replace hM := hM.new hN; clear hN) | (refine a_load rfl rfl row_hub rfl hM.at1 HE.out HC.out ?_)) | go_values | go_skip | go_guarded | go_step | go_upon | (simp only [Int.not_lt, Int.not_le] at *; go_simp))
    refine (HK.out _).mono ?_
    rintro r u ⟨rfl, hv⟩
    replace hM := hM.call hv
    clear hv
    repeat' (first | (go_big_may; first | (refine a_get rfl rfl rfl hM.at1 H0.out ?_)) | go_values | go_skip | go_guarded | go_step | go_upon | (simp only [Int.not_lt, Int.not_le] at *; go_simp))
    refine (HP.out _).mono ?_
    rintro r u ⟨rfl, rfl⟩
    repeat' (first | (go_big_may; first | (refine a_load rfl rfl row_port rfl hM.at1 HEP.out HCP.out ?_) | (refine a_alloc rfl zer_port rfl ?_; intro u zb hN; replace hM := hM.new hN; clear hN) | (refine a_fill rfl rfl row_port rfl rfl hM.at0 rfl rfl ?_; intro u hv hc; replace hM := hM.put0 hc hv; clear hv hc) | (refine a_get rfl rfl rfl hM.at0 HGS.out ?_) | (refine a_load rfl rfl row_hub rfl hM.at2 HE.out HC.out ?_) | (refine a_fill rfl rfl row_hub rfl rfl hM.at1 HL.out rep_33 ?_; intro u hv hc; replace hM := hM.put1 hc hv; clear hv hc)) | go_values | go_skip | go_guarded | go_step | go_upon | (simp only [Int.not_lt, Int.not_le] at *; go_simp))
    exact bodyPost_ret (ret_2 Try.results10 rfl (ld_var row_hub hM.at1 HL.out) rfl) rfl ⟨rfl, hM.below⟩
  have hs4 : sta F k = 256 ∨ sta F k = 257 ∨ sta F k = 259 ∨ sta F k = 273 := by omega
  have HVC : Hid (plugC F (k : Int) = 0) := by show plugC F (k : Int) = 0; unfold plugC; rw [if_neg (fun z => z h0), if_neg (by rw [h1]; decide), htn, if_neg h2]
  have HVV : Hid (plugV F (k : Int) t = setP F k (plgS (sta F k) t) (plgC (sta F k) (chg F k) t)) := by show _ = _; unfold plugV; rw [if_neg (fun z => z HVC.out), htn]
  have HSelf : Hid (setP F k (sta F k) (chg F k) = F) := setP_self hb.len hk2
  rw [HVC.out]
  have HPP : Hid (∀ s c, putL F (1 + k * 2) [s, c] = setP F k s c) := fun s c => putL_port hb.len hk2 s c
  have HL2 : Hid (∀ s c, (setP F k s c).length = 33) := fun s c => by rw [setP_len, hb.len]
  have HW1 : Hid (∀ u, Calls Try.prog 25 #[.int .i64 (chg F k), .int .i64 1] u fun e w' => e = .returned (.int .i64 (with' (chg F k) 1)) ∧ u = w') := fun u => with_any _ 1 u hch (.inl rfl)
  have HW2 : Hid (∀ u, Calls Try.prog 25 #[.int .i64 (with' (chg F k) 1), .int .i64 2] u fun e w' => e = .returned (.int .i64 (with' (with' (chg F k) 1) 2)) ∧ u = w') := fun u => with_any _ 2 u (ch_with hch).1 (.inr (.inl rfl))
  clear h0 h1 hb hok hst hch htn hpk h2 HVC
  rcases hs4 with hs | hs | hs | hs <;> cases t
  · rw [hs] at HCP HGS HVV HSelf
    have HV : Hid (plugV F (k : Int) false = F) := by show _ = _; rw [HVV.out]; exact HSelf.out
    rw [HV.out]
    clear HV HVV HSelf HW1 HW2 HPP HL2 hs
    generalize cn F = m at *
    generalize chg F k = c at *
    go_enter Try.func10, Try.ntmps10
    repeat' (first | (go_big_may; first | (refine a_box rfl rfl rfl ?_; intro u zb hN; replace hM := hM.new hN; clear hN) | (refine a_alloc rfl zer_hub rfl ?_; intro u zb hN; replace hM := hM.new hN; clear hN) | (refine a_load rfl rfl row_hub rfl hM.at1 HE.out HC.out ?_)) | go_values | go_skip | go_guarded | go_step | go_upon | (simp only [Int.not_lt, Int.not_le] at *; go_simp))
    refine (HK.out _).mono ?_
    rintro r u ⟨rfl, hv⟩
    replace hM := hM.call hv
    clear hv
    repeat' (first | (go_big_may; first | (refine a_get rfl rfl rfl hM.at1 H0.out ?_)) | go_values | go_skip | go_guarded | go_step | go_upon | (simp only [Int.not_lt, Int.not_le] at *; go_simp))
    refine (HP.out _).mono ?_
    rintro r u ⟨rfl, rfl⟩
    repeat' (first | (go_big_may; first | (refine a_load rfl rfl row_port rfl hM.at1 HEP.out HCP.out ?_) | (refine a_alloc rfl zer_port rfl ?_; intro u zb hN; replace hM := hM.new hN; clear hN) | (refine a_fill rfl rfl row_port rfl rfl hM.at0 rfl rfl ?_; intro u hv hc; replace hM := hM.put0 hc hv; clear hv hc) | (refine a_get rfl rfl rfl hM.at0 HGS.out ?_) | (refine a_load rfl rfl row_hub rfl hM.at2 HE.out HC.out ?_) | (refine a_fill rfl rfl row_hub rfl rfl hM.at1 HL.out rep_33 ?_; intro u hv hc; replace hM := hM.put1 hc hv; clear hv hc)) | go_values | go_skip | go_guarded | go_step | go_upon | (simp only [Int.not_lt, Int.not_le] at *; go_simp))
    exact bodyPost_ret (ret_2 Try.results10 rfl (ld_var row_hub hM.at1 HL.out) rfl) rfl ⟨rfl, hM.below⟩
  · rw [hs] at HCP HGS HVV HSelf
    have HV : Hid (plugV F (k : Int) true = setP F k 257 (with' (chg F k) 1)) := by show _ = _; rw [HVV.out]; rfl
    rw [HV.out]
    have HPP2 : Hid (putL F (1 + k * 2) [257, with' (chg F k) 1] = setP F k 257 (with' (chg F k) 1)) := HPP.out _ _
    have HL3 : Hid ((setP F k 257 (with' (chg F k) 1)).length = 33) := HL2.out _ _
    have hbl := bld_P 257 (with' (chg F k) 1)
    clear HV HVV HSelf HPP HL2 hs
    generalize setP F k 257 (with' (chg F k) 1) = F2 at *
    have HE2 : Hid (0 + 33 ≤ F2.length) := by show 0 + 33 ≤ _; rw [HL3.out]; omega
    have HC2 : Hid (cut F2 0 33 = F2) := cut_all HL3.out
    clear HW2
    generalize with' (chg F k) 1 = c1 at *
    generalize cn F = m at *
    generalize chg F k = c at *
    go_enter Try.func10, Try.ntmps10
    repeat' (first | (go_big_may; first | (refine a_box rfl rfl rfl ?_; intro u zb hN; replace hM := hM.new hN; clear hN) | (refine a_alloc rfl zer_hub rfl ?_; intro u zb hN; replace hM := hM.new hN; clear hN) | (refine a_load rfl rfl row_hub rfl hM.at1 HE.out HC.out ?_)) | go_values | go_skip | go_guarded | go_step | go_upon | (simp only [Int.not_lt, Int.not_le] at *; go_simp))
    refine (HK.out _).mono ?_
    rintro r u ⟨rfl, hv⟩
    replace hM := hM.call hv
    clear hv
    repeat' (first | (go_big_may; first | (refine a_get rfl rfl rfl hM.at1 H0.out ?_)) | go_values | go_skip | go_guarded | go_step | go_upon | (simp only [Int.not_lt, Int.not_le] at *; go_simp))
    refine (HP.out _).mono ?_
    rintro r u ⟨rfl, rfl⟩
    repeat' (first | (go_big_may; first | (refine a_load rfl rfl row_port rfl hM.at1 HEP.out HCP.out ?_) | (refine a_alloc rfl zer_port rfl ?_; intro u zb hN; replace hM := hM.new hN; clear hN) | (refine a_fill rfl rfl row_port rfl rfl hM.at0 rfl rfl ?_; intro u hv hc; replace hM := hM.put0 hc hv; clear hv hc) | (refine a_get rfl rfl rfl hM.at0 HGS.out ?_) | (refine a_get rfl rfl rfl hM.at0 HGC.out ?_)) | go_values | go_skip | go_guarded | go_step | go_upon | (simp only [Int.not_lt, Int.not_le] at *; go_simp))
    refine (HW1.out _).mono ?_
    rintro r u ⟨rfl, rfl⟩
    repeat' (first | (go_big_may; first | (refine a_build rfl rfl hbl (by simp [Act.eval]) ?_) | (refine a_store rfl rfl row_port rfl rfl hM.at2 rfl HEP.out HPP2.out ?_; intro u hv hc; replace hM := hM.put2 hc hv; clear hv hc) | (refine a_load rfl rfl row_hub rfl hM.at2 HE2.out HC2.out ?_) | (refine a_fill rfl rfl row_hub rfl rfl hM.at1 HL3.out rep_33 ?_; intro u hv hc; replace hM := hM.put1 hc hv; clear hv hc)) | go_values | go_skip | go_guarded | go_step | go_upon | (simp only [Int.not_lt, Int.not_le] at *; go_simp))
    exact bodyPost_ret (ret_2 Try.results10 rfl (ld_var row_hub hM.at1 HL3.out) rfl) rfl ⟨rfl, hM.below⟩
  · rw [hs] at HCP HGS HVV HSelf
    have HV : Hid (plugV F (k : Int) false = setP F k 256 (with' (chg F k) 1)) := by show _ = _; rw [HVV.out]; rfl
    rw [HV.out]
    have HPP2 : Hid (putL F (1 + k * 2) [256, with' (chg F k) 1] = setP F k 256 (with' (chg F k) 1)) := HPP.out _ _
    have HL3 : Hid ((setP F k 256 (with' (chg F k) 1)).length = 33) := HL2.out _ _
    have hbl := bld_P 256 (with' (chg F k) 1)
    clear HV HVV HSelf HPP HL2 hs
    generalize setP F k 256 (with' (chg F k) 1) = F2 at *
    have HE2 : Hid (0 + 33 ≤ F2.length) := by show 0 + 33 ≤ _; rw [HL3.out]; omega
    have HC2 : Hid (cut F2 0 33 = F2) := cut_all HL3.out
    clear HW2
    generalize with' (chg F k) 1 = c1 at *
    generalize cn F = m at *
    generalize chg F k = c at *
    go_enter Try.func10, Try.ntmps10
    repeat' (first | (go_big_may; first | (refine a_box rfl rfl rfl ?_; intro u zb hN; replace hM := hM.new hN; clear hN) | (refine a_alloc rfl zer_hub rfl ?_; intro u zb hN; replace hM := hM.new hN; clear hN) | (refine a_load rfl rfl row_hub rfl hM.at1 HE.out HC.out ?_)) | go_values | go_skip | go_guarded | go_step | go_upon | (simp only [Int.not_lt, Int.not_le] at *; go_simp))
    refine (HK.out _).mono ?_
    rintro r u ⟨rfl, hv⟩
    replace hM := hM.call hv
    clear hv
    repeat' (first | (go_big_may; first | (refine a_get rfl rfl rfl hM.at1 H0.out ?_)) | go_values | go_skip | go_guarded | go_step | go_upon | (simp only [Int.not_lt, Int.not_le] at *; go_simp))
    refine (HP.out _).mono ?_
    rintro r u ⟨rfl, rfl⟩
    repeat' (first | (go_big_may; first | (refine a_load rfl rfl row_port rfl hM.at1 HEP.out HCP.out ?_) | (refine a_alloc rfl zer_port rfl ?_; intro u zb hN; replace hM := hM.new hN; clear hN) | (refine a_fill rfl rfl row_port rfl rfl hM.at0 rfl rfl ?_; intro u hv hc; replace hM := hM.put0 hc hv; clear hv hc) | (refine a_get rfl rfl rfl hM.at0 HGS.out ?_) | (refine a_get rfl rfl rfl hM.at0 HGC.out ?_)) | go_values | go_skip | go_guarded | go_step | go_upon | (simp only [Int.not_lt, Int.not_le] at *; go_simp))
    refine (HW1.out _).mono ?_
    rintro r u ⟨rfl, rfl⟩
    repeat' (first | (go_big_may; first | (refine a_build rfl rfl hbl (by simp [Act.eval]) ?_) | (refine a_store rfl rfl row_port rfl rfl hM.at2 rfl HEP.out HPP2.out ?_; intro u hv hc; replace hM := hM.put2 hc hv; clear hv hc) | (refine a_load rfl rfl row_hub rfl hM.at2 HE2.out HC2.out ?_) | (refine a_fill rfl rfl row_hub rfl rfl hM.at1 HL3.out rep_33 ?_; intro u hv hc; replace hM := hM.put1 hc hv; clear hv hc)) | go_values | go_skip | go_guarded | go_step | go_upon | (simp only [Int.not_lt, Int.not_le] at *; go_simp))
    exact bodyPost_ret (ret_2 Try.results10 rfl (ld_var row_hub hM.at1 HL3.out) rfl) rfl ⟨rfl, hM.below⟩
  · rw [hs] at HCP HGS HVV HSelf
    have HV : Hid (plugV F (k : Int) true = F) := by show _ = _; rw [HVV.out]; exact HSelf.out
    rw [HV.out]
    clear HV HVV HSelf HW1 HW2 HPP HL2 hs
    generalize cn F = m at *
    generalize chg F k = c at *
    go_enter Try.func10, Try.ntmps10
    repeat' (first | (go_big_may; first | (refine a_box rfl rfl rfl ?_; intro u zb hN; replace hM := hM.new hN; clear hN) | (refine a_alloc rfl zer_hub rfl ?_; intro u zb hN; replace hM := hM.new hN; clear hN) | (refine a_load rfl rfl row_hub rfl hM.at1 HE.out HC.out ?_)) | go_values | go_skip | go_guarded | go_step | go_upon | (simp only [Int.not_lt, Int.not_le] at *; go_simp))
    refine (HK.out _).mono ?_
    rintro r u ⟨rfl, hv⟩
    replace hM := hM.call hv
    clear hv
    repeat' (first | (go_big_may; first | (refine a_get rfl rfl rfl hM.at1 H0.out ?_)) | go_values | go_skip | go_guarded | go_step | go_upon | (simp only [Int.not_lt, Int.not_le] at *; go_simp))
    refine (HP.out _).mono ?_
    rintro r u ⟨rfl, rfl⟩
    repeat' (first | (go_big_may; first | (refine a_load rfl rfl row_port rfl hM.at1 HEP.out HCP.out ?_) | (refine a_alloc rfl zer_port rfl ?_; intro u zb hN; replace hM := hM.new hN; clear hN) | (refine a_fill rfl rfl row_port rfl rfl hM.at0 rfl rfl ?_; intro u hv hc; replace hM := hM.put0 hc hv; clear hv hc) | (refine a_get rfl rfl rfl hM.at0 HGS.out ?_) | (refine a_load rfl rfl row_hub rfl hM.at2 HE.out HC.out ?_) | (refine a_fill rfl rfl row_hub rfl rfl hM.at1 HL.out rep_33 ?_; intro u hv hc; replace hM := hM.put1 hc hv; clear hv hc)) | go_values | go_skip | go_guarded | go_step | go_upon | (simp only [Int.not_lt, Int.not_le] at *; go_simp))
    exact bodyPost_ret (ret_2 Try.results10 rfl (ld_var row_hub hM.at1 HL.out) rfl) rfl ⟨rfl, hM.below⟩
  · rw [hs] at HCP HGS HVV HSelf
    have HV : Hid (plugV F (k : Int) false = setP F k 256 (with' (with' (chg F k) 1) 2)) := by show _ = _; rw [HVV.out]; rfl
    rw [HV.out]
    have HPP2 : Hid (putL F (1 + k * 2) [256, with' (with' (chg F k) 1) 2] = setP F k 256 (with' (with' (chg F k) 1) 2)) := HPP.out _ _
    have HL3 : Hid ((setP F k 256 (with' (with' (chg F k) 1) 2)).length = 33) := HL2.out _ _
    have hbl := bld_P 256 (with' (with' (chg F k) 1) 2)
    clear HV HVV HSelf HPP HL2 hs
    generalize setP F k 256 (with' (with' (chg F k) 1) 2) = F2 at *
    have HE2 : Hid (0 + 33 ≤ F2.length) := by show 0 + 33 ≤ _; rw [HL3.out]; omega
    have HC2 : Hid (cut F2 0 33 = F2) := cut_all HL3.out
    generalize with' (with' (chg F k) 1) 2 = c2 at *
    generalize with' (chg F k) 1 = c1 at *
    generalize cn F = m at *
    generalize chg F k = c at *
    go_enter Try.func10, Try.ntmps10
    repeat' (first | (go_big_may; first | (refine a_box rfl rfl rfl ?_; intro u zb hN; replace hM := hM.new hN; clear hN) | (refine a_alloc rfl zer_hub rfl ?_; intro u zb hN; replace hM := hM.new hN; clear hN) | (refine a_load rfl rfl row_hub rfl hM.at1 HE.out HC.out ?_)) | go_values | go_skip | go_guarded | go_step | go_upon | (simp only [Int.not_lt, Int.not_le] at *; go_simp))
    refine (HK.out _).mono ?_
    rintro r u ⟨rfl, hv⟩
    replace hM := hM.call hv
    clear hv
    repeat' (first | (go_big_may; first | (refine a_get rfl rfl rfl hM.at1 H0.out ?_)) | go_values | go_skip | go_guarded | go_step | go_upon | (simp only [Int.not_lt, Int.not_le] at *; go_simp))
    refine (HP.out _).mono ?_
    rintro r u ⟨rfl, rfl⟩
    repeat' (first | (go_big_may; first | (refine a_load rfl rfl row_port rfl hM.at1 HEP.out HCP.out ?_) | (refine a_alloc rfl zer_port rfl ?_; intro u zb hN; replace hM := hM.new hN; clear hN) | (refine a_fill rfl rfl row_port rfl rfl hM.at0 rfl rfl ?_; intro u hv hc; replace hM := hM.put0 hc hv; clear hv hc) | (refine a_get rfl rfl rfl hM.at0 HGS.out ?_) | (refine a_get rfl rfl rfl hM.at0 HGC.out ?_)) | go_values | go_skip | go_guarded | go_step | go_upon | (simp only [Int.not_lt, Int.not_le] at *; go_simp))
    refine (HW1.out _).mono ?_
    rintro r u ⟨rfl, rfl⟩
    repeat' (first | go_values | go_skip | go_guarded | go_step | go_upon | (simp only [Int.not_lt, Int.not_le] at *; go_simp))
    refine (HW2.out _).mono ?_
    rintro r u ⟨rfl, rfl⟩
    repeat' (first | (go_big_may; first | (refine a_build rfl rfl hbl (by simp [Act.eval]) ?_) | (refine a_store rfl rfl row_port rfl rfl hM.at2 rfl HEP.out HPP2.out ?_; intro u hv hc; replace hM := hM.put2 hc hv; clear hv hc) | (refine a_load rfl rfl row_hub rfl hM.at2 HE2.out HC2.out ?_) | (refine a_fill rfl rfl row_hub rfl rfl hM.at1 HL3.out rep_33 ?_; intro u hv hc; replace hM := hM.put1 hc hv; clear hv hc)) | go_values | go_skip | go_guarded | go_step | go_upon | (simp only [Int.not_lt, Int.not_le] at *; go_simp))
    exact bodyPost_ret (ret_2 Try.results10 rfl (ld_var row_hub hM.at1 HL3.out) rfl) rfl ⟨rfl, hM.below⟩
  · rw [hs] at HCP HGS HVV HSelf
    have HV : Hid (plugV F (k : Int) true = F) := by show _ = _; rw [HVV.out]; exact HSelf.out
    rw [HV.out]
    clear HV HVV HSelf HW1 HW2 HPP HL2 hs
    generalize cn F = m at *
    generalize chg F k = c at *
    go_enter Try.func10, Try.ntmps10
    repeat' (first | (go_big_may; first | (refine a_box rfl rfl rfl ?_; intro u zb hN; replace hM := hM.new hN; clear hN) | (refine a_alloc rfl zer_hub rfl ?_; intro u zb hN; replace hM := hM.new hN; clear hN) | (refine a_load rfl rfl row_hub rfl hM.at1 HE.out HC.out ?_)) | go_values | go_skip | go_guarded | go_step | go_upon | (simp only [Int.not_lt, Int.not_le] at *; go_simp))
    refine (HK.out _).mono ?_
    rintro r u ⟨rfl, hv⟩
    replace hM := hM.call hv
    clear hv
    repeat' (first | (go_big_may; first | (refine a_get rfl rfl rfl hM.at1 H0.out ?_)) | go_values | go_skip | go_guarded | go_step | go_upon | (simp only [Int.not_lt, Int.not_le] at *; go_simp))
    refine (HP.out _).mono ?_
    rintro r u ⟨rfl, rfl⟩
    repeat' (first | (go_big_may; first | (refine a_load rfl rfl row_port rfl hM.at1 HEP.out HCP.out ?_) | (refine a_alloc rfl zer_port rfl ?_; intro u zb hN; replace hM := hM.new hN; clear hN) | (refine a_fill rfl rfl row_port rfl rfl hM.at0 rfl rfl ?_; intro u hv hc; replace hM := hM.put0 hc hv; clear hv hc) | (refine a_get rfl rfl rfl hM.at0 HGS.out ?_) | (refine a_load rfl rfl row_hub rfl hM.at2 HE.out HC.out ?_) | (refine a_fill rfl rfl row_hub rfl rfl hM.at1 HL.out rep_33 ?_; intro u hv hc; replace hM := hM.put1 hc hv; clear hv hc)) | go_values | go_skip | go_guarded | go_step | go_upon | (simp only [Int.not_lt, Int.not_le] at *; go_simp))
    exact bodyPost_ret (ret_2 Try.results10 rfl (ld_var row_hub hM.at1 HL.out) rfl) rfl ⟨rfl, hM.below⟩
  · rw [hs] at HCP HGS HVV HSelf
    have HV : Hid (plugV F (k : Int) false = setP F k 256 (with' (chg F k) 1)) := by show _ = _; rw [HVV.out]; rfl
    rw [HV.out]
    have HPP2 : Hid (putL F (1 + k * 2) [256, with' (chg F k) 1] = setP F k 256 (with' (chg F k) 1)) := HPP.out _ _
    have HL3 : Hid ((setP F k 256 (with' (chg F k) 1)).length = 33) := HL2.out _ _
    have hbl := bld_P 256 (with' (chg F k) 1)
    clear HV HVV HSelf HPP HL2 hs
    generalize setP F k 256 (with' (chg F k) 1) = F2 at *
    have HE2 : Hid (0 + 33 ≤ F2.length) := by show 0 + 33 ≤ _; rw [HL3.out]; omega
    have HC2 : Hid (cut F2 0 33 = F2) := cut_all HL3.out
    clear HW2
    generalize with' (chg F k) 1 = c1 at *
    generalize cn F = m at *
    generalize chg F k = c at *
    go_enter Try.func10, Try.ntmps10
    repeat' (first | (go_big_may; first | (refine a_box rfl rfl rfl ?_; intro u zb hN; replace hM := hM.new hN; clear hN) | (refine a_alloc rfl zer_hub rfl ?_; intro u zb hN; replace hM := hM.new hN; clear hN) | (refine a_load rfl rfl row_hub rfl hM.at1 HE.out HC.out ?_)) | go_values | go_skip | go_guarded | go_step | go_upon | (simp only [Int.not_lt, Int.not_le] at *; go_simp))
    refine (HK.out _).mono ?_
    rintro r u ⟨rfl, hv⟩
    replace hM := hM.call hv
    clear hv
    repeat' (first | (go_big_may; first | (refine a_get rfl rfl rfl hM.at1 H0.out ?_)) | go_values | go_skip | go_guarded | go_step | go_upon | (simp only [Int.not_lt, Int.not_le] at *; go_simp))
    refine (HP.out _).mono ?_
    rintro r u ⟨rfl, rfl⟩
    repeat' (first | (go_big_may; first | (refine a_load rfl rfl row_port rfl hM.at1 HEP.out HCP.out ?_) | (refine a_alloc rfl zer_port rfl ?_; intro u zb hN; replace hM := hM.new hN; clear hN) | (refine a_fill rfl rfl row_port rfl rfl hM.at0 rfl rfl ?_; intro u hv hc; replace hM := hM.put0 hc hv; clear hv hc) | (refine a_get rfl rfl rfl hM.at0 HGS.out ?_) | (refine a_get rfl rfl rfl hM.at0 HGC.out ?_)) | go_values | go_skip | go_guarded | go_step | go_upon | (simp only [Int.not_lt, Int.not_le] at *; go_simp))
    refine (HW1.out _).mono ?_
    rintro r u ⟨rfl, rfl⟩
    repeat' (first | (go_big_may; first | (refine a_build rfl rfl hbl (by simp [Act.eval]) ?_) | (refine a_store rfl rfl row_port rfl rfl hM.at2 rfl HEP.out HPP2.out ?_; intro u hv hc; replace hM := hM.put2 hc hv; clear hv hc) | (refine a_load rfl rfl row_hub rfl hM.at2 HE2.out HC2.out ?_) | (refine a_fill rfl rfl row_hub rfl rfl hM.at1 HL3.out rep_33 ?_; intro u hv hc; replace hM := hM.put1 hc hv; clear hv hc)) | go_values | go_skip | go_guarded | go_step | go_upon | (simp only [Int.not_lt, Int.not_le] at *; go_simp))
    exact bodyPost_ret (ret_2 Try.results10 rfl (ld_var row_hub hM.at1 HL3.out) rfl) rfl ⟨rfl, hM.below⟩
  · rw [hs] at HCP HGS HVV HSelf
    have HV : Hid (plugV F (k : Int) true = F) := by show _ = _; rw [HVV.out]; exact HSelf.out
    rw [HV.out]
    clear HV HVV HSelf HW1 HW2 HPP HL2 hs
    generalize cn F = m at *
    generalize chg F k = c at *
    go_enter Try.func10, Try.ntmps10
    repeat' (first | (go_big_may; first | (refine a_box rfl rfl rfl ?_; intro u zb hN; replace hM := hM.new hN; clear hN) | (refine a_alloc rfl zer_hub rfl ?_; intro u zb hN; replace hM := hM.new hN; clear hN) | (refine a_load rfl rfl row_hub rfl hM.at1 HE.out HC.out ?_)) | go_values | go_skip | go_guarded | go_step | go_upon | (simp only [Int.not_lt, Int.not_le] at *; go_simp))
    refine (HK.out _).mono ?_
    rintro r u ⟨rfl, hv⟩
    replace hM := hM.call hv
    clear hv
    repeat' (first | (go_big_may; first | (refine a_get rfl rfl rfl hM.at1 H0.out ?_)) | go_values | go_skip | go_guarded | go_step | go_upon | (simp only [Int.not_lt, Int.not_le] at *; go_simp))
    refine (HP.out _).mono ?_
    rintro r u ⟨rfl, rfl⟩
    repeat' (first | (go_big_may; first | (refine a_load rfl rfl row_port rfl hM.at1 HEP.out HCP.out ?_) | (refine a_alloc rfl zer_port rfl ?_; intro u zb hN; replace hM := hM.new hN; clear hN) | (refine a_fill rfl rfl row_port rfl rfl hM.at0 rfl rfl ?_; intro u hv hc; replace hM := hM.put0 hc hv; clear hv hc) | (refine a_get rfl rfl rfl hM.at0 HGS.out ?_) | (refine a_load rfl rfl row_hub rfl hM.at2 HE.out HC.out ?_) | (refine a_fill rfl rfl row_hub rfl rfl hM.at1 HL.out rep_33 ?_; intro u hv hc; replace hM := hM.put1 hc hv; clear hv hc)) | go_values | go_skip | go_guarded | go_step | go_upon | (simp only [Int.not_lt, Int.not_le] at *; go_simp))
    exact bodyPost_ret (ret_2 Try.results10 rfl (ld_var row_hub hM.at1 HL.out) rfl) rfl ⟨rfl, hM.below⟩
set_option maxHeartbeats 4000000 in
theorem rtick_any (F : List Int) (w : World) (hb : Hb F) : Calls Try.prog 12 #[ag F] w fun e w' => e = .returned (.tuple #[ag (tickV F), .int .i64 (chk F)]) ∧ Below w.heap.size w w' := by
  have HL : Hid (F.length = 33) := hb.len
  have HC : Hid (cut F 0 33 = F) := cut_all hb.len
  have HE : Hid (0 + 33 ≤ F.length) := by show 0 + 33 ≤ _; rw [hb.len]; omega
  have HE1 : Hid (1 + 32 ≤ F.length) := by show 1 + 32 ≤ _; rw [hb.len]; omega
  have HK : Hid (∀ u, Calls Try.prog 14 #[ag F] u fun e w' => e = .returned (.int .i64 (chk F)) ∧ Below u.heap.size u w') := fun u => rhub_any F u hb
  have HX : Hid (∀ k : Nat, k < 16 → ∀ u, (Instr.index 24 (ag (cut F 1 32)) (.int .i64 (k : Int))).run Try.prog u = .ok (ag [sta F k, chg F k]) u) := fun k hk u => by rw [run_indexP _ k hk, cut_cut hb.len hk]
  have hM := Mm.nil w
  by_cases h0 : ¬ chk F = 0
  · have HV : Hid (tickV F = F) := by show tickV F = F; unfold tickV; rw [if_pos h0]
    rw [HV.out]
    have e0 : (chk F != 0) = true := by simpa using h0
    clear h0 HV hb HX
    generalize chk F = z at *
    go_enter Try.func12, Try.ntmps12
    repeat' (first | (go_big_may; first | (refine a_box rfl rfl rfl ?_; intro u zb hN; replace hM := hM.new hN; clear hN) | (refine a_alloc rfl zer_hub rfl ?_; intro u zb hN; replace hM := hM.new hN; clear hN) | (refine a_load rfl rfl row_hub rfl hM.at1 HE.out HC.out ?_)) | go_values | go_skip | go_guarded | go_step | go_upon | (simp only [Int.not_lt, Int.not_le] at *; go_simp))
    refine (HK.out _).mono ?_
    rintro r u ⟨rfl, hv⟩
    replace hM := hM.call hv
    clear hv
    repeat' (first | (go_big_may; first | (refine a_load rfl rfl row_hub rfl hM.at1 HE.out HC.out ?_) | (refine a_fill rfl rfl row_hub rfl rfl hM.at0 HL.out rep_33 ?_; intro u hv hc; replace hM := hM.put0 hc hv; clear hv hc)) | go_values | go_skip | go_guarded | go_step | go_upon | (simp only [Int.not_lt, Int.not_le] at *; go_simp))
    exact bodyPost_ret (ret_2 Try.results12 rfl (ld_var row_hub hM.at0 HL.out) rfl) rfl ⟨rfl, hM.below⟩
  have h0 : chk F = 0 := by omega
  have hok := chk_ok hb.len h0
  have HOK : Hid (Ok F) := hok
  rw [h0] at HK
  have HV : Hid (tickV F = tkN F 16) := by show tickV F = _; unfold tickV; rw [if_neg (fun z => z h0)]
  rw [HV.out, h0]
  have HTL : Hid (∀ k, (tkN F k).length = 33) := fun k => by rw [tkN_len, hb.len]
  clear h0 HV hb hok
  generalize hcf : cut F 1 32 = cf at *
  have HCF : Hid (cut F 1 32 = cf) := hcf
  clear hcf
  go_enter Try.func12, Try.ntmps12
  repeat' (first | (go_big_may; first | (refine a_box rfl rfl rfl ?_; intro u zb hN; replace hM := hM.new hN; clear hN) | (refine a_alloc rfl zer_hub rfl ?_; intro u zr hN; replace hM := hM.new hN; clear hN) | (refine a_load rfl rfl row_hub rfl hM.at1 HE.out HC.out ?_)) | go_values | go_skip | go_guarded | go_step | go_upon | (simp only [Int.not_lt, Int.not_le] at *; go_simp))
  refine (HK.out _).mono ?_
  rintro r u ⟨rfl, hv⟩
  replace hM := hM.call hv
  clear hv
  repeat' (first | (go_big_may; first | (refine a_load rfl rfl row_ports rfl hM.at1 HE1.out HCF.out ?_)) | go_values | go_skip | go_guarded | go_step | go_upon | (simp only [Int.not_lt, Int.not_le] at *; go_simp))
  go_loopw [5, 6, 15] (fun _ _ i wr => ∃ k : Nat, k ≤ 16 ∧ i = .int .i64 (k : Int) ∧ Hid (Mm w wr [(zr, 26, List.replicate 33 0), (zb, 26, tkN F k)])) (fun _ _ i _ => 16 - (intOf i).toNat)
  case atStart => exact ⟨0, by omega, rfl, hM⟩
  case round =>
    clear hM HCF HE1
    obtain ⟨k, hk, rfl, HA⟩ := hrel
    have hM := HA.out
    by_cases hlt : ¬ k < 16
    · have hk16 : k = 16 := by omega
      subst hk16
      have HL3 : Hid ((tkN F 16).length = 33) := HTL.out 16
      clear HA HX HTL
      obtain ⟨F2, hF2⟩ : ∃ F2, tkN F 16 = F2 := ⟨_, rfl⟩
      rw [hF2] at HL3 hM
      have HF2 : Hid (tkN F 16 = F2) := hF2
      clear hF2
      have HE2 : Hid (0 + 33 ≤ F2.length) := by show 0 + 33 ≤ _; rw [HL3.out]; omega
      have HC2 : Hid (cut F2 0 33 = F2) := cut_all HL3.out
      repeat' (first | (go_big_may; first | (refine a_load rfl rfl row_hub rfl hM.at1 HE2.out HC2.out ?_) | (refine a_fill rfl rfl row_hub rfl rfl hM.at0 HL3.out rep_33 ?_; intro u hv hc; replace hM := hM.put0 hc hv; clear hv hc)) | go_values | go_skip | go_guarded | go_step | go_upon | (simp only [Int.not_lt, Int.not_le] at *; go_simp))
      exact bodyPost_ret (ret_2 Try.results12 rfl (ld_var row_hub hM.at0 HL3.out) rfl) rfl ⟨by rw [HF2.out]; rfl, hM.below⟩
    have hlt : k < 16 := by omega
    have hix := HX.out k hlt
    have HEP : Hid (1 + k * 2 + 2 ≤ (tkN F k).length) := by show _ ≤ _; rw [HTL.out]; omega
    have HPP : Hid (∀ s c, putL (tkN F k) (1 + k * 2) [s, c] = setP (tkN F k) k s c) := fun s c => putL_port (HTL.out k) hlt s c
    have hst := HOK.out.st hlt
    have hch := HOK.out.ch hlt
    have HT : Hid (tkN F (k + 1) = if sta F k = 273 then setP (tkN F k) k 259 (with' (chg F k) 16) else tkN F k) := rfl
    have HW16 : Hid (∀ u, Calls Try.prog 25 #[.int .i64 (chg F k), .int .i64 16] u fun e w' => e = .returned (.int .i64 (with' (chg F k) 16)) ∧ u = w') := fun u => with_any _ 16 u (chB_iff.2 hch) (.inr (.inr rfl))
    clear HA HX HTL hch
    by_cases h273 : sta F k = 273
    · have HT2 : Hid (putL (tkN F k) (1 + k * 2) [259, with' (chg F k) 16] = tkN F (k + 1)) := by show _ = _; rw [HPP.out, HT.out, if_pos h273]
      clear HT HPP hst
      rw [h273] at hix
      clear h273
      generalize with' (chg F k) 16 = c2 at *
      generalize chg F k = c at *
      obtain ⟨G, hG⟩ : ∃ G, tkN F (k + 1) = G := ⟨_, rfl⟩
      rw [hG] at HT2
      have HG : Hid (tkN F (k + 1) = G) := hG
      clear hG
      have HGS : Hid (([273, c] : List Int)[0]? = some 273) := rfl
      have HGC : Hid (([273, c] : List Int)[1]? = some c) := rfl
      have hbl := bld_P 259 c2
      repeat' (first | (go_big_may; first | (refine a_alloc rfl zer_port rfl ?_; intro u yb hN; replace hM := hM.new hN; clear hN) | (refine a_fill rfl rfl row_port rfl rfl hM.at0 rfl rfl ?_; intro u hv hc; replace hM := hM.put0 hc hv; clear hv hc) | (refine a_get rfl rfl rfl hM.at0 HGS.out ?_) | (refine a_get rfl rfl rfl hM.at0 HGC.out ?_)) | go_values | go_skip | go_guarded | go_step | go_upon | (simp only [Int.not_lt, Int.not_le] at *; go_simp))
      refine (HW16.out _).mono ?_
      rintro r u ⟨rfl, rfl⟩
      repeat' (first | (go_big_may; first | (refine a_build rfl rfl hbl (by simp [Act.eval]) ?_) | (refine a_store rfl rfl row_port rfl rfl hM.at2 rfl HEP.out HT2.out ?_; intro u hv hc; replace hM := hM.put2 hc hv; clear hv hc)) | go_values | go_skip | go_guarded | go_step | go_upon | (simp only [Int.not_lt, Int.not_le] at *; go_simp))
      replace hM := hM.tail
      go_roundw
      case rel => exact ⟨k + 1, by omega, by go_num, by rw [HG.out]; exact hM⟩
      case measure => simp [intOf]; omega
    · have HT2 : Hid (tkN F k = tkN F (k + 1)) := by show _ = _; rw [HT.out, if_neg h273]
      rw [HT2.out] at hM
      have e273 : (sta F k == 273) = false := by simpa using h273
      clear HT HPP hst h273 HT2 HEP HW16
      generalize chg F k = c at *
      generalize sta F k = s at *
      obtain ⟨G, hG⟩ : ∃ G, tkN F (k + 1) = G := ⟨_, rfl⟩
      rw [hG] at hM
      have HG : Hid (tkN F (k + 1) = G) := hG
      clear hG
      have HGS : Hid (([s, c] : List Int)[0]? = some s) := rfl
      repeat' (first | (go_big_may; first | (refine a_alloc rfl zer_port rfl ?_; intro u yb hN; replace hM := hM.new hN; clear hN) | (refine a_fill rfl rfl row_port rfl rfl hM.at0 rfl rfl ?_; intro u hv hc; replace hM := hM.put0 hc hv; clear hv hc) | (refine a_get rfl rfl rfl hM.at0 HGS.out ?_)) | go_values | go_skip | go_guarded | go_step | go_upon | (simp only [Int.not_lt, Int.not_le] at *; go_simp))
      replace hM := hM.tail
      go_roundw
      case rel => exact ⟨k + 1, by omega, by go_num, by rw [HG.out]; exact hM⟩
      case measure => simp [intOf]; omega
end Go.Proofs.Ytdnmjeiljpdmcaa.hub
