/- slots: what configure answers. -/
import Derived.Test.YthjmcopknkemnaaSltG
namespace Go.Proofs.Ythjmcopknkemnaa.slots
open Go Go.RowKit
set_option linter.unusedVariables false
set_option linter.unusedSimpArgs false
set_option maxRecDepth 100000

set_option maxHeartbeats 8000000 in
theorem configure_any (s : List Int) (a : Int) (w : World) (hs : s.length = 66) (h1 : -9223372036854775808 ≤ a) (h2 : a ≤ 9223372036854775807) : Calls Try.prog 93 #[ag s, .int .i64 a] w fun r w' => r = .returned (.tuple #[ag (cfg s a).1, .int .i64 (cfg s a).2]) ∧ Below w.heap.size w w' := by
  have HL : Hid (s.length = 66) := hs
  have HE : Hid (0 + 66 ≤ s.length) := by show 0 + 66 ≤ _; omega
  have HC : Hid (cut s 0 66 = s) := cut_all hs
  have H0 : Hid (s[0]? = some (cl s 0)) := cl_at (by omega)
  have HK : Hid (∀ u, Calls Try.prog 98 #[.int .i64 a] u fun e w' => e = .returned (.bool (stB a)) ∧ u = w') := fun u => isSet_any a u h1 h2
  have hM := Mm.nil w
  clear h1 h2
  by_cases hb : stB a = false
  · have HQ : Hid (cfg s a = (s, 17)) := by show cfg s a = _; unfold cfg; rw [if_pos hb]
    rw [hb] at HK
    clear hs hb
    go_enter Try.func93, Try.ntmps93
    repeat' (first | (go_big_may; first | (refine a_box rfl rfl rfl ?_; intro u zb hN; replace hM := hM.new hN; clear hN) | (refine a_alloc rfl zer_slot rfl ?_; intro u zb hN; replace hM := hM.new hN; clear hN)) | go_values | go_skip | go_guarded | go_step | go_upon | (simp only [Int.not_lt, Int.not_le] at *; go_simp))
    refine (HK.out _).mono ?_
    rintro r u ⟨rfl, rfl⟩
    repeat' (first | (go_big_may; first | (refine a_load rfl rfl row_slot rfl hM.at1 HE.out HC.out ?_) | (refine a_fill rfl rfl row_slot rfl rfl hM.at0 HL.out List.length_replicate ?_; intro u hv hc; replace hM := hM.put0 hc hv; clear hv hc)) | go_values | go_skip | go_guarded | go_step | go_upon | (simp only [Int.not_lt, Int.not_le] at *; go_simp))
    rw [HQ.out]
    exact bodyPost_ret (ret_2 Try.results93 rfl (ld_var row_slot hM.at0 HL.out) rfl) rfl ⟨rfl, hM.below⟩
  have hb : stB a = true := by simpa using hb
  rw [hb] at HK
  by_cases h3 : cl s 0 = 1
  · have HQ : Hid (cfg s a = (s, 19)) := by show cfg s a = _; unfold cfg st; rw [hb, if_neg (by simp), if_pos h3]
    have e1 : (cl s 0 == 1) = true := by simpa using h3
    clear hs hb h3
    go_enter Try.func93, Try.ntmps93
    repeat' (first | (go_big_may; first | (refine a_box rfl rfl rfl ?_; intro u zb hN; replace hM := hM.new hN; clear hN) | (refine a_alloc rfl zer_slot rfl ?_; intro u zb hN; replace hM := hM.new hN; clear hN)) | go_values | go_skip | go_guarded | go_step | go_upon | (simp only [Int.not_lt, Int.not_le] at *; go_simp))
    refine (HK.out _).mono ?_
    rintro r u ⟨rfl, rfl⟩
    repeat' (first | (go_big_may; first | (refine a_get rfl rfl rfl hM.at1 H0.out ?_) | (refine a_load rfl rfl row_slot rfl hM.at1 HE.out HC.out ?_) | (refine a_fill rfl rfl row_slot rfl rfl hM.at0 HL.out List.length_replicate ?_; intro u hv hc; replace hM := hM.put0 hc hv; clear hv hc)) | go_values | go_skip | go_guarded | go_step | go_upon | (simp only [Int.not_lt, Int.not_le] at *; go_simp))
    rw [HQ.out]
    exact bodyPost_ret (ret_2 Try.results93 rfl (ld_var row_slot hM.at0 HL.out) rfl) rfl ⟨rfl, hM.below⟩
  have HQ : Hid (cfg s a = (cfgd s a, 1)) := by show cfg s a = _; unfold cfg st; rw [hb, if_neg (by simp), if_neg h3]
  have e1 : (cl s 0 == 1) = false := by simpa using h3
  obtain ⟨n, rfl⟩ : ∃ n : Nat, a = n := ⟨a.toNat, by
    unfold stB at hb
    simp only [Bool.and_eq_true, decide_eq_true_eq] at hb
    omega⟩
  have hn : n ≤ 4294967295 := by
    unfold stB at hb
    simp only [Bool.and_eq_true, decide_eq_true_eq] at hb
    omega
  have HS : Hid (cfL s (n : Int) 2 = s) := cfL_start hs
  have h11 := i64_and1
  clear hs hb h3
  rw [HQ.out]
  go_enter Try.func93, Try.ntmps93
  repeat' (first | (go_big_may; first | (refine a_box rfl rfl rfl ?_; intro u zs hN; replace hM := hM.new hN; clear hN) | (refine a_alloc rfl zer_slot rfl ?_; intro u zr hN; replace hM := hM.new hN; clear hN)) | go_values | go_skip | go_guarded | go_step | go_upon | (simp only [Int.not_lt, Int.not_le] at *; go_simp))
  refine (HK.out _).mono ?_
  rintro r u ⟨rfl, rfl⟩
  repeat' (first | (go_big_may; first | (refine a_get rfl rfl rfl hM.at1 H0.out ?_)) | go_values | go_skip | go_guarded | go_step | go_upon | (simp only [Int.not_lt, Int.not_le] at *; go_simp))
  have HM : Hid (Mm w u [(zr, 38, List.replicate 66 0), (zs, 38, s)]) := hM
  clear hM HK HQ H0 HE HC
  go_loopw [6] (fun i wr => ∃ k : Nat, 2 ≤ k ∧ k ≤ 32 ∧ i = .int .i64 (k : Int) ∧ Hid (Mm w wr [(zr, 38, List.replicate 66 0), (zs, 38, cfL s (n : Int) k)])) (fun i _ => 32 - (intOf i).toNat)
  case atStart => exact ⟨2, by omega, by omega, rfl, by rw [HS.out]; exact HM.out⟩
  case round =>
    obtain ⟨k, hk2, hk, rfl, HA⟩ := hrel
    have hM := HA.out
    clear HA HM HS
    by_cases hlt : ¬ k < 32
    · have hk32 : k = 32 := by omega
      subst hk32
      obtain ⟨y, hy⟩ : ∃ y, y = cfL s (n : Int) 32 := ⟨_, rfl⟩
      have HY : Hid (cfgd s (n : Int) = y.set 0 (if (n : Int) = 0 then 2 else 3)) := by show cfgd s n = _; rw [hy]; rfl
      have HYL : Hid (y.length = 66) := by show y.length = 66; rw [hy, cfL_length]
      have HY0 : Hid (0 < y.length) := by show 0 < y.length; rw [HYL.out]; omega
      rw [← hy] at hM
      clear hy
      have HYL2 : ∀ x, (y.set 0 x).length = 66 := fun x => by rw [List.length_set]; exact HYL.out
      by_cases h0 : n = 0
      · subst h0
        have HZ : Hid (cfgd s ((0 : Nat) : Int) = (y.set 0 3).set 0 2) := by show _ = _; rw [HY.out]; simp
        have HZL : Hid (((y.set 0 3).set 0 2).length = 66) := by show _ = 66; simp [HYL.out]
        have HZC : Hid (cut ((y.set 0 3).set 0 2) 0 66 = (y.set 0 3).set 0 2) := cut_all HZL.out
        have HZE : Hid (0 + 66 ≤ ((y.set 0 3).set 0 2).length) := by show 0 + 66 ≤ _; rw [HZL.out]; omega
        clear HYL2 HY
        repeat' (first | (go_big_may; first | (refine a_put rfl rfl rfl rfl hM.at1 (by rw [List.length_set]; exact HY0.out) ?_; intro u hv hc; replace hM := hM.put1 hc hv; clear hv hc) | (refine a_put rfl rfl rfl rfl hM.at1 HY0.out ?_; intro u hv hc; replace hM := hM.put1 hc hv; clear hv hc) | (refine a_load rfl rfl row_slot rfl hM.at1 HZE.out HZC.out ?_) | (refine a_fill rfl rfl row_slot rfl rfl hM.at0 HZL.out List.length_replicate ?_; intro u hv hc; replace hM := hM.put0 hc hv; clear hv hc)) | go_values | go_skip | go_guarded | go_step | go_upon | (simp only [Int.not_lt, Int.not_le] at *; go_simp))
        rw [HZ.out]
        exact bodyPost_ret (ret_2 Try.results93 rfl (ld_var row_slot hM.at0 HZL.out) rfl) rfl ⟨rfl, hM.below⟩
      · have HZ : Hid (cfgd s (n : Int) = y.set 0 3) := by show _ = _; rw [HY.out, if_neg (by omega)]
        have HZL : Hid ((y.set 0 3).length = 66) := by show _ = 66; simp [HYL.out]
        have HZC : Hid (cut (y.set 0 3) 0 66 = y.set 0 3) := cut_all HZL.out
        have HZE : Hid (0 + 66 ≤ (y.set 0 3).length) := by show 0 + 66 ≤ _; rw [HZL.out]; omega
        have en : ((n : Int) == 0) = false := by simpa using h0
        clear HYL2 HY h0
        repeat' (first | (go_big_may; first | (refine a_put rfl rfl rfl rfl hM.at1 HY0.out ?_; intro u hv hc; replace hM := hM.put1 hc hv; clear hv hc) | (refine a_load rfl rfl row_slot rfl hM.at1 HZE.out HZC.out ?_) | (refine a_fill rfl rfl row_slot rfl rfl hM.at0 HZL.out List.length_replicate ?_; intro u hv hc; replace hM := hM.put0 hc hv; clear hv hc)) | go_values | go_skip | go_guarded | go_step | go_upon | (simp only [Int.not_lt, Int.not_le] at *; go_simp))
        rw [HZ.out]
        exact bodyPost_ret (ret_2 Try.results93 rfl (ld_var row_slot hM.at0 HZL.out) rfl) rfl ⟨rfl, hM.below⟩
    have hlt : k < 32 := by omega
    have HYL : Hid ((cfL s (n : Int) k).length = 66) := cfL_length _ _ _
    have HG : Hid ((cfL s (n : Int) k)[2 + k]? = some (cl s (2 + k))) := by
      show _ = _
      rw [cl_at (by rw [cfL_length]; omega), cfL_end hk2 hlt]
    by_cases hb0 : bit (n : Int) k = 0
    · have HN : Hid (((cfL s (n : Int) k).set (2 + k) 0).set (34 + k) 0 = cfL s (n : Int) (k + 1)) := cfL_out hk2 hlt hb0
      have e2 : ((n : Int) / 2 ^ k % 2 == 0) = true := by unfold bit at hb0; simpa using hb0
      have HJ1 : Hid (2 + k < (cfL s (n : Int) k).length) := by show _ < _; rw [HYL.out]; omega
      have HJ2 : Hid (34 + k < ((cfL s (n : Int) k).set (2 + k) 0).length) := by show _ < _; rw [List.length_set, HYL.out]; omega
      clear hb0
      repeat' (first | (go_big_may; first | (refine a_put rfl rfl rfl rfl hM.at1 HJ1.out ?_; intro u hv hc; replace hM := hM.put1 hc hv; clear hv hc) | (refine a_put rfl rfl rfl rfl hM.at1 HJ2.out ?_; intro u hv hc; replace hM := hM.put1 hc hv; clear hv hc)) | go_values | go_skip | go_guarded | go_step | go_upon | (simp only [Int.not_lt, Int.not_le] at *; go_simp))
      rw [HN.out] at hM
      go_roundw
      case rel => exact ⟨k + 1, by omega, by omega, by go_num, hM⟩
      case measure => simp [intOf]; omega
    · have e2 : ((n : Int) / 2 ^ k % 2 == 0) = false := by unfold bit at hb0; simpa using hb0
      by_cases he : cl s (2 + k) = 0
      · have HN : Hid ((cfL s (n : Int) k).set (2 + k) 1 = cfL s (n : Int) (k + 1)) := cfL_new hk2 hlt hb0 he
        have e3 : (cl s (2 + k) == 0) = true := by simpa using he
        have HJ1 : Hid (2 + k < (cfL s (n : Int) k).length) := by show _ < _; rw [HYL.out]; omega
        clear hb0 he
        repeat' (first | (go_big_may; first | (refine a_get rfl rfl rfl hM.at1 HG.out ?_) | (refine a_put rfl rfl rfl rfl hM.at1 HJ1.out ?_; intro u hv hc; replace hM := hM.put1 hc hv; clear hv hc)) | go_values | go_skip | go_guarded | go_step | go_upon | (simp only [Int.not_lt, Int.not_le] at *; go_simp))
        rw [HN.out] at hM
        go_roundw
        case rel => exact ⟨k + 1, by omega, by omega, by go_num, hM⟩
        case measure => simp [intOf]; omega
      · have HN : Hid (cfL s (n : Int) k = cfL s (n : Int) (k + 1)) := cfL_old hk2 hlt hb0 he
        have e3 : (cl s (2 + k) == 0) = false := by simpa using he
        clear hb0 he
        repeat' (first | (go_big_may; first | (refine a_get rfl rfl rfl hM.at1 HG.out ?_)) | go_values | go_skip | go_guarded | go_step | go_upon | (simp only [Int.not_lt, Int.not_le] at *; go_simp))
        rw [HN.out] at hM
        go_roundw
        case rel => exact ⟨k + 1, by omega, by omega, by go_num, hM⟩
        case measure => simp [intOf]; omega
end Go.Proofs.Ythjmcopknkemnaa.slots
