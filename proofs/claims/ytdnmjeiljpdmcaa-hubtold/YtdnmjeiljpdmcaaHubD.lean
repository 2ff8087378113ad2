/- hub: what Plug and Tick answer. -/
import Derived.Test.YtdnmjeiljpdmcaaHubC
namespace Go.Proofs.Ytdnmjeiljpdmcaa.hub
open Go Go.RowKit
open Go.Proofs.Ytdnmjeiljpdmcaa.slots (cl cl_at cl_set cl_ext allF allF_step allF_end allF_iff anyF)
set_option linter.unusedVariables false
set_option linter.unusedSimpArgs false
set_option maxRecDepth 100000

theorem rep_33 : (List.replicate 33 (0 : Int)).length = 33 := List.length_replicate
/-- a port of a hub, by its number -/
theorem port_of {F : List Int} (h : Ok F) {n : Int} (hn : isP F n = true) : ∃ k : Nat, 1 ≤ k ∧ k < 16 ∧ n = (k : Int) ∧ isP F (k : Int) = true := by
  have h1 := isP_iff.1 hn
  have h2 := h.hi
  exact ⟨n.toNat, by omega, by omega, by omega, by rw [Int.toNat_of_nonneg (by omega)]; exact hn⟩
set_option maxHeartbeats 4000000 in
theorem plug_any (F : List Int) (n : Int) (t : Bool) (w : World) (hb : Hb F) : Calls Try.prog 9 #[ag F, .int .i64 n, .bool t] w fun e w' => e = .returned (.tuple #[ag (plugV F n t), .int .i64 (plugC F n)]) ∧ Below w.heap.size w w' := by
  have HL : Hid (F.length = 33) := hb.len
  have HC : Hid (cut F 0 33 = F) := cut_all hb.len
  have HE : Hid (0 + 33 ≤ F.length) := by show 0 + 33 ≤ _; rw [hb.len]; omega
  have HK : Hid (∀ u, Calls Try.prog 13 #[ag F] u fun e w' => e = .returned (.int .i64 (chk F)) ∧ Below u.heap.size u w') := fun u => check_any F u hb
  have HP : Hid (∀ u, Calls Try.prog 22 #[ag F, .int .i64 n] u fun e w' => e = .returned (.bool (isP F n)) ∧ Below u.heap.size u w') := fun u => isPort_any F n u hb.len
  have hM := Mm.nil w
  by_cases h0 : ¬ chk F = 0
  · have HV : Hid (plugV F n t = F ∧ plugC F n = chk F) := by
      have : plugC F n = chk F := by unfold plugC; rw [if_pos h0]
      exact ⟨by unfold plugV; rw [if_pos (by rw [this]; exact h0)], this⟩
    rw [HV.out.1, HV.out.2]
    have e0 : (chk F != 0) = true := by simpa using h0
    clear h0 HV hb
    generalize chk F = z at *
    go_enter Try.func9, Try.ntmps9
    repeat' (first | (go_big_may; first | (refine a_box rfl rfl rfl ?_; intro u zb hN; replace hM := hM.new hN; clear hN) | (refine a_alloc rfl zer_hub rfl ?_; intro u zb hN; replace hM := hM.new hN; clear hN) | (refine a_load rfl rfl row_hub rfl hM.at1 HE.out HC.out ?_)) | go_values | go_skip | go_guarded | go_step | go_upon | (simp only [Int.not_lt, Int.not_le] at *; go_simp))
    refine (HK.out _).mono ?_
    rintro r u ⟨rfl, hv⟩
    replace hM := hM.call hv
    clear hv
    repeat' (first | (go_big_may; first | (refine a_load rfl rfl row_hub rfl hM.at1 HE.out HC.out ?_) | (refine a_fill rfl rfl row_hub rfl rfl hM.at0 HL.out rep_33 ?_; intro u hv hc; replace hM := hM.put0 hc hv; clear hv hc)) | go_values | go_skip | go_guarded | go_step | go_upon | (simp only [Int.not_lt, Int.not_le] at *; go_simp))
    exact bodyPost_ret (ret_2 Try.results9 rfl (ld_var row_hub hM.at0 HL.out) rfl) rfl ⟨rfl, hM.below⟩
  have h0 : chk F = 0 := by omega
  have hok := chk_ok hb.len h0
  rw [h0] at HK
  by_cases h1 : isP F n = false
  · have HV : Hid (plugV F n t = F ∧ plugC F n = 12) := by
      have : plugC F n = 12 := by unfold plugC; rw [if_neg (fun z => z h0), if_pos h1]
      exact ⟨by unfold plugV; rw [if_pos (by rw [this]; decide)], this⟩
    rw [HV.out.1, HV.out.2]
    rw [h1] at HP
    clear h0 h1 HV hb hok
    go_enter Try.func9, Try.ntmps9
    repeat' (first | (go_big_may; first | (refine a_box rfl rfl rfl ?_; intro u zb hN; replace hM := hM.new hN; clear hN) | (refine a_alloc rfl zer_hub rfl ?_; intro u zb hN; replace hM := hM.new hN; clear hN) | (refine a_load rfl rfl row_hub rfl hM.at1 HE.out HC.out ?_)) | go_values | go_skip | go_guarded | go_step | go_upon | (simp only [Int.not_lt, Int.not_le] at *; go_simp))
    refine (HK.out _).mono ?_
    rintro r u ⟨rfl, hv⟩
    replace hM := hM.call hv
    clear hv
    repeat' (first | (go_big_may; first | (refine a_load rfl rfl row_hub rfl hM.at1 HE.out HC.out ?_)) | go_values | go_skip | go_guarded | go_step | go_upon | (simp only [Int.not_lt, Int.not_le] at *; go_simp))
    refine (HP.out _).mono ?_
    rintro r u ⟨rfl, hv⟩
    replace hM := hM.call hv
    clear hv
    repeat' (first | (go_big_may; first | (refine a_load rfl rfl row_hub rfl hM.at1 HE.out HC.out ?_) | (refine a_fill rfl rfl row_hub rfl rfl hM.at0 HL.out rep_33 ?_; intro u hv hc; replace hM := hM.put0 hc hv; clear hv hc)) | go_values | go_skip | go_guarded | go_step | go_upon | (simp only [Int.not_lt, Int.not_le] at *; go_simp))
    exact bodyPost_ret (ret_2 Try.results9 rfl (ld_var row_hub hM.at0 HL.out) rfl) rfl ⟨rfl, hM.below⟩
  have h1 : isP F n = true := by simpa using h1
  obtain ⟨k, hk1, hk2, rfl, hpk⟩ := port_of hok h1
  rw [h1] at HP
  have htn : ((k : Int)).toNat = k := by omega
  have hst := hok.st hk2
  have hch := hok.ch hk2
  have HG : Hid (F[1 + k * 2]? = some (sta F k)) := cl_at (by rw [hb.len]; omega)
  by_cases h2 : sta F k = 0
  · have HV : Hid (plugV F (k : Int) t = F ∧ plugC F (k : Int) = 8) := by
      have : plugC F (k : Int) = 8 := by unfold plugC; rw [if_neg (fun z => z h0), if_neg (by rw [h1]; decide), htn, if_pos h2]
      exact ⟨by unfold plugV; rw [if_pos (by rw [this]; decide)], this⟩
    rw [HV.out.1, HV.out.2]
    rw [h2] at HG
    clear h0 h1 HV hb hok hst hch htn hpk h2
    go_enter Try.func9, Try.ntmps9
    repeat' (first | (go_big_may; first | (refine a_box rfl rfl rfl ?_; intro u zb hN; replace hM := hM.new hN; clear hN) | (refine a_alloc rfl zer_hub rfl ?_; intro u zb hN; replace hM := hM.new hN; clear hN) | (refine a_load rfl rfl row_hub rfl hM.at1 HE.out HC.out ?_)) | go_values | go_skip | go_guarded | go_step | go_upon | (simp only [Int.not_lt, Int.not_le] at *; go_simp))
    refine (HK.out _).mono ?_
    rintro r u ⟨rfl, hv⟩
    replace hM := hM.call hv
    clear hv
    repeat' (first | (go_big_may; first | (refine a_load rfl rfl row_hub rfl hM.at1 HE.out HC.out ?_)) | go_values | go_skip | go_guarded | go_step | go_upon | (simp only [Int.not_lt, Int.not_le] at *; go_simp))
    refine (HP.out _).mono ?_
    rintro r u ⟨rfl, hv⟩
    replace hM := hM.call hv
    clear hv
    repeat' (first | (go_big_may; first | (refine a_get rfl rfl rfl hM.at1 HG.out ?_) | (refine a_load rfl rfl row_hub rfl hM.at1 HE.out HC.out ?_) | (refine a_fill rfl rfl row_hub rfl rfl hM.at0 HL.out rep_33 ?_; intro u hv hc; replace hM := hM.put0 hc hv; clear hv hc)) | go_values | go_skip | go_guarded | go_step | go_upon | (simp only [Int.not_lt, Int.not_le] at *; go_simp))
    exact bodyPost_ret (ret_2 Try.results9 rfl (ld_var row_hub hM.at0 HL.out) rfl) rfl ⟨rfl, hM.below⟩
  have hs4 : sta F k = 256 ∨ sta F k = 257 ∨ sta F k = 259 ∨ sta F k = 273 := by omega
  have HPl : Hid (∀ u, Calls Try.prog 23 #[ag [sta F k, chg F k], .bool t] u fun e w' => e = .returned (ag [plgS (sta F k) t, plgC (sta F k) (chg F k) t]) ∧ Below u.heap.size u w') := fun u => plugged_any _ _ t u hs4 (chB_iff.2 hch)
  have HV : Hid (plugV F (k : Int) t = setP F k (plgS (sta F k) t) (plgC (sta F k) (chg F k) t) ∧ plugC F (k : Int) = 0) := by
    have : plugC F (k : Int) = 0 := by unfold plugC; rw [if_neg (fun z => z h0), if_neg (by rw [h1]; decide), htn, if_neg h2]
    exact ⟨by unfold plugV; rw [if_neg (fun z => z this), htn], this⟩
  rw [HV.out.1, HV.out.2]
  have HEP : Hid (1 + k * 2 + 2 ≤ F.length) := by show _ ≤ _; rw [hb.len]; omega
  have HCP : Hid (cut F (1 + k * 2) 2 = [sta F k, chg F k]) := cut_port hb.len hk2
  have HPP : Hid (∀ s c, putL F (1 + k * 2) [s, c] = setP F k s c) := fun s c => putL_port hb.len hk2 s c
  have HL2 : Hid (∀ s c, (setP F k s c).length = 33) := fun s c => by rw [setP_len, hb.len]
  have e256 : (bits .and .i64 (sta F k) 256 == 0) = false := by
    rcases hs4 with h | h | h | h <;> rw [h] <;> decide
  clear h0 h1 HV hb hok hst hch htn hpk h2 hs4
  generalize plgS (sta F k) t = s' at *
  generalize plgC (sta F k) (chg F k) t = c' at *
  generalize sta F k = s at *
  generalize chg F k = c at *
  have HL3 : Hid ((setP F k s' c').length = 33) := HL2.out _ _
  have HPP3 := HPP.out s' c'
  have HPP2 : Hid (putL F (1 + k * 2) [s', c'] = setP F k s' c') := HPP3
  clear HPP HL2 HPP3
  generalize setP F k s' c' = F2 at *
  have HE2 : Hid (0 + 33 ≤ F2.length) := by show 0 + 33 ≤ _; rw [HL3.out]; omega
  have HC2 : Hid (cut F2 0 33 = F2) := cut_all HL3.out
  go_enter Try.func9, Try.ntmps9
  repeat' (first | (go_big_may; first | (refine a_box rfl rfl rfl ?_; intro u zb hN; replace hM := hM.new hN; clear hN) | (refine a_alloc rfl zer_hub rfl ?_; intro u zb hN; replace hM := hM.new hN; clear hN) | (refine a_load rfl rfl row_hub rfl hM.at1 HE.out HC.out ?_)) | go_values | go_skip | go_guarded | go_step | go_upon | (simp only [Int.not_lt, Int.not_le] at *; go_simp))
  refine (HK.out _).mono ?_
  rintro r u ⟨rfl, hv⟩
  replace hM := hM.call hv
  clear hv
  repeat' (first | (go_big_may; first | (refine a_load rfl rfl row_hub rfl hM.at1 HE.out HC.out ?_)) | go_values | go_skip | go_guarded | go_step | go_upon | (simp only [Int.not_lt, Int.not_le] at *; go_simp))
  refine (HP.out _).mono ?_
  rintro r u ⟨rfl, hv⟩
  replace hM := hM.call hv
  clear hv
  repeat' (first | (go_big_may; first | (refine a_get rfl rfl rfl hM.at1 HG.out ?_) | (refine a_load rfl rfl row_port rfl hM.at1 HEP.out HCP.out ?_)) | go_values | go_skip | go_guarded | go_step | go_upon | (simp only [Int.not_lt, Int.not_le] at *; go_simp))
  refine (HPl.out _).mono ?_
  rintro r u ⟨rfl, hv⟩
  replace hM := hM.call hv
  clear hv
  repeat' (first | (go_big_may; first | (refine a_store rfl rfl row_port rfl rfl hM.at1 rfl HEP.out HPP2.out ?_; intro u hv hc; replace hM := hM.put1 hc hv; clear hv hc) | (refine a_load rfl rfl row_hub rfl hM.at1 HE2.out HC2.out ?_) | (refine a_fill rfl rfl row_hub rfl rfl hM.at0 HL3.out rep_33 ?_; intro u hv hc; replace hM := hM.put0 hc hv; clear hv hc)) | go_values | go_skip | go_guarded | go_step | go_upon | (simp only [Int.not_lt, Int.not_le] at *; go_simp))
  exact bodyPost_ret (ret_2 Try.results9 rfl (ld_var row_hub hM.at0 HL3.out) rfl) rfl ⟨rfl, hM.below⟩
set_option maxHeartbeats 4000000 in
theorem tick_any (F : List Int) (w : World) (hb : Hb F) : Calls Try.prog 11 #[ag F] w fun e w' => e = .returned (.tuple #[ag (tickV F), .int .i64 (chk F)]) ∧ Below w.heap.size w w' := by
  have HL : Hid (F.length = 33) := hb.len
  have HC : Hid (cut F 0 33 = F) := cut_all hb.len
  have HE : Hid (0 + 33 ≤ F.length) := by show 0 + 33 ≤ _; rw [hb.len]; omega
  have HE1 : Hid (1 + 32 ≤ F.length) := by show 1 + 32 ≤ _; rw [hb.len]; omega
  have HK : Hid (∀ u, Calls Try.prog 13 #[ag F] u fun e w' => e = .returned (.int .i64 (chk F)) ∧ Below u.heap.size u w') := fun u => check_any F u hb
  have HX : Hid (∀ k : Nat, k < 16 → ∀ u, (Instr.index 24 (ag (cut F 1 32)) (.int .i64 (k : Int))).run Try.prog u = .ok (ag [sta F k, chg F k]) u) := fun k hk u => by rw [run_indexP _ k hk, cut_cut hb.len hk]
  have hM := Mm.nil w
  by_cases h0 : ¬ chk F = 0
  · have HV : Hid (tickV F = F) := by show tickV F = F; unfold tickV; rw [if_pos h0]
    rw [HV.out]
    have e0 : (chk F != 0) = true := by simpa using h0
    clear h0 HV hb HX
    generalize chk F = z at *
    go_enter Try.func11, Try.ntmps11
    repeat' (first | (go_big_may; first | (refine a_box rfl rfl rfl ?_; intro u zb hN; replace hM := hM.new hN; clear hN) | (refine a_alloc rfl zer_hub rfl ?_; intro u zb hN; replace hM := hM.new hN; clear hN) | (refine a_load rfl rfl row_hub rfl hM.at1 HE.out HC.out ?_)) | go_values | go_skip | go_guarded | go_step | go_upon | (simp only [Int.not_lt, Int.not_le] at *; go_simp))
    refine (HK.out _).mono ?_
    rintro r u ⟨rfl, hv⟩
    replace hM := hM.call hv
    clear hv
    repeat' (first | (go_big_may; first | (refine a_load rfl rfl row_hub rfl hM.at1 HE.out HC.out ?_) | (refine a_fill rfl rfl row_hub rfl rfl hM.at0 HL.out rep_33 ?_; intro u hv hc; replace hM := hM.put0 hc hv; clear hv hc)) | go_values | go_skip | go_guarded | go_step | go_upon | (simp only [Int.not_lt, Int.not_le] at *; go_simp))
    exact bodyPost_ret (ret_2 Try.results11 rfl (ld_var row_hub hM.at0 HL.out) rfl) rfl ⟨rfl, hM.below⟩
  have h0 : chk F = 0 := by omega
  have hok := chk_ok hb.len h0
  have HOK : Hid (Ok F) := hok
  rw [h0] at HK
  have HV : Hid (tickV F = tkN F 16) := by show tickV F = _; unfold tickV; rw [if_neg (fun z => z h0)]
  rw [HV.out, h0]
  have HTL : Hid (∀ k, (tkN F k).length = 33) := fun k => by rw [tkN_len, hb.len]
  clear h0 HV hb hok
  generalize hcf : cut F 1 32 = cf at *
  have HCF : Hid (cut F 1 32 = cf) := hcf
  clear hcf
  go_enter Try.func11, Try.ntmps11
  repeat' (first | (go_big_may; first | (refine a_box rfl rfl rfl ?_; intro u zb hN; replace hM := hM.new hN; clear hN) | (refine a_alloc rfl zer_hub rfl ?_; intro u zr hN; replace hM := hM.new hN; clear hN) | (refine a_load rfl rfl row_hub rfl hM.at1 HE.out HC.out ?_)) | go_values | go_skip | go_guarded | go_step | go_upon | (simp only [Int.not_lt, Int.not_le] at *; go_simp))
  refine (HK.out _).mono ?_
  rintro r u ⟨rfl, hv⟩
  replace hM := hM.call hv
  clear hv
  repeat' (first | (go_big_may; first | (refine a_load rfl rfl row_ports rfl hM.at1 HE1.out HCF.out ?_)) | go_values | go_skip | go_guarded | go_step | go_upon | (simp only [Int.not_lt, Int.not_le] at *; go_simp))
  go_loopw [5, 6, 15] (fun _ _ i wr => ∃ k : Nat, k ≤ 16 ∧ i = .int .i64 (k : Int) ∧ Hid (Mm w wr [(zr, 26, List.replicate 33 0), (zb, 26, tkN F k)])) (fun _ _ i _ => 16 - (intOf i).toNat)
  case atStart => exact ⟨0, by omega, rfl, hM⟩
  case round =>
    clear hM HCF HE1
    obtain ⟨k, hk, rfl, HA⟩ := hrel
    have hM := HA.out
    by_cases hlt : ¬ k < 16
    · have hk16 : k = 16 := by omega
      subst hk16
      have HL3 : Hid ((tkN F 16).length = 33) := HTL.out 16
      clear HA HX HTL
      obtain ⟨F2, hF2⟩ : ∃ F2, tkN F 16 = F2 := ⟨_, rfl⟩
      rw [hF2] at HL3 hM
      have HF2 : Hid (tkN F 16 = F2) := hF2
      clear hF2
      have HE2 : Hid (0 + 33 ≤ F2.length) := by show 0 + 33 ≤ _; rw [HL3.out]; omega
      have HC2 : Hid (cut F2 0 33 = F2) := cut_all HL3.out
      repeat' (first | (go_big_may; first | (refine a_load rfl rfl row_hub rfl hM.at1 HE2.out HC2.out ?_) | (refine a_fill rfl rfl row_hub rfl rfl hM.at0 HL3.out rep_33 ?_; intro u hv hc; replace hM := hM.put0 hc hv; clear hv hc)) | go_values | go_skip | go_guarded | go_step | go_upon | (simp only [Int.not_lt, Int.not_le] at *; go_simp))
      exact bodyPost_ret (ret_2 Try.results11 rfl (ld_var row_hub hM.at0 HL3.out) rfl) rfl ⟨by rw [HF2.out]; rfl, hM.below⟩
    have hlt : k < 16 := by omega
    have hix := HX.out k hlt
    have HEP : Hid (1 + k * 2 + 2 ≤ (tkN F k).length) := by show _ ≤ _; rw [HTL.out]; omega
    have HPP : Hid (∀ s c, putL (tkN F k) (1 + k * 2) [s, c] = setP (tkN F k) k s c) := fun s c => putL_port (HTL.out k) hlt s c
    have hst := HOK.out.st hlt
    have hch := HOK.out.ch hlt
    have HT : Hid (tkN F (k + 1) = if sta F k = 273 then setP (tkN F k) k 259 (with' (chg F k) 16) else tkN F k) := rfl
    have h16 := (ch_bits (chB_iff.2 hch)).2.2.1
    clear HA HX HTL hch
    by_cases h273 : sta F k = 273
    · have HT2 : Hid (putL (tkN F k) (1 + k * 2) [259, with' (chg F k) 16] = tkN F (k + 1)) := by show _ = _; rw [HPP.out, HT.out, if_pos h273]
      clear HT HPP hst
      rw [h273] at hix
      clear h273
      generalize with' (chg F k) 16 = c2 at *
      generalize chg F k = c at *
      obtain ⟨G, hG⟩ : ∃ G, tkN F (k + 1) = G := ⟨_, rfl⟩
      rw [hG] at HT2
      have HG : Hid (tkN F (k + 1) = G) := hG
      clear hG
      have hb1 : bits .andNot .i64 273 16 = 257 := by decide
      have hb2 : bits .or .i64 257 2 = 259 := by decide
      have HGS : Hid (([273, c] : List Int)[0]? = some 273) := rfl
      have HGC : Hid (([273, c] : List Int)[1]? = some c) := rfl
      have hbl := bld_P 259 c2
      repeat' (first | (go_big_may; first | (refine a_alloc rfl zer_port rfl ?_; intro u yb hN; replace hM := hM.new hN; clear hN) | (refine a_fill rfl rfl row_port rfl rfl hM.at0 rfl rfl ?_; intro u hv hc; replace hM := hM.put0 hc hv; clear hv hc) | (refine a_get rfl rfl rfl hM.at0 HGS.out ?_) | (refine a_get rfl rfl rfl hM.at0 HGC.out ?_) | (refine a_build rfl rfl hbl (by simp [Act.eval]) ?_) | (refine a_store rfl rfl row_port rfl rfl hM.at2 rfl HEP.out HT2.out ?_; intro u hv hc; replace hM := hM.put2 hc hv; clear hv hc)) | go_values | go_skip | go_guarded | go_step | go_upon | (simp only [Int.not_lt, Int.not_le] at *; go_simp))
      replace hM := hM.tail
      go_roundw
      case rel => exact ⟨k + 1, by omega, by go_num, by rw [HG.out]; exact hM⟩
      case measure => simp [intOf]; omega
    · have HT2 : Hid (tkN F k = tkN F (k + 1)) := by show _ = _; rw [HT.out, if_neg h273]
      rw [HT2.out] at hM
      have e16 : (bits .and .i64 (sta F k) 16 != 0) = false := by
        rcases hst with h | h | h | h | h
        · rw [h]; decide
        · rw [h]; decide
        · rw [h]; decide
        · rw [h]; decide
        · exact absurd h h273
      clear HT HPP hst h273 HT2 HEP
      generalize chg F k = c at *
      generalize sta F k = s at *
      obtain ⟨G, hG⟩ : ∃ G, tkN F (k + 1) = G := ⟨_, rfl⟩
      rw [hG] at hM
      have HG : Hid (tkN F (k + 1) = G) := hG
      clear hG
      have HGS : Hid (([s, c] : List Int)[0]? = some s) := rfl
      repeat' (first | (go_big_may; first | (refine a_alloc rfl zer_port rfl ?_; intro u yb hN; replace hM := hM.new hN; clear hN) | (refine a_fill rfl rfl row_port rfl rfl hM.at0 rfl rfl ?_; intro u hv hc; replace hM := hM.put0 hc hv; clear hv hc) | (refine a_get rfl rfl rfl hM.at0 HGS.out ?_)) | go_values | go_skip | go_guarded | go_step | go_upon | (simp only [Int.not_lt, Int.not_le] at *; go_simp))
      replace hM := hM.tail
      go_roundw
      case rel => exact ⟨k + 1, by omega, by go_num, by rw [HG.out]; exact hM⟩
      case measure => simp [intOf]; omega
end Go.Proofs.Ytdnmjeiljpdmcaa.hub
