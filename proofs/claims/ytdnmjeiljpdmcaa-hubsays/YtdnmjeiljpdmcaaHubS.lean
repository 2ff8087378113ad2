/- plugref's hub: what PortDone and HubControl answer. -/
import Derived.Test.YtdnmjeiljpdmcaaHubR
import Derived.Test.YtdnmjeiljpdmcaaHubH
import Derived.Test.YtdnmjeiljpdmcaaSetT
namespace Go.Proofs.Ytdnmjeiljpdmcaa.hub
open Go Go.RowKit
open Go.Proofs.Ytdnmjeiljpdmcaa.slots (cl cl_at cl_set cl_ext allF allF_step allF_end allF_iff anyF)
open Go.PlainAid
open Go.Proofs.Ytdnmjeiljpdmcaa.lane (str_append str_size)
open Go.Proofs.Ytdnmjeiljpdmcaa.setup (rK rN rC rC_zero rC_bad wrd)
set_option linter.unusedVariables false
set_option linter.unusedSimpArgs false
set_option maxRecDepth 100000

set_option maxHeartbeats 8000000 in
theorem portDone_any (s c v : Int) (on : Bool) (w : World) (hs : stB s = true) (hc : chB c = true) : Calls Try.prog 35 #[ag [s, c], .bool on, .int .i64 v] w fun e w' => e = .returned (.tuple #[ag [dnS on v s, dnC on v c], .int .i64 (dnE on v s)]) ∧ Below w.heap.size w w' := by
  have HS : Hid (([s, c] : List Int)[0]? = some s) := rfl
  have HC : Hid (([s, c] : List Int)[1]? = some c) := rfl
  have hM := Mm.nil w
  have hst := stB_iff.1 hs
  cases on
  · by_cases h1 : v = 1
    · subst h1
      rcases hst with rfl | rfl | rfl | rfl | rfl
      all_goals
        clear hs hc
        go_enter Try.func35, Try.ntmps35
        repeat' (first | (go_big_may; first | (refine a_box rfl rfl rfl ?_; intro u zb hN; replace hM := hM.new hN; clear hN) | (refine a_alloc rfl zer_port rfl ?_; intro u zb hN; replace hM := hM.new hN; clear hN) | (refine a_get rfl rfl rfl hM.at1 HS.out ?_) | (refine a_get rfl rfl rfl hM.at1 HC.out ?_) | (refine a_put rfl rfl rfl rfl hM.at1 (by simp) ?_; intro u hv hc; replace hM := hM.put1 hc hv; clear hv hc) | (refine a_load rfl rfl row_port rfl hM.at1 (by simp) (cut2 _ _) ?_) | (refine a_fill rfl rfl row_port rfl rfl hM.at0 rfl rfl ?_; intro u hv hc; replace hM := hM.put0 hc hv; clear hv hc)) | go_values | go_skip | go_guarded | go_step | go_upon | (simp only [Int.not_lt, Int.not_le] at *; go_simp))
        exact bodyPost_ret (ret_2 Try.results35 rfl (ld_var row_port hM.at0 rfl) rfl) rfl ⟨rfl, hM.below⟩
    clear hst hs
    by_cases h8 : v = 8
    · subst h8
      clear hc
      go_enter Try.func35, Try.ntmps35
      repeat' (first | (go_big_may; first | (refine a_box rfl rfl rfl ?_; intro u zb hN; replace hM := hM.new hN; clear hN) | (refine a_alloc rfl zer_port rfl ?_; intro u zb hN; replace hM := hM.new hN; clear hN) | (refine a_get rfl rfl rfl hM.at1 HS.out ?_) | (refine a_get rfl rfl rfl hM.at1 HC.out ?_) | (refine a_put rfl rfl rfl rfl hM.at1 (by simp) ?_; intro u hv hc; replace hM := hM.put1 hc hv; clear hv hc) | (refine a_load rfl rfl row_port rfl hM.at1 (by simp) (cut2 _ _) ?_) | (refine a_fill rfl rfl row_port rfl rfl hM.at0 rfl rfl ?_; intro u hv hc; replace hM := hM.put0 hc hv; clear hv hc)) | go_values | go_skip | go_guarded | go_step | go_upon | (simp only [Int.not_lt, Int.not_le] at *; go_simp))
      exact bodyPost_ret (ret_2 Try.results35 rfl (ld_var row_port hM.at0 rfl) rfl) rfl ⟨rfl, hM.below⟩
    by_cases h16 : v = 16
    · subst h16
      have HV : Hid (dnS false 16 s = s ∧ dnC false 16 c = less c 1 ∧ dnE false 16 s = 0) := ⟨rfl, rfl, rfl⟩
      rw [HV.out.1, HV.out.2.1, HV.out.2.2]
      have HW : Hid (∀ u, Calls Try.prog 41 #[.int .i64 c, .int .i64 1] u fun e w' => e = .returned (.int .i64 (less c 1)) ∧ u = w') := fun u => without_any c 1 u hc (.inl rfl)
      clear HV hc
      generalize less c 1 = c1 at *
      go_enter Try.func35, Try.ntmps35
      repeat' (first | (go_big_may; first | (refine a_box rfl rfl rfl ?_; intro u zb hN; replace hM := hM.new hN; clear hN) | (refine a_alloc rfl zer_port rfl ?_; intro u zb hN; replace hM := hM.new hN; clear hN) | (refine a_get rfl rfl rfl hM.at1 HC.out ?_)) | go_values | go_skip | go_guarded | go_step | go_upon | (simp only [Int.not_lt, Int.not_le] at *; go_simp))
      refine (HW.out _).mono ?_
      rintro r u ⟨rfl, rfl⟩
      repeat' (first | (go_big_may; first | (refine a_put rfl rfl rfl rfl hM.at1 (by simp) ?_; intro u hv hc; replace hM := hM.put1 hc hv; clear hv hc) | (refine a_load rfl rfl row_port rfl hM.at1 (by simp) (cut2 _ _) ?_) | (refine a_fill rfl rfl row_port rfl rfl hM.at0 rfl rfl ?_; intro u hv hc; replace hM := hM.put0 hc hv; clear hv hc)) | go_values | go_skip | go_guarded | go_step | go_upon | (simp only [Int.not_lt, Int.not_le] at *; go_simp))
      exact bodyPost_ret (ret_2 Try.results35 rfl (ld_var row_port hM.at0 rfl) rfl) rfl ⟨rfl, hM.below⟩
    by_cases h17 : v = 17
    · subst h17
      have HV : Hid (dnS false 17 s = s ∧ dnC false 17 c = less c 2 ∧ dnE false 17 s = 0) := ⟨rfl, rfl, rfl⟩
      rw [HV.out.1, HV.out.2.1, HV.out.2.2]
      have HW : Hid (∀ u, Calls Try.prog 41 #[.int .i64 c, .int .i64 2] u fun e w' => e = .returned (.int .i64 (less c 2)) ∧ u = w') := fun u => without_any c 2 u hc (.inr (.inl rfl))
      clear HV hc
      generalize less c 2 = c1 at *
      go_enter Try.func35, Try.ntmps35
      repeat' (first | (go_big_may; first | (refine a_box rfl rfl rfl ?_; intro u zb hN; replace hM := hM.new hN; clear hN) | (refine a_alloc rfl zer_port rfl ?_; intro u zb hN; replace hM := hM.new hN; clear hN) | (refine a_get rfl rfl rfl hM.at1 HC.out ?_)) | go_values | go_skip | go_guarded | go_step | go_upon | (simp only [Int.not_lt, Int.not_le] at *; go_simp))
      refine (HW.out _).mono ?_
      rintro r u ⟨rfl, rfl⟩
      repeat' (first | (go_big_may; first | (refine a_put rfl rfl rfl rfl hM.at1 (by simp) ?_; intro u hv hc; replace hM := hM.put1 hc hv; clear hv hc) | (refine a_load rfl rfl row_port rfl hM.at1 (by simp) (cut2 _ _) ?_) | (refine a_fill rfl rfl row_port rfl rfl hM.at0 rfl rfl ?_; intro u hv hc; replace hM := hM.put0 hc hv; clear hv hc)) | go_values | go_skip | go_guarded | go_step | go_upon | (simp only [Int.not_lt, Int.not_le] at *; go_simp))
      exact bodyPost_ret (ret_2 Try.results35 rfl (ld_var row_port hM.at0 rfl) rfl) rfl ⟨rfl, hM.below⟩
    by_cases h20 : v = 20
    · subst h20
      have HV : Hid (dnS false 20 s = s ∧ dnC false 20 c = less c 16 ∧ dnE false 20 s = 0) := ⟨rfl, rfl, rfl⟩
      rw [HV.out.1, HV.out.2.1, HV.out.2.2]
      have HW : Hid (∀ u, Calls Try.prog 41 #[.int .i64 c, .int .i64 16] u fun e w' => e = .returned (.int .i64 (less c 16)) ∧ u = w') := fun u => without_any c 16 u hc (.inr (.inr rfl))
      clear HV hc
      generalize less c 16 = c1 at *
      go_enter Try.func35, Try.ntmps35
      repeat' (first | (go_big_may; first | (refine a_box rfl rfl rfl ?_; intro u zb hN; replace hM := hM.new hN; clear hN) | (refine a_alloc rfl zer_port rfl ?_; intro u zb hN; replace hM := hM.new hN; clear hN) | (refine a_get rfl rfl rfl hM.at1 HC.out ?_)) | go_values | go_skip | go_guarded | go_step | go_upon | (simp only [Int.not_lt, Int.not_le] at *; go_simp))
      refine (HW.out _).mono ?_
      rintro r u ⟨rfl, rfl⟩
      repeat' (first | (go_big_may; first | (refine a_put rfl rfl rfl rfl hM.at1 (by simp) ?_; intro u hv hc; replace hM := hM.put1 hc hv; clear hv hc) | (refine a_load rfl rfl row_port rfl hM.at1 (by simp) (cut2 _ _) ?_) | (refine a_fill rfl rfl row_port rfl rfl hM.at0 rfl rfl ?_; intro u hv hc; replace hM := hM.put0 hc hv; clear hv hc)) | go_values | go_skip | go_guarded | go_step | go_upon | (simp only [Int.not_lt, Int.not_le] at *; go_simp))
      exact bodyPost_ret (ret_2 Try.results35 rfl (ld_var row_port hM.at0 rfl) rfl) rfl ⟨rfl, hM.below⟩
    have HV : Hid (dnS false v s = s ∧ dnC false v c = c ∧ dnE false v s = 8) := by
      refine ⟨?_, ?_, ?_⟩
      · unfold dnS; rw [if_neg (by decide), if_neg h8, if_neg (fun q => h1 q.1)]
      · unfold dnC; rw [if_neg (by decide), if_neg h16, if_neg h17, if_neg h20]
      · unfold dnE; rw [if_neg (by decide), if_neg (by omega)]
    rw [HV.out.1, HV.out.2.1, HV.out.2.2]
    have e1 : (v == 1) = false := by simpa using h1
    have e8 : (v == 8) = false := by simpa using h8
    have e16 : (v == 16) = false := by simpa using h16
    have e17 : (v == 17) = false := by simpa using h17
    have e20 : (v == 20) = false := by simpa using h20
    clear HV h1 h8 h16 h17 h20 hc
    go_enter Try.func35, Try.ntmps35
    repeat' (first | (go_big_may; first | (refine a_box rfl rfl rfl ?_; intro u zb hN; replace hM := hM.new hN; clear hN) | (refine a_alloc rfl zer_port rfl ?_; intro u zb hN; replace hM := hM.new hN; clear hN) | (refine a_get rfl rfl rfl hM.at1 HS.out ?_) | (refine a_get rfl rfl rfl hM.at1 HC.out ?_) | (refine a_put rfl rfl rfl rfl hM.at1 (by simp) ?_; intro u hv hc; replace hM := hM.put1 hc hv; clear hv hc) | (refine a_load rfl rfl row_port rfl hM.at1 (by simp) (cut2 _ _) ?_) | (refine a_fill rfl rfl row_port rfl rfl hM.at0 rfl rfl ?_; intro u hv hc; replace hM := hM.put0 hc hv; clear hv hc)) | go_values | go_skip | go_guarded | go_step | go_upon | (simp only [Int.not_lt, Int.not_le] at *; go_simp))
    exact bodyPost_ret (ret_2 Try.results35 rfl (ld_var row_port hM.at0 rfl) rfl) rfl ⟨rfl, hM.below⟩
  · by_cases h8 : v = 8
    · subst h8
      rcases hst with rfl | rfl | rfl | rfl | rfl
      all_goals
        clear hs hc
        go_enter Try.func35, Try.ntmps35
        repeat' (first | (go_big_may; first | (refine a_box rfl rfl rfl ?_; intro u zb hN; replace hM := hM.new hN; clear hN) | (refine a_alloc rfl zer_port rfl ?_; intro u zb hN; replace hM := hM.new hN; clear hN) | (refine a_get rfl rfl rfl hM.at1 HS.out ?_) | (refine a_get rfl rfl rfl hM.at1 HC.out ?_) | (refine a_put rfl rfl rfl rfl hM.at1 (by simp) ?_; intro u hv hc; replace hM := hM.put1 hc hv; clear hv hc) | (refine a_load rfl rfl row_port rfl hM.at1 (by simp) (cut2 _ _) ?_) | (refine a_fill rfl rfl row_port rfl rfl hM.at0 rfl rfl ?_; intro u hv hc; replace hM := hM.put0 hc hv; clear hv hc)) | go_values | go_skip | go_guarded | go_step | go_upon | (simp only [Int.not_lt, Int.not_le] at *; go_simp))
        exact bodyPost_ret (ret_2 Try.results35 rfl (ld_var row_port hM.at0 rfl) rfl) rfl ⟨rfl, hM.below⟩
    have e8 : (v == 8) = false := by simpa using h8
    by_cases h4 : v = 4
    · subst h4
      clear e8 h8
      rcases hst with rfl | rfl | rfl | rfl | rfl
      all_goals
        clear hs hc
        go_enter Try.func35, Try.ntmps35
        repeat' (first | (go_big_may; first | (refine a_box rfl rfl rfl ?_; intro u zb hN; replace hM := hM.new hN; clear hN) | (refine a_alloc rfl zer_port rfl ?_; intro u zb hN; replace hM := hM.new hN; clear hN) | (refine a_get rfl rfl rfl hM.at1 HS.out ?_) | (refine a_get rfl rfl rfl hM.at1 HC.out ?_) | (refine a_put rfl rfl rfl rfl hM.at1 (by simp) ?_; intro u hv hc; replace hM := hM.put1 hc hv; clear hv hc) | (refine a_load rfl rfl row_port rfl hM.at1 (by simp) (cut2 _ _) ?_) | (refine a_fill rfl rfl row_port rfl rfl hM.at0 rfl rfl ?_; intro u hv hc; replace hM := hM.put0 hc hv; clear hv hc)) | go_values | go_skip | go_guarded | go_step | go_upon | (simp only [Int.not_lt, Int.not_le] at *; go_simp))
        exact bodyPost_ret (ret_2 Try.results35 rfl (ld_var row_port hM.at0 rfl) rfl) rfl ⟨rfl, hM.below⟩
    have e4 : (v == 4) = false := by simpa using h4
    have HV : Hid (dnS true v s = s ∧ dnC true v c = c ∧ dnE true v s = 8) := by
      refine ⟨?_, ?_, ?_⟩
      · unfold dnS; rw [if_pos rfl, if_neg h8, if_neg (fun q => h4 q.1)]
      · unfold dnC; rw [if_pos rfl]
      · unfold dnE; rw [if_pos rfl, if_neg h8, if_neg (fun q => h4 q.1)]
    rw [HV.out.1, HV.out.2.1, HV.out.2.2]
    clear HV h8 h4 hst hs hc
    go_enter Try.func35, Try.ntmps35
    repeat' (first | (go_big_may; first | (refine a_box rfl rfl rfl ?_; intro u zb hN; replace hM := hM.new hN; clear hN) | (refine a_alloc rfl zer_port rfl ?_; intro u zb hN; replace hM := hM.new hN; clear hN) | (refine a_get rfl rfl rfl hM.at1 HS.out ?_) | (refine a_get rfl rfl rfl hM.at1 HC.out ?_) | (refine a_put rfl rfl rfl rfl hM.at1 (by simp) ?_; intro u hv hc; replace hM := hM.put1 hc hv; clear hv hc) | (refine a_load rfl rfl row_port rfl hM.at1 (by simp) (cut2 _ _) ?_) | (refine a_fill rfl rfl row_port rfl rfl hM.at0 rfl rfl ?_; intro u hv hc; replace hM := hM.put0 hc hv; clear hv hc)) | go_values | go_skip | go_guarded | go_step | go_upon | (simp only [Int.not_lt, Int.not_le] at *; go_simp))
    exact bodyPost_ret (ret_2 Try.results35 rfl (ld_var row_port hM.at0 rfl) rfl) rfl ⟨rfl, hM.below⟩
set_option maxHeartbeats 8000000 in
theorem rcontrol_any (F : List Int) (t : ByteArray) (w : World) (hb : Hb F) (ht : t.size ≤ maxLen) : Calls Try.prog 16 #[ag F, .string t] w fun e w' => e = .returned (.tuple #[ag (ctlV F (qs t)), .string (ctS F t), .int .i64 (ctlE F (qs t))]) ∧ Below w.heap.size w w' := by
  have HL : Hid (F.length = 33) := hb.len
  have HC : Hid (cut F 0 33 = F) := cut_all hb.len
  have HE : Hid (0 + 33 ≤ F.length) := by show 0 + 33 ≤ _; rw [hb.len]; omega
  have HF0 : Hid (F[0]? = some (cn F)) := cl_at (by rw [hb.len]; omega)
  have HK : Hid (∀ u, Calls Try.prog 14 #[ag F] u fun e w' => e = .returned (.int .i64 (chk F)) ∧ Below u.heap.size u w') := fun u => rhub_any F u hb
  have HRd : Hid (∀ u : World, Calls Try.prog 33 #[.string t] u fun e w' => e = .returned (.tuple #[ag [rK t, rN t 2, rN t 4, rN t 6], .int .i64 (rC t)]) ∧ Below u.heap.size u w') := setup.readAsk_any t ht
  have HB : Hid (∀ u, Calls Try.prog 24 #[.int .i64 (rK t), .int .i64 8, .int .i64 10] u fun e w' => e = .returned (.bool (decide (8 ≤ rK t) && decide (rK t ≤ 10))) ∧ u = w') := fun u => between_any _ _ _ u
  have HG0 : Hid (([rK t, rN t 2, rN t 4, rN t 6] : List Int)[0]? = some (rK t)) := rfl
  have HG1 : Hid (([rK t, rN t 2, rN t 4, rN t 6] : List Int)[1]? = some (rN t 2)) := rfl
  have HG2 : Hid (([rK t, rN t 2, rN t 4, rN t 6] : List Int)[2]? = some (rN t 4)) := rfl
  have hM := Mm.nil w
  by_cases h0 : ¬ chk F = 0
  · have HV : Hid (ctlV F (qs t) = F ∧ ctS F t = ⟨#[]⟩ ∧ ctlE F (qs t) = chk F) := by
      have he : askE F (qs t) = chk F := by unfold askE; rw [if_pos h0]
      refine ⟨?_, ?_, ?_⟩
      · unfold ctlV; rw [if_pos (.inl (by rw [he]; exact h0))]
      · unfold ctS ctlT; rw [if_pos (.inl (by rw [he]; exact h0))]; rfl
      · unfold ctlE; rw [if_pos (by rw [he]; exact h0), he]
    rw [HV.out.1, HV.out.2.1, HV.out.2.2]
    have e0 : (chk F != 0) = true := by simpa using h0
    clear h0 HV hb HRd HB HG0 HG1 HG2 HF0
    generalize chk F = z at *
    go_enter Try.func16, Try.ntmps16
    repeat' (first | (go_big_may; first | (refine a_box rfl rfl rfl ?_; intro u zh hN; replace hM := hM.new hN; clear hN) | (refine a_alloc rfl zer_hub rfl ?_; intro u zr hN; replace hM := hM.new hN; clear hN) | (refine a_load rfl rfl row_hub rfl hM.at1 HE.out HC.out ?_)) | go_values | go_skip | go_guarded | go_step | go_upon | (simp only [Int.not_lt, Int.not_le] at *; go_simp))
    refine (HK.out _).mono ?_
    rintro r u ⟨rfl, hv⟩
    replace hM := hM.call hv
    clear hv
    repeat' (first | (go_big_may; first | (refine a_load rfl rfl row_hub rfl hM.at1 HE.out HC.out ?_) | (refine a_fill rfl rfl row_hub rfl rfl hM.at0 HL.out rep_33 ?_; intro u hv hc; replace hM := hM.put0 hc hv; clear hv hc)) | go_values | go_skip | go_guarded | go_step | go_upon | (simp only [Int.not_lt, Int.not_le] at *; go_simp))
    exact bodyPost_ret (ret_3 Try.results16 rfl (ld_var row_hub hM.at0 HL.out) rfl rfl) rfl ⟨rfl, hM.below⟩
  have h0 : chk F = 0 := by omega
  have hok := chk_ok hb.len h0
  rw [h0] at HK
  by_cases h1 : ¬ rC t = 0
  · have HV : Hid (ctlV F (qs t) = F ∧ ctS F t = ⟨#[]⟩ ∧ ctlE F (qs t) = 8) := by
      have he : askE F (qs t) = 8 := by unfold askE; rw [if_neg (fun z => z h0), if_pos (show (qs t).c ≠ 0 from h1)]
      refine ⟨?_, ?_, ?_⟩
      · unfold ctlV; rw [if_pos (.inl (by rw [he]; decide))]
      · unfold ctS ctlT; rw [if_pos (.inl (by rw [he]; decide))]; rfl
      · unfold ctlE; rw [if_pos (by rw [he]; decide), he]
    rw [HV.out.1, HV.out.2.1, HV.out.2.2]
    have e1 : (rC t != 0) = true := by simpa using h1
    clear h0 h1 HV hb hok HB HG0 HG1 HG2 HF0
    generalize rC t = z at *
    generalize rK t = k at *
    generalize rN t 2 = v at *
    generalize rN t 4 = i at *
    generalize rN t 6 = l at *
    generalize cn F = m at *
    go_enter Try.func16, Try.ntmps16
    repeat' (first | (go_big_may; first | (refine a_box rfl rfl rfl ?_; intro u zh hN; replace hM := hM.new hN; clear hN) | (refine a_alloc rfl zer_hub rfl ?_; intro u zr hN; replace hM := hM.new hN; clear hN) | (refine a_load rfl rfl row_hub rfl hM.at1 HE.out HC.out ?_)) | go_values | go_skip | go_guarded | go_step | go_upon | (simp only [Int.not_lt, Int.not_le] at *; go_simp))
    refine (HK.out _).mono ?_
    rintro r u ⟨rfl, hv⟩
    replace hM := hM.call hv
    clear hv
    repeat' (first | go_values | go_skip | go_guarded | go_step | go_upon | (simp only [Int.not_lt, Int.not_le] at *; go_simp))
    refine (HRd.out _).mono ?_
    rintro r u ⟨rfl, hv⟩
    replace hM := hM.call hv
    clear hv
    repeat' (first | (go_big_may; first | (refine a_alloc rfl zer_ask rfl ?_; intro u za hN; replace hM := hM.new hN; clear hN) | (refine a_fill rfl rfl row_ask rfl rfl hM.at0 rfl (List.length_replicate (n := 4)) ?_; intro u hv hc; replace hM := hM.put0 hc hv; clear hv hc) | (refine a_load rfl rfl row_hub rfl hM.at2 HE.out HC.out ?_) | (refine a_fill rfl rfl row_hub rfl rfl hM.at1 HL.out rep_33 ?_; intro u hv hc; replace hM := hM.put1 hc hv; clear hv hc)) | go_values | go_skip | go_guarded | go_step | go_upon | (simp only [Int.not_lt, Int.not_le] at *; go_simp))
    exact bodyPost_ret (ret_3 Try.results16 rfl (ld_var row_hub hM.at1 HL.out) rfl rfl) rfl ⟨rfl, hM.below⟩
  have h1 : rC t = 0 := by omega
  rw [h1] at HRd
  by_cases h2 : ¬ (8 ≤ rK t ∧ rK t ≤ 10)
  · have HV : Hid (ctlV F (qs t) = F ∧ ctS F t = ⟨#[]⟩ ∧ ctlE F (qs t) = 12) := by
      have he : askE F (qs t) = 12 := by unfold askE; rw [if_neg (fun z => z h0), if_neg (fun z => z h1), if_pos (show ¬ (8 ≤ (qs t).k ∧ (qs t).k ≤ 10) from h2)]
      refine ⟨?_, ?_, ?_⟩
      · unfold ctlV; rw [if_pos (.inl (by rw [he]; decide))]
      · unfold ctS ctlT; rw [if_pos (.inl (by rw [he]; decide))]; rfl
      · unfold ctlE; rw [if_pos (by rw [he]; decide), he]
    rw [HV.out.1, HV.out.2.1, HV.out.2.2]
    have e2 : (decide (8 ≤ rK t) && decide (rK t ≤ 10)) = false := by simp; omega
    rw [e2] at HB
    clear h0 h1 h2 e2 HV hb hok HG1 HG2 HF0
    generalize rK t = k at *
    generalize rN t 2 = v at *
    generalize rN t 4 = i at *
    generalize rN t 6 = l at *
    generalize cn F = m at *
    go_enter Try.func16, Try.ntmps16
    repeat' (first | (go_big_may; first | (refine a_box rfl rfl rfl ?_; intro u zh hN; replace hM := hM.new hN; clear hN) | (refine a_alloc rfl zer_hub rfl ?_; intro u zr hN; replace hM := hM.new hN; clear hN) | (refine a_load rfl rfl row_hub rfl hM.at1 HE.out HC.out ?_)) | go_values | go_skip | go_guarded | go_step | go_upon | (simp only [Int.not_lt, Int.not_le] at *; go_simp))
    refine (HK.out _).mono ?_
    rintro r u ⟨rfl, hv⟩
    replace hM := hM.call hv
    clear hv
    repeat' (first | go_values | go_skip | go_guarded | go_step | go_upon | (simp only [Int.not_lt, Int.not_le] at *; go_simp))
    refine (HRd.out _).mono ?_
    rintro r u ⟨rfl, hv⟩
    replace hM := hM.call hv
    clear hv
    repeat' (first | (go_big_may; first | (refine a_alloc rfl zer_ask rfl ?_; intro u za hN; replace hM := hM.new hN; clear hN) | (refine a_fill rfl rfl row_ask rfl rfl hM.at0 rfl (List.length_replicate (n := 4)) ?_; intro u hv hc; replace hM := hM.put0 hc hv; clear hv hc) | (refine a_get rfl rfl rfl hM.at0 HG0.out ?_)) | go_values | go_skip | go_guarded | go_step | go_upon | (simp only [Int.not_lt, Int.not_le] at *; go_simp))
    refine (HB.out _).mono ?_
    rintro r u ⟨rfl, rfl⟩
    repeat' (first | (go_big_may; first | (refine a_load rfl rfl row_hub rfl hM.at2 HE.out HC.out ?_) | (refine a_fill rfl rfl row_hub rfl rfl hM.at1 HL.out rep_33 ?_; intro u hv hc; replace hM := hM.put1 hc hv; clear hv hc)) | go_values | go_skip | go_guarded | go_step | go_upon | (simp only [Int.not_lt, Int.not_le] at *; go_simp))
    exact bodyPost_ret (ret_3 Try.results16 rfl (ld_var row_hub hM.at1 HL.out) rfl rfl) rfl ⟨rfl, hM.below⟩
  have h2 : 8 ≤ rK t ∧ rK t ≤ 10 := by omega
  have e2 : (decide (8 ≤ rK t) && decide (rK t ≤ 10)) = true := by simp; omega
  rw [e2] at HB
  clear e2
  by_cases h3 : cn F < rN t 4
  · have HV : Hid (ctlV F (qs t) = F ∧ ctS F t = ⟨#[]⟩ ∧ ctlE F (qs t) = 8) := by
      have he : askE F (qs t) = 8 := by unfold askE; rw [if_neg (fun z => z h0), if_neg (fun z => z h1), if_neg (fun z => z h2), if_pos (show cn F < (qs t).i from h3)]
      refine ⟨?_, ?_, ?_⟩
      · unfold ctlV; rw [if_pos (.inl (by rw [he]; decide))]
      · unfold ctS ctlT; rw [if_pos (.inl (by rw [he]; decide))]; rfl
      · unfold ctlE; rw [if_pos (by rw [he]; decide), he]
    rw [HV.out.1, HV.out.2.1, HV.out.2.2]
    clear h0 h1 h2 HV hb hok
    generalize rK t = k at *
    generalize rN t 2 = v at *
    generalize rN t 4 = i at *
    generalize rN t 6 = l at *
    generalize cn F = m at *
    go_enter Try.func16, Try.ntmps16
    repeat' (first | (go_big_may; first | (refine a_box rfl rfl rfl ?_; intro u zh hN; replace hM := hM.new hN; clear hN) | (refine a_alloc rfl zer_hub rfl ?_; intro u zr hN; replace hM := hM.new hN; clear hN) | (refine a_load rfl rfl row_hub rfl hM.at1 HE.out HC.out ?_)) | go_values | go_skip | go_guarded | go_step | go_upon | (simp only [Int.not_lt, Int.not_le] at *; go_simp))
    refine (HK.out _).mono ?_
    rintro r u ⟨rfl, hv⟩
    replace hM := hM.call hv
    clear hv
    repeat' (first | go_values | go_skip | go_guarded | go_step | go_upon | (simp only [Int.not_lt, Int.not_le] at *; go_simp))
    refine (HRd.out _).mono ?_
    rintro r u ⟨rfl, hv⟩
    replace hM := hM.call hv
    clear hv
    repeat' (first | (go_big_may; first | (refine a_alloc rfl zer_ask rfl ?_; intro u za hN; replace hM := hM.new hN; clear hN) | (refine a_fill rfl rfl row_ask rfl rfl hM.at0 rfl (List.length_replicate (n := 4)) ?_; intro u hv hc; replace hM := hM.put0 hc hv; clear hv hc) | (refine a_get rfl rfl rfl hM.at0 HG0.out ?_)) | go_values | go_skip | go_guarded | go_step | go_upon | (simp only [Int.not_lt, Int.not_le] at *; go_simp))
    refine (HB.out _).mono ?_
    rintro r u ⟨rfl, rfl⟩
    repeat' (first | (go_big_may; first | (refine a_get rfl rfl rfl hM.at0 HG2.out ?_) | (refine a_get rfl rfl rfl hM.at2 HF0.out ?_) | (refine a_load rfl rfl row_hub rfl hM.at2 HE.out HC.out ?_) | (refine a_fill rfl rfl row_hub rfl rfl hM.at1 HL.out rep_33 ?_; intro u hv hc; replace hM := hM.put1 hc hv; clear hv hc)) | go_values | go_skip | go_guarded | go_step | go_upon | (simp only [Int.not_lt, Int.not_le] at *; go_simp))
    exact bodyPost_ret (ret_3 Try.results16 rfl (ld_var row_hub hM.at1 HL.out) rfl rfl) rfl ⟨rfl, hM.below⟩
  have he : askE F (qs t) = 0 := by unfold askE; rw [if_neg (fun z => z h0), if_neg (fun z => z h1), if_neg (fun z => z h2), if_neg (show ¬ cn F < (qs t).i from h3)]
  obtain ⟨i, hi1, hi2, hi, hp, _, hc, hk1, hk2⟩ := ctl_port hb.len he
  have hrg := rgt_iff.1 (hok.rgt hi2)
  have htn : (rN t 4).toNat = i := by omega
  have qi : (qs t).i.toNat = i := htn
  rw [hi] at HRd HG2 h3
  replace HG0 : Hid (([rK t, rN t 2, (i : Int), rN t 6] : List Int)[0]? = some (rK t)) := rfl
  replace HG1 : Hid (([rK t, rN t 2, (i : Int), rN t 6] : List Int)[1]? = some (rN t 2)) := rfl
  have HEP : Hid (1 + i * 2 + 2 ≤ F.length) := by show _ ≤ _; rw [hb.len]; omega
  have HCP : Hid (cut F (1 + i * 2) 2 = [sta F i, chg F i]) := cut_port hb.len hi2
  have HGS : Hid (([sta F i, chg F i] : List Int)[0]? = some (sta F i)) := rfl
  have HGC : Hid (([sta F i, chg F i] : List Int)[1]? = some (chg F i)) := rfl
  by_cases h8 : rK t = 8
  · have HV : Hid (ctlV F (qs t) = F ∧ ctS F t = strOfNums (wrd (sta F i)) ++ strOfNums (wrd (chg F i)) ∧ ctlE F (qs t) = 0) := by
      refine ⟨?_, ?_, ?_⟩
      · unfold ctlV; rw [if_pos (.inr h8)]
      · unfold ctS ctlT; rw [if_neg (by rintro (q | q); exact q he; exact q h8), qi, ← str_append]; rfl
      · unfold ctlE; rw [if_neg (fun z => z he), if_pos (show (qs t).k = 8 from h8)]
    rw [HV.out.1, HV.out.2.1, HV.out.2.2]
    have hs := stB_iff.1 hrg.1
    have hcg := chB_iff.1 hrg.2
    have HT1 : Hid (∀ u : World, Calls Try.prog 34 #[.int .i64 (sta F i)] u fun e w' => e = .returned (.string (strOfNums (wrd (sta F i)))) ∧ Below u.heap.size u w') := fun u => setup.twoBytes_any _ (by omega) (by omega) u
    have HT2 : Hid (∀ u : World, Calls Try.prog 34 #[.int .i64 (chg F i)] u fun e w' => e = .returned (.string (strOfNums (wrd (chg F i)))) ∧ Below u.heap.size u w') := fun u => setup.twoBytes_any _ (by omega) (by omega) u
    have hz1 : (strOfNums (wrd (sta F i))).size = 2 := by rw [str_size]; rfl
    have hz2 : (strOfNums (wrd (chg F i))).size = 2 := by rw [str_size]; rfl
    rw [h8] at HRd HG0 HB
    clear h0 h1 h2 he HV hb hok hc hrg hs hcg hk1 hk2 hp hi qi htn hi1 h8
    generalize strOfNums (wrd (sta F i)) = T1 at *
    generalize strOfNums (wrd (chg F i)) = T2 at *
    generalize rK t = k at *
    generalize rN t 2 = v at *
    generalize rN t 6 = l at *
    generalize cn F = m at *
    generalize sta F i = s at *
    generalize chg F i = c at *
    go_enter Try.func16, Try.ntmps16
    repeat' (first | (go_big_may; first | (refine a_box rfl rfl rfl ?_; intro u zh hN; replace hM := hM.new hN; clear hN) | (refine a_alloc rfl zer_hub rfl ?_; intro u zr hN; replace hM := hM.new hN; clear hN) | (refine a_load rfl rfl row_hub rfl hM.at1 HE.out HC.out ?_)) | go_values | go_skip | go_guarded | go_step | go_upon | (simp only [Int.not_lt, Int.not_le] at *; go_simp))
    refine (HK.out _).mono ?_
    rintro r u ⟨rfl, hv⟩
    replace hM := hM.call hv
    clear hv
    repeat' (first | go_values | go_skip | go_guarded | go_step | go_upon | (simp only [Int.not_lt, Int.not_le] at *; go_simp))
    refine (HRd.out _).mono ?_
    rintro r u ⟨rfl, hv⟩
    replace hM := hM.call hv
    clear hv
    repeat' (first | (go_big_may; first | (refine a_alloc rfl zer_ask rfl ?_; intro u za hN; replace hM := hM.new hN; clear hN) | (refine a_fill rfl rfl row_ask rfl rfl hM.at0 rfl (List.length_replicate (n := 4)) ?_; intro u hv hc; replace hM := hM.put0 hc hv; clear hv hc) | (refine a_get rfl rfl rfl hM.at0 HG0.out ?_)) | go_values | go_skip | go_guarded | go_step | go_upon | (simp only [Int.not_lt, Int.not_le] at *; go_simp))
    refine (HB.out _).mono ?_
    rintro r u ⟨rfl, rfl⟩
    repeat' (first | (go_big_may; first | (refine a_get rfl rfl rfl hM.at0 HG2.out ?_) | (refine a_get rfl rfl rfl hM.at2 HF0.out ?_) | (refine a_load rfl rfl row_port rfl hM.at2 HEP.out HCP.out ?_) | (refine a_alloc rfl zer_port rfl ?_; intro u zp hN; replace hM := hM.new hN; clear hN) | (refine a_fill rfl rfl row_port rfl rfl hM.at0 rfl (List.length_replicate (n := 2)) ?_; intro u hv hc; replace hM := hM.put0 hc hv; clear hv hc) | (refine a_get rfl rfl rfl hM.at1 HG0.out ?_)) | go_values | go_skip | go_guarded | go_step | go_upon | (simp only [Int.not_lt, Int.not_le] at *; go_simp))
    go_simp
    refine reg.wp_abs (fun a0 => a0.tmps.size = 72 ∧ (∀ h, a0.tmps[2]'h = .pointer (some ⟨zh, 0, none⟩)) ∧ (∀ h, a0.tmps[4]'h = .pointer (some ⟨zr, 0, none⟩)) ∧ (∀ h, a0.tmps[10]'h = .pointer (some ⟨zp, 0, none⟩))) ⟨rfl, fun _ => rfl, fun _ => rfl, fun _ => rfl⟩ ?_
    rintro a0 ⟨hsz, s2, s4, s10⟩ ha0
    refine reg.wp_region_E (S := fun W => Ls W [(zp, 23, [s,c]), (zh, 26, F)]) (E := fun _ => false) (by kernel_rfl) ?_
    replace hM := hM.drew
    refine reg.e_take (i := 0) (ag F) rfl (by kernel_rfl) (by kernel_rfl) (by kernel_rfl) (by kernel_rfl) (fun _ _ _ h => h) (reg.wanted_none rfl) (hM.ls (by simp)) (fun W hW => ex_load rfl row_hub (by simp [go_sem, Act.put, hsz, s2, s4, s10]) hW.at1 HE.out HC.out) ?_
    refine reg.e_take (i := 1) (.pointer (some ⟨zp, 0, none⟩)) rfl (by kernel_rfl) (by kernel_rfl) (by kernel_rfl) (by kernel_rfl) (fun _ _ _ h => h) (reg.wanted_none rfl) (hM.ls (by simp)) (fun W hW => by simp [execOp, go_sem, Act.put, hsz, s2, s4, s10]) ?_
    refine reg.e_take (i := 2) (.int .i64 s) rfl (by kernel_rfl) (by kernel_rfl) (by kernel_rfl) (by kernel_rfl) (fun _ _ _ h => h) (reg.wanted_none rfl) (hM.ls (by simp)) (fun W hW => ex_get rfl (by simp [go_sem, Act.put, hsz, s2, s4, s10]) hW.at0 HGS.out) ?_
    refine reg.e_take (i := 4) (.pointer (some ⟨zp, 1, none⟩)) rfl (by kernel_rfl) (by kernel_rfl) (by kernel_rfl) (by kernel_rfl) (fun _ _ _ h => h) (reg.wanted_none rfl) (hM.ls (by simp)) (fun W hW => by simp [execOp, go_sem, Act.put, hsz, s2, s4, s10]) ?_
    refine reg.e_take (i := 5) (.int .i64 c) rfl (by kernel_rfl) (by kernel_rfl) (by kernel_rfl) (by kernel_rfl) (fun _ _ _ h => h) (reg.wanted_none rfl) (hM.ls (by simp)) (fun W hW => ex_get rfl (by simp [go_sem, Act.put, hsz, s2, s4, s10]) hW.at0 HGC.out) ?_
    refine reg.e_one 3 (by kernel_rfl) rfl ?_
    refine reg.r_call (i := 3) 34 #[.int .i64 s] rfl (reg.wanted_none rfl) (by simp [execOp, go_sem, Act.put, hsz, s2, s4, s10]) ((HT1.out _).mono ?_)
    rintro re ru1 ⟨rfl, rhv⟩
    replace hM := hM.call rhv
    clear rhv
    refine ⟨_, rfl, hM.ls (by simp), ?_⟩
    refine reg.e_one 6 (by kernel_rfl) rfl ?_
    refine reg.r_call (i := 6) 34 #[.int .i64 c] rfl (reg.wanted_none rfl) (by simp [execOp, go_sem, Act.put, hsz, s2, s4, s10]) ((HT2.out _).mono ?_)
    rintro re ru2 ⟨rfl, rhv⟩
    replace hM := hM.call rhv
    clear rhv
    refine ⟨_, rfl, hM.ls (by simp), ?_⟩
    refine reg.e_take (i := 7) (.string (T1 ++ T2)) rfl (by kernel_rfl) (by kernel_rfl) (by kernel_rfl) (by kernel_rfl) (fun _ _ _ h => h) (reg.wanted_none rfl) (hM.ls (by simp)) (fun W hW => by simp [execOp, go_sem, Act.put, hsz, s2, s4, s10]; omega) ?_
    refine reg.e_one 8 (by kernel_rfl) rfl ?_
    refine r_fill (i := 8) rfl (reg.wanted_none rfl) rfl row_hub (by simp [go_sem, Act.put, hsz, s2, s4, s10]) (by simp [go_sem, Act.put, hsz, s2, s4, s10]) hM.at2 HL.out rep_33 ?_
    intro ru3 rhv rhc
    replace hM := hM.put2 rhc rhv
    clear rhc rhv
    refine ⟨hM.ls (by simp), ?_⟩
    refine reg.e_take (i := 9) (.string (T1 ++ T2)) rfl (by kernel_rfl) (by kernel_rfl) (by kernel_rfl) (by kernel_rfl) (fun _ _ _ h => h) (reg.wanted_none rfl) (hM.ls (by simp)) (fun W hW => by simp [execOp, go_sem, Act.put, hsz, s2, s4, s10]) ?_
    refine reg.e_take (i := 10) (.int .i64 0) rfl (by kernel_rfl) (by kernel_rfl) (by kernel_rfl) (by kernel_rfl) (fun _ _ _ h => h) (reg.wanted_none rfl) (hM.ls (by simp)) (fun W hW => by simp [execOp, go_sem, Act.put, hsz, s2, s4, s10]) ?_
    refine reg.e_done (by kernel_rfl) ?_ _
    subst ha0
    clear hsz s2 s4 s10
    go_simp
    repeat' (first | go_values | go_skip | go_guarded | go_step | go_upon | (simp only [Int.not_lt, Int.not_le] at *; go_simp))
    exact bodyPost_ret (ret_3 Try.results16 rfl (ld_var row_hub hM.at2 HL.out) rfl rfl) rfl ⟨rfl, hM.below⟩
  rcases (by omega : rK t = 9 ∨ rK t = 10) with hk | hk
  · have HV : Hid (ctlV F (qs t) = setP F i (dnS true (rN t 2) (sta F i)) (dnC true (rN t 2) (chg F i)) ∧ ctS F t = ⟨#[]⟩ ∧ ctlE F (qs t) = dnE true (rN t 2) (sta F i)) := by
      have hq : ((qs t).k == 9) = true := by show (rK t == 9) = true; rw [hk]; rfl
      have h8' : ¬ (qs t).k = 8 := h8
      refine ⟨?_, ?_, ?_⟩
      · unfold ctlV; rw [if_neg (by rintro (q | q); exact q he; exact h8' q), qi, hq]; rfl
      · unfold ctS ctlT; rw [if_pos (.inr h8')]; rfl
      · unfold ctlE; rw [if_neg (fun z => z he), if_neg h8', qi, hq]; rfl
    have HT : Hid (∀ u, Calls Try.prog 35 #[ag [sta F i, chg F i], .bool true, .int .i64 (rN t 2)] u fun e w' => e = .returned (.tuple #[ag [dnS true (rN t 2) (sta F i), dnC true (rN t 2) (chg F i)], .int .i64 (dnE true (rN t 2) (sta F i))]) ∧ Below u.heap.size u w') := fun u => portDone_any _ _ _ _ u hrg.1 hrg.2
    rw [hk] at HRd HG0 HB
    by_cases hz : dnE true (rN t 2) (sta F i) = 0
    · rw [HV.out.1, HV.out.2.1, HV.out.2.2]
      have HPP : Hid (putL F (1 + i * 2) [dnS true (rN t 2) (sta F i), dnC true (rN t 2) (chg F i)] = setP F i (dnS true (rN t 2) (sta F i)) (dnC true (rN t 2) (chg F i))) := putL_port hb.len hi2 _ _
      have HL3 : Hid ((setP F i (dnS true (rN t 2) (sta F i)) (dnC true (rN t 2) (chg F i))).length = 33) := by show _ = 33; rw [setP_len, hb.len]
      rw [hz] at HT ⊢
      clear h0 h1 h2 he h8 HV hb hok hc hrg hk1 hk2 hp hi qi htn hi1 hk hz
      generalize setP F i (dnS true (rN t 2) (sta F i)) (dnC true (rN t 2) (chg F i)) = F2 at *
      generalize dnS true (rN t 2) (sta F i) = s' at *
      generalize dnC true (rN t 2) (chg F i) = c' at *
      generalize rK t = k at *
      generalize rN t 2 = v at *
      generalize rN t 6 = l at *
      generalize cn F = m at *
      generalize sta F i = s at *
      generalize chg F i = c at *
      have HE2 : Hid (0 + 33 ≤ F2.length) := by show 0 + 33 ≤ _; rw [HL3.out]; omega
      have HC2 : Hid (cut F2 0 33 = F2) := cut_all HL3.out
      go_enter Try.func16, Try.ntmps16
      repeat' (first | (go_big_may; first | (refine a_box rfl rfl rfl ?_; intro u zh hN; replace hM := hM.new hN; clear hN) | (refine a_alloc rfl zer_hub rfl ?_; intro u zr hN; replace hM := hM.new hN; clear hN) | (refine a_load rfl rfl row_hub rfl hM.at1 HE.out HC.out ?_)) | go_values | go_skip | go_guarded | go_step | go_upon | (simp only [Int.not_lt, Int.not_le] at *; go_simp))
      refine (HK.out _).mono ?_
      rintro r u ⟨rfl, hv⟩
      replace hM := hM.call hv
      clear hv
      repeat' (first | go_values | go_skip | go_guarded | go_step | go_upon | (simp only [Int.not_lt, Int.not_le] at *; go_simp))
      refine (HRd.out _).mono ?_
      rintro r u ⟨rfl, hv⟩
      replace hM := hM.call hv
      clear hv
      repeat' (first | (go_big_may; first | (refine a_alloc rfl zer_ask rfl ?_; intro u za hN; replace hM := hM.new hN; clear hN) | (refine a_fill rfl rfl row_ask rfl rfl hM.at0 rfl (List.length_replicate (n := 4)) ?_; intro u hv hc; replace hM := hM.put0 hc hv; clear hv hc) | (refine a_get rfl rfl rfl hM.at0 HG0.out ?_)) | go_values | go_skip | go_guarded | go_step | go_upon | (simp only [Int.not_lt, Int.not_le] at *; go_simp))
      refine (HB.out _).mono ?_
      rintro r u ⟨rfl, rfl⟩
      repeat' (first | (go_big_may; first | (refine a_get rfl rfl rfl hM.at0 HG2.out ?_) | (refine a_get rfl rfl rfl hM.at2 HF0.out ?_) | (refine a_load rfl rfl row_port rfl hM.at2 HEP.out HCP.out ?_) | (refine a_alloc rfl zer_port rfl ?_; intro u zp hN; replace hM := hM.new hN; clear hN) | (refine a_fill rfl rfl row_port rfl rfl hM.at0 rfl (List.length_replicate (n := 2)) ?_; intro u hv hc; replace hM := hM.put0 hc hv; clear hv hc) | (refine a_get rfl rfl rfl hM.at1 HG0.out ?_) | (refine a_get rfl rfl rfl hM.at1 HG1.out ?_) | (refine a_load rfl rfl row_port rfl hM.at0 (by simp) (cut2 _ _) ?_)) | go_values | go_skip | go_guarded | go_step | go_upon | (simp only [Int.not_lt, Int.not_le] at *; go_simp))
      refine (HT.out _).mono ?_
      rintro r u ⟨rfl, hv⟩
      replace hM := hM.call hv
      clear hv
      repeat' (first | (go_big_may; first | (refine a_alloc rfl zer_port rfl ?_; intro u zq hN; replace hM := hM.new hN; clear hN) | (refine a_fill rfl rfl row_port rfl rfl hM.at0 rfl (List.length_replicate (n := 2)) ?_; intro u hv hc; replace hM := hM.put0 hc hv; clear hv hc) | (refine a_get rfl rfl rfl hM.at2 HG2.out ?_) | (refine a_load rfl rfl row_port rfl hM.at0 (by simp) (cut2 _ _) ?_) | (refine a_store rfl rfl row_port rfl rfl hM.at4 rfl HEP.out HPP.out ?_; intro u hv hc; replace hM := hM.put4 hc hv; clear hv hc) | (refine a_load rfl rfl row_hub rfl hM.at4 HE2.out HC2.out ?_) | (refine a_fill rfl rfl row_hub rfl rfl hM.at3 HL3.out rep_33 ?_; intro u hv hc; replace hM := hM.put3 hc hv; clear hv hc)) | go_values | go_skip | go_guarded | go_step | go_upon | (simp only [Int.not_lt, Int.not_le] at *; go_simp))
      exact bodyPost_ret (ret_3 Try.results16 rfl (ld_var row_hub hM.at3 HL3.out) rfl rfl) rfl ⟨rfl, hM.below⟩
    · have HSelf : Hid (setP F i (dnS true (rN t 2) (sta F i)) (dnC true (rN t 2) (chg F i)) = F) := by
        show _ = F
        rw [← HV.out.1]
        exact ctl_bad hb.len (by rw [HV.out.2.2]; exact hz)
      rw [HV.out.1, HV.out.2.1, HV.out.2.2, HSelf.out]
      have ez : (dnE true (rN t 2) (sta F i) == 0) = false := by simpa using hz
      clear h0 h1 h2 he h8 HV hb hok hc hrg hk1 hk2 hp hi qi htn hi1 hk hz HSelf
      generalize dnE true (rN t 2) (sta F i) = z at *
      generalize dnS true (rN t 2) (sta F i) = s' at *
      generalize dnC true (rN t 2) (chg F i) = c' at *
      generalize rK t = k at *
      generalize rN t 2 = v at *
      generalize rN t 6 = l at *
      generalize cn F = m at *
      generalize sta F i = s at *
      generalize chg F i = c at *
      go_enter Try.func16, Try.ntmps16
      repeat' (first | (go_big_may; first | (refine a_box rfl rfl rfl ?_; intro u zh hN; replace hM := hM.new hN; clear hN) | (refine a_alloc rfl zer_hub rfl ?_; intro u zr hN; replace hM := hM.new hN; clear hN) | (refine a_load rfl rfl row_hub rfl hM.at1 HE.out HC.out ?_)) | go_values | go_skip | go_guarded | go_step | go_upon | (simp only [Int.not_lt, Int.not_le] at *; go_simp))
      refine (HK.out _).mono ?_
      rintro r u ⟨rfl, hv⟩
      replace hM := hM.call hv
      clear hv
      repeat' (first | go_values | go_skip | go_guarded | go_step | go_upon | (simp only [Int.not_lt, Int.not_le] at *; go_simp))
      refine (HRd.out _).mono ?_
      rintro r u ⟨rfl, hv⟩
      replace hM := hM.call hv
      clear hv
      repeat' (first | (go_big_may; first | (refine a_alloc rfl zer_ask rfl ?_; intro u za hN; replace hM := hM.new hN; clear hN) | (refine a_fill rfl rfl row_ask rfl rfl hM.at0 rfl (List.length_replicate (n := 4)) ?_; intro u hv hc; replace hM := hM.put0 hc hv; clear hv hc) | (refine a_get rfl rfl rfl hM.at0 HG0.out ?_)) | go_values | go_skip | go_guarded | go_step | go_upon | (simp only [Int.not_lt, Int.not_le] at *; go_simp))
      refine (HB.out _).mono ?_
      rintro r u ⟨rfl, rfl⟩
      repeat' (first | (go_big_may; first | (refine a_get rfl rfl rfl hM.at0 HG2.out ?_) | (refine a_get rfl rfl rfl hM.at2 HF0.out ?_) | (refine a_load rfl rfl row_port rfl hM.at2 HEP.out HCP.out ?_) | (refine a_alloc rfl zer_port rfl ?_; intro u zp hN; replace hM := hM.new hN; clear hN) | (refine a_fill rfl rfl row_port rfl rfl hM.at0 rfl (List.length_replicate (n := 2)) ?_; intro u hv hc; replace hM := hM.put0 hc hv; clear hv hc) | (refine a_get rfl rfl rfl hM.at1 HG0.out ?_) | (refine a_get rfl rfl rfl hM.at1 HG1.out ?_) | (refine a_load rfl rfl row_port rfl hM.at0 (by simp) (cut2 _ _) ?_)) | go_values | go_skip | go_guarded | go_step | go_upon | (simp only [Int.not_lt, Int.not_le] at *; go_simp))
      refine (HT.out _).mono ?_
      rintro r u ⟨rfl, hv⟩
      replace hM := hM.call hv
      clear hv
      repeat' (first | (go_big_may; first | (refine a_alloc rfl zer_port rfl ?_; intro u zq hN; replace hM := hM.new hN; clear hN) | (refine a_fill rfl rfl row_port rfl rfl hM.at0 rfl (List.length_replicate (n := 2)) ?_; intro u hv hc; replace hM := hM.put0 hc hv; clear hv hc) | (refine a_load rfl rfl row_hub rfl hM.at4 HE.out HC.out ?_) | (refine a_fill rfl rfl row_hub rfl rfl hM.at3 HL.out rep_33 ?_; intro u hv hc; replace hM := hM.put3 hc hv; clear hv hc)) | go_values | go_skip | go_guarded | go_step | go_upon | (simp only [Int.not_lt, Int.not_le] at *; go_simp))
      exact bodyPost_ret (ret_3 Try.results16 rfl (ld_var row_hub hM.at3 HL.out) rfl rfl) rfl ⟨rfl, hM.below⟩
  · have HV : Hid (ctlV F (qs t) = setP F i (dnS false (rN t 2) (sta F i)) (dnC false (rN t 2) (chg F i)) ∧ ctS F t = ⟨#[]⟩ ∧ ctlE F (qs t) = dnE false (rN t 2) (sta F i)) := by
      have hq : ((qs t).k == 9) = false := by show (rK t == 9) = false; rw [hk]; rfl
      have h8' : ¬ (qs t).k = 8 := h8
      refine ⟨?_, ?_, ?_⟩
      · unfold ctlV; rw [if_neg (by rintro (q | q); exact q he; exact h8' q), qi, hq]; rfl
      · unfold ctS ctlT; rw [if_pos (.inr h8')]; rfl
      · unfold ctlE; rw [if_neg (fun z => z he), if_neg h8', qi, hq]; rfl
    have HT : Hid (∀ u, Calls Try.prog 35 #[ag [sta F i, chg F i], .bool false, .int .i64 (rN t 2)] u fun e w' => e = .returned (.tuple #[ag [dnS false (rN t 2) (sta F i), dnC false (rN t 2) (chg F i)], .int .i64 (dnE false (rN t 2) (sta F i))]) ∧ Below u.heap.size u w') := fun u => portDone_any _ _ _ _ u hrg.1 hrg.2
    rw [hk] at HRd HG0 HB
    by_cases hz : dnE false (rN t 2) (sta F i) = 0
    · rw [HV.out.1, HV.out.2.1, HV.out.2.2]
      have HPP : Hid (putL F (1 + i * 2) [dnS false (rN t 2) (sta F i), dnC false (rN t 2) (chg F i)] = setP F i (dnS false (rN t 2) (sta F i)) (dnC false (rN t 2) (chg F i))) := putL_port hb.len hi2 _ _
      have HL3 : Hid ((setP F i (dnS false (rN t 2) (sta F i)) (dnC false (rN t 2) (chg F i))).length = 33) := by show _ = 33; rw [setP_len, hb.len]
      rw [hz] at HT ⊢
      clear h0 h1 h2 he h8 HV hb hok hc hrg hk1 hk2 hp hi qi htn hi1 hk hz
      generalize setP F i (dnS false (rN t 2) (sta F i)) (dnC false (rN t 2) (chg F i)) = F2 at *
      generalize dnS false (rN t 2) (sta F i) = s' at *
      generalize dnC false (rN t 2) (chg F i) = c' at *
      generalize rK t = k at *
      generalize rN t 2 = v at *
      generalize rN t 6 = l at *
      generalize cn F = m at *
      generalize sta F i = s at *
      generalize chg F i = c at *
      have HE2 : Hid (0 + 33 ≤ F2.length) := by show 0 + 33 ≤ _; rw [HL3.out]; omega
      have HC2 : Hid (cut F2 0 33 = F2) := cut_all HL3.out
      go_enter Try.func16, Try.ntmps16
      repeat' (first | (go_big_may; first | (refine a_box rfl rfl rfl ?_; intro u zh hN; replace hM := hM.new hN; clear hN) | (refine a_alloc rfl zer_hub rfl ?_; intro u zr hN; replace hM := hM.new hN; clear hN) | (refine a_load rfl rfl row_hub rfl hM.at1 HE.out HC.out ?_)) | go_values | go_skip | go_guarded | go_step | go_upon | (simp only [Int.not_lt, Int.not_le] at *; go_simp))
      refine (HK.out _).mono ?_
      rintro r u ⟨rfl, hv⟩
      replace hM := hM.call hv
      clear hv
      repeat' (first | go_values | go_skip | go_guarded | go_step | go_upon | (simp only [Int.not_lt, Int.not_le] at *; go_simp))
      refine (HRd.out _).mono ?_
      rintro r u ⟨rfl, hv⟩
      replace hM := hM.call hv
      clear hv
      repeat' (first | (go_big_may; first | (refine a_alloc rfl zer_ask rfl ?_; intro u za hN; replace hM := hM.new hN; clear hN) | (refine a_fill rfl rfl row_ask rfl rfl hM.at0 rfl (List.length_replicate (n := 4)) ?_; intro u hv hc; replace hM := hM.put0 hc hv; clear hv hc) | (refine a_get rfl rfl rfl hM.at0 HG0.out ?_)) | go_values | go_skip | go_guarded | go_step | go_upon | (simp only [Int.not_lt, Int.not_le] at *; go_simp))
      refine (HB.out _).mono ?_
      rintro r u ⟨rfl, rfl⟩
      repeat' (first | (go_big_may; first | (refine a_get rfl rfl rfl hM.at0 HG2.out ?_) | (refine a_get rfl rfl rfl hM.at2 HF0.out ?_) | (refine a_load rfl rfl row_port rfl hM.at2 HEP.out HCP.out ?_) | (refine a_alloc rfl zer_port rfl ?_; intro u zp hN; replace hM := hM.new hN; clear hN) | (refine a_fill rfl rfl row_port rfl rfl hM.at0 rfl (List.length_replicate (n := 2)) ?_; intro u hv hc; replace hM := hM.put0 hc hv; clear hv hc) | (refine a_get rfl rfl rfl hM.at1 HG0.out ?_) | (refine a_get rfl rfl rfl hM.at1 HG1.out ?_) | (refine a_load rfl rfl row_port rfl hM.at0 (by simp) (cut2 _ _) ?_)) | go_values | go_skip | go_guarded | go_step | go_upon | (simp only [Int.not_lt, Int.not_le] at *; go_simp))
      refine (HT.out _).mono ?_
      rintro r u ⟨rfl, hv⟩
      replace hM := hM.call hv
      clear hv
      repeat' (first | (go_big_may; first | (refine a_alloc rfl zer_port rfl ?_; intro u zq hN; replace hM := hM.new hN; clear hN) | (refine a_fill rfl rfl row_port rfl rfl hM.at0 rfl (List.length_replicate (n := 2)) ?_; intro u hv hc; replace hM := hM.put0 hc hv; clear hv hc) | (refine a_get rfl rfl rfl hM.at2 HG2.out ?_) | (refine a_load rfl rfl row_port rfl hM.at0 (by simp) (cut2 _ _) ?_) | (refine a_store rfl rfl row_port rfl rfl hM.at4 rfl HEP.out HPP.out ?_; intro u hv hc; replace hM := hM.put4 hc hv; clear hv hc) | (refine a_load rfl rfl row_hub rfl hM.at4 HE2.out HC2.out ?_) | (refine a_fill rfl rfl row_hub rfl rfl hM.at3 HL3.out rep_33 ?_; intro u hv hc; replace hM := hM.put3 hc hv; clear hv hc)) | go_values | go_skip | go_guarded | go_step | go_upon | (simp only [Int.not_lt, Int.not_le] at *; go_simp))
      exact bodyPost_ret (ret_3 Try.results16 rfl (ld_var row_hub hM.at3 HL3.out) rfl rfl) rfl ⟨rfl, hM.below⟩
    · have HSelf : Hid (setP F i (dnS false (rN t 2) (sta F i)) (dnC false (rN t 2) (chg F i)) = F) := by
        show _ = F
        rw [← HV.out.1]
        exact ctl_bad hb.len (by rw [HV.out.2.2]; exact hz)
      rw [HV.out.1, HV.out.2.1, HV.out.2.2, HSelf.out]
      have ez : (dnE false (rN t 2) (sta F i) == 0) = false := by simpa using hz
      clear h0 h1 h2 he h8 HV hb hok hc hrg hk1 hk2 hp hi qi htn hi1 hk hz HSelf
      generalize dnE false (rN t 2) (sta F i) = z at *
      generalize dnS false (rN t 2) (sta F i) = s' at *
      generalize dnC false (rN t 2) (chg F i) = c' at *
      generalize rK t = k at *
      generalize rN t 2 = v at *
      generalize rN t 6 = l at *
      generalize cn F = m at *
      generalize sta F i = s at *
      generalize chg F i = c at *
      go_enter Try.func16, Try.ntmps16
      repeat' (first | (go_big_may; first | (refine a_box rfl rfl rfl ?_; intro u zh hN; replace hM := hM.new hN; clear hN) | (refine a_alloc rfl zer_hub rfl ?_; intro u zr hN; replace hM := hM.new hN; clear hN) | (refine a_load rfl rfl row_hub rfl hM.at1 HE.out HC.out ?_)) | go_values | go_skip | go_guarded | go_step | go_upon | (simp only [Int.not_lt, Int.not_le] at *; go_simp))
      refine (HK.out _).mono ?_
      rintro r u ⟨rfl, hv⟩
      replace hM := hM.call hv
      clear hv
      repeat' (first | go_values | go_skip | go_guarded | go_step | go_upon | (simp only [Int.not_lt, Int.not_le] at *; go_simp))
      refine (HRd.out _).mono ?_
      rintro r u ⟨rfl, hv⟩
      replace hM := hM.call hv
      clear hv
      repeat' (first | (go_big_may; first | (refine a_alloc rfl zer_ask rfl ?_; intro u za hN; replace hM := hM.new hN; clear hN) | (refine a_fill rfl rfl row_ask rfl rfl hM.at0 rfl (List.length_replicate (n := 4)) ?_; intro u hv hc; replace hM := hM.put0 hc hv; clear hv hc) | (refine a_get rfl rfl rfl hM.at0 HG0.out ?_)) | go_values | go_skip | go_guarded | go_step | go_upon | (simp only [Int.not_lt, Int.not_le] at *; go_simp))
      refine (HB.out _).mono ?_
      rintro r u ⟨rfl, rfl⟩
      repeat' (first | (go_big_may; first | (refine a_get rfl rfl rfl hM.at0 HG2.out ?_) | (refine a_get rfl rfl rfl hM.at2 HF0.out ?_) | (refine a_load rfl rfl row_port rfl hM.at2 HEP.out HCP.out ?_) | (refine a_alloc rfl zer_port rfl ?_; intro u zp hN; replace hM := hM.new hN; clear hN) | (refine a_fill rfl rfl row_port rfl rfl hM.at0 rfl (List.length_replicate (n := 2)) ?_; intro u hv hc; replace hM := hM.put0 hc hv; clear hv hc) | (refine a_get rfl rfl rfl hM.at1 HG0.out ?_) | (refine a_get rfl rfl rfl hM.at1 HG1.out ?_) | (refine a_load rfl rfl row_port rfl hM.at0 (by simp) (cut2 _ _) ?_)) | go_values | go_skip | go_guarded | go_step | go_upon | (simp only [Int.not_lt, Int.not_le] at *; go_simp))
      refine (HT.out _).mono ?_
      rintro r u ⟨rfl, hv⟩
      replace hM := hM.call hv
      clear hv
      repeat' (first | (go_big_may; first | (refine a_alloc rfl zer_port rfl ?_; intro u zq hN; replace hM := hM.new hN; clear hN) | (refine a_fill rfl rfl row_port rfl rfl hM.at0 rfl (List.length_replicate (n := 2)) ?_; intro u hv hc; replace hM := hM.put0 hc hv; clear hv hc) | (refine a_load rfl rfl row_hub rfl hM.at4 HE.out HC.out ?_) | (refine a_fill rfl rfl row_hub rfl rfl hM.at3 HL.out rep_33 ?_; intro u hv hc; replace hM := hM.put3 hc hv; clear hv hc)) | go_values | go_skip | go_guarded | go_step | go_upon | (simp only [Int.not_lt, Int.not_le] at *; go_simp))
      exact bodyPost_ret (ret_3 Try.results16 rfl (ld_var row_hub hM.at3 HL.out) rfl rfl) rfl ⟨rfl, hM.below⟩
end Go.Proofs.Ytdnmjeiljpdmcaa.hub
