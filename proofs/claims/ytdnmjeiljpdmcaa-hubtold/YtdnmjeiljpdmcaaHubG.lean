/- hub: what turnOn, turnOff, readAsk and appendWord answer. -/
import Derived.Test.YtdnmjeiljpdmcaaHubD
import Derived.Test.YtdnmjeiljpdmcaaSetG
import Derived.Test.YtdnmjeiljpdmcaaOwnB
namespace Go.Proofs.Ytdnmjeiljpdmcaa.hub
open Go Go.RowKit
open Go.Proofs.Ytdnmjeiljpdmcaa.slots (cl cl_at cl_set cl_ext allF allF_step allF_end allF_iff anyF)
open Go.PlainAid
open Go.Proofs.Ytdnmjeiljpdmcaa.lane (Bys nums)
open Go.Proofs.Ytdnmjeiljpdmcaa.setup (rK rN rC rC_zero rC_bad good hit inS inS_iff inS fitB isK)
set_option linter.unusedVariables false
set_option linter.unusedSimpArgs false
set_option maxRecDepth 100000

/-- the eight bytes as an ask -/
def qs (t : ByteArray) : Qs := ⟨rC t, rK t, rN t 2, rN t 4⟩
theorem row_ask : Row 52 4 := ⟨⟨_, Try.underlying52, rfl, by kernel_rfl⟩⟩
theorem zer_ask : Zer 52 4 := ⟨by kernel_rfl⟩
theorem bld_A0 (w : World) : (Instr.build 52 #[]).run Try.prog w = .ok (ag [0, 0, 0, 0]) w := by kernel_rfl
/-- what was read of a port's ask -/
theorem ask_port {t : ByteArray} (h : rC t = 0) (h8 : 8 ≤ rK t) (h10 : rK t ≤ 10) : (1 ≤ rN t 4 ∧ rN t 4 ≤ 15) ∧ 0 ≤ rN t 2 ∧ rN t 2 ≤ 31 := by
  obtain ⟨_, h0, hh⟩ := rC_zero h
  unfold hit at hh
  rw [Bool.and_eq_true] at hh
  have hg := hh.1
  have e4 : rN t 4 = setup.wat (nums t) 4 := by unfold rN; rw [if_neg h0]
  have e2 : rN t 2 = setup.wat (nums t) 2 := by unfold rN; rw [if_neg h0]
  rw [e4, e2]
  unfold good fitB at hg
  rw [Bool.and_eq_true, Bool.and_eq_true, Bool.and_eq_true, inS_iff, inS_iff] at hg
  obtain ⟨_, ⟨h1, h2⟩, _⟩ := hg
  generalize setup.wat (nums t) 4 = i at *
  generalize setup.wat (nums t) 2 = v at *
  generalize rK t = k at *
  rcases (by omega : k = 8 ∨ k = 9 ∨ k = 10) with rfl | rfl | rfl
  all_goals
    simp [setup.te, inS, setup.col, setup.row] at h1 h2
    first | omega | (simp [inS] at h1 h2; omega)
theorem stS {s : Int} (h : stB s = true) (on : Bool) (v : Int) : stB (dnS on v s) = true := by
  have hs := stB_iff.1 h
  refine stB_iff.2 ?_
  unfold dnS
  split
  · split
    · split <;> omega
    · split <;> omega
  · split
    · omega
    · split <;> omega
theorem chS {c : Int} (h : chB c = true) (on : Bool) (v : Int) : chB (dnC on v c) = true := by
  have hc := ch_with h
  unfold dnC
  split
  · exact h
  · split
    · exact hc.2.2.2.1
    · split
      · exact hc.2.2.2.2.1
      · split
        · exact hc.2.2.2.2.2
        · exact h
set_option maxHeartbeats 4000000 in
theorem turnOn_any (s c v : Int) (w : World) (hs : stB s = true) : Calls Try.prog 30 #[ag [s, c], .int .i64 v] w fun e w' => e = .returned (.tuple #[ag [dnS true v s, dnC true v c], .int .i64 (dnE true v s)]) ∧ Below w.heap.size w w' := by
  have HS : Hid (([s, c] : List Int)[0]? = some s) := rfl
  have hM := Mm.nil w
  have hst := stB_iff.1 hs
  by_cases h8 : v = 8
  · subst h8
    rcases hst with rfl | rfl | rfl | rfl | rfl
    all_goals
      clear hs
      go_enter Try.func30, Try.ntmps30
      repeat' (first | (go_big_may; first | (refine a_box rfl rfl rfl ?_; intro u zb hN; replace hM := hM.new hN; clear hN) | (refine a_alloc rfl zer_port rfl ?_; intro u zb hN; replace hM := hM.new hN; clear hN) | (refine a_get rfl rfl rfl hM.at1 HS.out ?_) | (refine a_put rfl rfl rfl rfl hM.at1 (by simp) ?_; intro u hv hc; replace hM := hM.put1 hc hv; clear hv hc) | (refine a_load rfl rfl row_port rfl hM.at1 (by simp) (cut2 _ _) ?_) | (refine a_fill rfl rfl row_port rfl rfl hM.at0 rfl rfl ?_; intro u hv hc; replace hM := hM.put0 hc hv; clear hv hc)) | go_values | go_skip | go_guarded | go_step | go_upon | (simp only [Int.not_lt, Int.not_le] at *; go_simp))
      exact bodyPost_ret (ret_2 Try.results30 rfl (ld_var row_port hM.at0 rfl) rfl) rfl ⟨rfl, hM.below⟩
  have e8 : (v == 8) = false := by simpa using h8
  by_cases h4 : v = 4
  · subst h4
    clear e8 h8
    rcases hst with rfl | rfl | rfl | rfl | rfl
    all_goals
      clear hs
      go_enter Try.func30, Try.ntmps30
      repeat' (first | (go_big_may; first | (refine a_box rfl rfl rfl ?_; intro u zb hN; replace hM := hM.new hN; clear hN) | (refine a_alloc rfl zer_port rfl ?_; intro u zb hN; replace hM := hM.new hN; clear hN) | (refine a_get rfl rfl rfl hM.at1 HS.out ?_) | (refine a_put rfl rfl rfl rfl hM.at1 (by simp) ?_; intro u hv hc; replace hM := hM.put1 hc hv; clear hv hc) | (refine a_load rfl rfl row_port rfl hM.at1 (by simp) (cut2 _ _) ?_) | (refine a_fill rfl rfl row_port rfl rfl hM.at0 rfl rfl ?_; intro u hv hc; replace hM := hM.put0 hc hv; clear hv hc)) | go_values | go_skip | go_guarded | go_step | go_upon | (simp only [Int.not_lt, Int.not_le] at *; go_simp))
      exact bodyPost_ret (ret_2 Try.results30 rfl (ld_var row_port hM.at0 rfl) rfl) rfl ⟨rfl, hM.below⟩
  have e4 : (v == 4) = false := by simpa using h4
  have HV : Hid (dnS true v s = s ∧ dnC true v c = c ∧ dnE true v s = 8) := by
    refine ⟨?_, ?_, ?_⟩
    · unfold dnS; rw [if_pos rfl, if_neg h8, if_neg (fun q => h4 q.1)]
    · unfold dnC; rw [if_pos rfl]
    · unfold dnE; rw [if_pos rfl, if_neg h8, if_neg (fun q => h4 q.1)]
  rw [HV.out.1, HV.out.2.1, HV.out.2.2]
  clear HV h8 h4 hst hs
  go_enter Try.func30, Try.ntmps30
  repeat' (first | (go_big_may; first | (refine a_box rfl rfl rfl ?_; intro u zb hN; replace hM := hM.new hN; clear hN) | (refine a_alloc rfl zer_port rfl ?_; intro u zb hN; replace hM := hM.new hN; clear hN) | (refine a_get rfl rfl rfl hM.at1 HS.out ?_) | (refine a_put rfl rfl rfl rfl hM.at1 (by simp) ?_; intro u hv hc; replace hM := hM.put1 hc hv; clear hv hc) | (refine a_load rfl rfl row_port rfl hM.at1 (by simp) (cut2 _ _) ?_) | (refine a_fill rfl rfl row_port rfl rfl hM.at0 rfl rfl ?_; intro u hv hc; replace hM := hM.put0 hc hv; clear hv hc)) | go_values | go_skip | go_guarded | go_step | go_upon | (simp only [Int.not_lt, Int.not_le] at *; go_simp))
  exact bodyPost_ret (ret_2 Try.results30 rfl (ld_var row_port hM.at0 rfl) rfl) rfl ⟨rfl, hM.below⟩
set_option maxHeartbeats 4000000 in
theorem turnOff_any (s c v : Int) (w : World) (hs : stB s = true) (hc : chB c = true) : Calls Try.prog 31 #[ag [s, c], .int .i64 v] w fun e w' => e = .returned (.tuple #[ag [dnS false v s, dnC false v c], .int .i64 (dnE false v s)]) ∧ Below w.heap.size w w' := by
  have HS : Hid (([s, c] : List Int)[0]? = some s) := rfl
  have HC : Hid (([s, c] : List Int)[1]? = some c) := rfl
  have hM := Mm.nil w
  have hst := stB_iff.1 hs
  obtain ⟨_, _, _, b1, b2, b3⟩ := ch_bits hc
  by_cases h1 : v = 1
  · subst h1
    clear b1 b2 b3 hc
    rcases hst with rfl | rfl | rfl | rfl | rfl
    all_goals
      clear hs
      go_enter Try.func31, Try.ntmps31
      repeat' (first | (go_big_may; first | (refine a_box rfl rfl rfl ?_; intro u zb hN; replace hM := hM.new hN; clear hN) | (refine a_alloc rfl zer_port rfl ?_; intro u zb hN; replace hM := hM.new hN; clear hN) | (refine a_get rfl rfl rfl hM.at1 HS.out ?_) | (refine a_put rfl rfl rfl rfl hM.at1 (by simp) ?_; intro u hv hc; replace hM := hM.put1 hc hv; clear hv hc) | (refine a_load rfl rfl row_port rfl hM.at1 (by simp) (cut2 _ _) ?_) | (refine a_fill rfl rfl row_port rfl rfl hM.at0 rfl rfl ?_; intro u hv hc; replace hM := hM.put0 hc hv; clear hv hc)) | go_values | go_skip | go_guarded | go_step | go_upon | (simp only [Int.not_lt, Int.not_le] at *; go_simp))
      exact bodyPost_ret (ret_2 Try.results31 rfl (ld_var row_port hM.at0 rfl) rfl) rfl ⟨rfl, hM.below⟩
  clear hst hs
  by_cases h8 : v = 8
  · subst h8
    clear b1 b2 b3 hc
    go_enter Try.func31, Try.ntmps31
    repeat' (first | (go_big_may; first | (refine a_box rfl rfl rfl ?_; intro u zb hN; replace hM := hM.new hN; clear hN) | (refine a_alloc rfl zer_port rfl ?_; intro u zb hN; replace hM := hM.new hN; clear hN) | (refine a_get rfl rfl rfl hM.at1 HS.out ?_) | (refine a_put rfl rfl rfl rfl hM.at1 (by simp) ?_; intro u hv hc; replace hM := hM.put1 hc hv; clear hv hc) | (refine a_load rfl rfl row_port rfl hM.at1 (by simp) (cut2 _ _) ?_) | (refine a_fill rfl rfl row_port rfl rfl hM.at0 rfl rfl ?_; intro u hv hc; replace hM := hM.put0 hc hv; clear hv hc)) | go_values | go_skip | go_guarded | go_step | go_upon | (simp only [Int.not_lt, Int.not_le] at *; go_simp))
    exact bodyPost_ret (ret_2 Try.results31 rfl (ld_var row_port hM.at0 rfl) rfl) rfl ⟨rfl, hM.below⟩
  by_cases h16 : v = 16
  · subst h16
    have HV : Hid (dnS false 16 s = s ∧ dnC false 16 c = less c 1 ∧ dnE false 16 s = 0) := ⟨rfl, rfl, rfl⟩
    rw [HV.out.1, HV.out.2.1, HV.out.2.2]
    clear b2 b3 hc HV h1 h8
    generalize less c 1 = c1 at *
    go_enter Try.func31, Try.ntmps31
    repeat' (first | (go_big_may; first | (refine a_box rfl rfl rfl ?_; intro u zb hN; replace hM := hM.new hN; clear hN) | (refine a_alloc rfl zer_port rfl ?_; intro u zb hN; replace hM := hM.new hN; clear hN) | (refine a_get rfl rfl rfl hM.at1 HC.out ?_) | (refine a_put rfl rfl rfl rfl hM.at1 (by simp) ?_; intro u hv hc; replace hM := hM.put1 hc hv; clear hv hc) | (refine a_load rfl rfl row_port rfl hM.at1 (by simp) (cut2 _ _) ?_) | (refine a_fill rfl rfl row_port rfl rfl hM.at0 rfl rfl ?_; intro u hv hc; replace hM := hM.put0 hc hv; clear hv hc)) | go_values | go_skip | go_guarded | go_step | go_upon | (simp only [Int.not_lt, Int.not_le] at *; go_simp))
    exact bodyPost_ret (ret_2 Try.results31 rfl (ld_var row_port hM.at0 rfl) rfl) rfl ⟨rfl, hM.below⟩
  by_cases h17 : v = 17
  · subst h17
    have HV : Hid (dnS false 17 s = s ∧ dnC false 17 c = less c 2 ∧ dnE false 17 s = 0) := ⟨rfl, rfl, rfl⟩
    rw [HV.out.1, HV.out.2.1, HV.out.2.2]
    clear b1 b3 hc HV h1 h8 h16
    generalize less c 2 = c1 at *
    go_enter Try.func31, Try.ntmps31
    repeat' (first | (go_big_may; first | (refine a_box rfl rfl rfl ?_; intro u zb hN; replace hM := hM.new hN; clear hN) | (refine a_alloc rfl zer_port rfl ?_; intro u zb hN; replace hM := hM.new hN; clear hN) | (refine a_get rfl rfl rfl hM.at1 HC.out ?_) | (refine a_put rfl rfl rfl rfl hM.at1 (by simp) ?_; intro u hv hc; replace hM := hM.put1 hc hv; clear hv hc) | (refine a_load rfl rfl row_port rfl hM.at1 (by simp) (cut2 _ _) ?_) | (refine a_fill rfl rfl row_port rfl rfl hM.at0 rfl rfl ?_; intro u hv hc; replace hM := hM.put0 hc hv; clear hv hc)) | go_values | go_skip | go_guarded | go_step | go_upon | (simp only [Int.not_lt, Int.not_le] at *; go_simp))
    exact bodyPost_ret (ret_2 Try.results31 rfl (ld_var row_port hM.at0 rfl) rfl) rfl ⟨rfl, hM.below⟩
  by_cases h20 : v = 20
  · subst h20
    have HV : Hid (dnS false 20 s = s ∧ dnC false 20 c = less c 16 ∧ dnE false 20 s = 0) := ⟨rfl, rfl, rfl⟩
    rw [HV.out.1, HV.out.2.1, HV.out.2.2]
    clear b1 b2 hc HV h1 h8 h16 h17
    generalize less c 16 = c1 at *
    go_enter Try.func31, Try.ntmps31
    repeat' (first | (go_big_may; first | (refine a_box rfl rfl rfl ?_; intro u zb hN; replace hM := hM.new hN; clear hN) | (refine a_alloc rfl zer_port rfl ?_; intro u zb hN; replace hM := hM.new hN; clear hN) | (refine a_get rfl rfl rfl hM.at1 HC.out ?_) | (refine a_put rfl rfl rfl rfl hM.at1 (by simp) ?_; intro u hv hc; replace hM := hM.put1 hc hv; clear hv hc) | (refine a_load rfl rfl row_port rfl hM.at1 (by simp) (cut2 _ _) ?_) | (refine a_fill rfl rfl row_port rfl rfl hM.at0 rfl rfl ?_; intro u hv hc; replace hM := hM.put0 hc hv; clear hv hc)) | go_values | go_skip | go_guarded | go_step | go_upon | (simp only [Int.not_lt, Int.not_le] at *; go_simp))
    exact bodyPost_ret (ret_2 Try.results31 rfl (ld_var row_port hM.at0 rfl) rfl) rfl ⟨rfl, hM.below⟩
  have HV : Hid (dnS false v s = s ∧ dnC false v c = c ∧ dnE false v s = 8) := by
    refine ⟨?_, ?_, ?_⟩
    · unfold dnS; rw [if_neg (by decide), if_neg h8, if_neg (fun q => h1 q.1)]
    · unfold dnC; rw [if_neg (by decide), if_neg h16, if_neg h17, if_neg h20]
    · unfold dnE; rw [if_neg (by decide), if_neg (by omega)]
  rw [HV.out.1, HV.out.2.1, HV.out.2.2]
  have e1 : (v == 1) = false := by simpa using h1
  have e8 : (v == 8) = false := by simpa using h8
  have e16 : (v == 16) = false := by simpa using h16
  have e17 : (v == 17) = false := by simpa using h17
  have e20 : (v == 20) = false := by simpa using h20
  clear HV h1 h8 h16 h17 h20 b1 b2 b3 hc
  go_enter Try.func31, Try.ntmps31
  repeat' (first | (go_big_may; first | (refine a_box rfl rfl rfl ?_; intro u zb hN; replace hM := hM.new hN; clear hN) | (refine a_alloc rfl zer_port rfl ?_; intro u zb hN; replace hM := hM.new hN; clear hN) | (refine a_load rfl rfl row_port rfl hM.at1 (by simp) (cut2 _ _) ?_) | (refine a_fill rfl rfl row_port rfl rfl hM.at0 rfl rfl ?_; intro u hv hc; replace hM := hM.put0 hc hv; clear hv hc)) | go_values | go_skip | go_guarded | go_step | go_upon | (simp only [Int.not_lt, Int.not_le] at *; go_simp))
  exact bodyPost_ret (ret_2 Try.results31 rfl (ld_var row_port hM.at0 rfl) rfl) rfl ⟨rfl, hM.below⟩
/-- the ask that readAsk answers -/
def rdA (F : List Int) (t : ByteArray) : List Int := if askE F (qs t) = 0 then [rK t, rN t 2, rN t 4, rN t 6] else [0, 0, 0, 0]
set_option maxHeartbeats 4000000 in
theorem readAsk_any (F : List Int) (t : ByteArray) (w : World) (hb : Hb F) (ht : t.size ≤ maxLen) : Calls Try.prog 29 #[ag F, .string t] w fun e w' => e = .returned (.tuple #[ag (rdA F t), .int .i64 (askE F (qs t))]) ∧ Below w.heap.size w w' := by
  have HL : Hid (F.length = 33) := hb.len
  have HC : Hid (cut F 0 33 = F) := cut_all hb.len
  have HE : Hid (0 + 33 ≤ F.length) := by show 0 + 33 ≤ _; rw [hb.len]; omega
  have HK : Hid (∀ u, Calls Try.prog 13 #[ag F] u fun e w' => e = .returned (.int .i64 (chk F)) ∧ Below u.heap.size u w') := fun u => check_any F u hb
  have HRd : Hid (∀ u : World, Calls Try.prog 37 #[.string t] u fun e w' => e = .returned (.tuple #[ag [rK t, rN t 2, rN t 4, rN t 6], .int .i64 (rC t)]) ∧ Below u.heap.size u w') := setup.read_any t ht
  have HP : Hid (∀ u, Calls Try.prog 22 #[ag F, .int .i64 (rN t 4)] u fun e w' => e = .returned (.bool (isP F (rN t 4))) ∧ Below u.heap.size u w') := fun u => isPort_any F _ u hb.len
  have hz := bld_A0
  have hM := Mm.nil w
  by_cases h0 : ¬ chk F = 0
  · have HV : Hid (rdA F t = [0, 0, 0, 0] ∧ askE F (qs t) = chk F) := by
      have : askE F (qs t) = chk F := by unfold askE; rw [if_pos h0]
      exact ⟨by unfold rdA; rw [this, if_neg h0], this⟩
    rw [HV.out.1, HV.out.2]
    have e0 : (chk F != 0) = true := by simpa using h0
    clear h0 HV hb HRd HP
    generalize chk F = z at *
    go_enter Try.func29, Try.ntmps29
    repeat' (first | (go_big_may; first | (refine a_box rfl rfl rfl ?_; intro u zb hN; replace hM := hM.new hN; clear hN) | (refine a_alloc rfl zer_ask rfl ?_; intro u zb hN; replace hM := hM.new hN; clear hN) | (refine a_load rfl rfl row_hub rfl hM.at1 HE.out HC.out ?_)) | go_values | go_skip | go_guarded | go_step | go_upon | (simp only [Int.not_lt, Int.not_le] at *; go_simp))
    refine (HK.out _).mono ?_
    rintro r u ⟨rfl, hv⟩
    replace hM := hM.call hv
    clear hv
    repeat' (first | (go_big_may; first | (refine a_build rfl rfl hz (by simp [Act.eval]) ?_) | (refine a_fill rfl rfl row_ask rfl rfl hM.at0 rfl rfl ?_; intro u hv hc; replace hM := hM.put0 hc hv; clear hv hc)) | go_values | go_skip | go_guarded | go_step | go_upon | (simp only [Int.not_lt, Int.not_le] at *; go_simp))
    exact bodyPost_ret (ret_2 Try.results29 rfl (ld_var row_ask hM.at0 rfl) rfl) rfl ⟨rfl, hM.below⟩
  have h0 : chk F = 0 := by omega
  have hok := chk_ok hb.len h0
  rw [h0] at HK
  by_cases h1 : ¬ rC t = 0
  · have HV : Hid (rdA F t = [0, 0, 0, 0] ∧ askE F (qs t) = 8) := by
      have : askE F (qs t) = 8 := by unfold askE; rw [if_neg (fun z => z h0), if_pos (show (qs t).c ≠ 0 from h1)]
      exact ⟨by unfold rdA; rw [this, if_neg (by decide)], this⟩
    rw [HV.out.1, HV.out.2]
    have e0 : (rC t != 0) = true := by simpa using h1
    clear h0 h1 HV hb hok HP
    generalize rC t = z at *
    generalize rK t = k at *
    generalize rN t 2 = v at *
    generalize rN t 4 = i at *
    generalize rN t 6 = l at *
    go_enter Try.func29, Try.ntmps29
    repeat' (first | (go_big_may; first | (refine a_box rfl rfl rfl ?_; intro u zb hN; replace hM := hM.new hN; clear hN) | (refine a_alloc rfl zer_ask rfl ?_; intro u zb hN; replace hM := hM.new hN; clear hN) | (refine a_load rfl rfl row_hub rfl hM.at1 HE.out HC.out ?_)) | go_values | go_skip | go_guarded | go_step | go_upon | (simp only [Int.not_lt, Int.not_le] at *; go_simp))
    refine (HK.out _).mono ?_
    rintro r u ⟨rfl, hv⟩
    replace hM := hM.call hv
    clear hv
    repeat' (first | go_values | go_skip | go_guarded | go_step | go_upon | (simp only [Int.not_lt, Int.not_le] at *; go_simp))
    refine (HRd.out _).mono ?_
    rintro r u ⟨rfl, hv⟩
    replace hM := hM.call hv
    clear hv
    repeat' (first | (go_big_may; first | (refine a_alloc rfl zer_ask rfl ?_; intro u zb hN; replace hM := hM.new hN; clear hN) | (refine a_build rfl rfl hz (by simp [Act.eval]) ?_) | (refine a_fill rfl rfl row_ask rfl rfl hM.at0 rfl (List.length_replicate (n := 4)) ?_; intro u hv hc; replace hM := hM.put0 hc hv; clear hv hc) | (refine a_fill rfl rfl row_ask rfl rfl hM.at1 rfl (List.length_replicate (n := 4)) ?_; intro u hv hc; replace hM := hM.put1 hc hv; clear hv hc)) | go_values | go_skip | go_guarded | go_step | go_upon | (simp only [Int.not_lt, Int.not_le] at *; go_simp))
    exact bodyPost_ret (ret_2 Try.results29 rfl (ld_var row_ask hM.at1 rfl) rfl) rfl ⟨rfl, hM.below⟩
  have h1 : rC t = 0 := by omega
  by_cases h2 : ¬ (8 ≤ rK t ∧ rK t ≤ 10)
  · have HV : Hid (rdA F t = [0, 0, 0, 0] ∧ askE F (qs t) = 12) := by
      have : askE F (qs t) = 12 := by unfold askE; rw [if_neg (fun z => z h0), if_neg (fun z => z h1), if_pos (show ¬ (8 ≤ (qs t).k ∧ (qs t).k ≤ 10) from h2)]
      exact ⟨by unfold rdA; rw [this, if_neg (by decide)], this⟩
    rw [HV.out.1, HV.out.2]
    have e8 : (rK t == 8) = false := by simp; omega
    have e9 : (rK t == 9) = false := by simp; omega
    have e10 : (rK t == 10) = false := by simp; omega
    have HG : Hid (([rK t, rN t 2, rN t 4, rN t 6] : List Int)[0]? = some (rK t)) := rfl
    rw [h1] at HRd
    clear h0 h1 h2 HV hb hok HP
    generalize rK t = k at *
    generalize rN t 2 = v at *
    generalize rN t 4 = i at *
    generalize rN t 6 = l at *
    go_enter Try.func29, Try.ntmps29
    repeat' (first | (go_big_may; first | (refine a_box rfl rfl rfl ?_; intro u zb hN; replace hM := hM.new hN; clear hN) | (refine a_alloc rfl zer_ask rfl ?_; intro u zb hN; replace hM := hM.new hN; clear hN) | (refine a_load rfl rfl row_hub rfl hM.at1 HE.out HC.out ?_)) | go_values | go_skip | go_guarded | go_step | go_upon | (simp only [Int.not_lt, Int.not_le] at *; go_simp))
    refine (HK.out _).mono ?_
    rintro r u ⟨rfl, hv⟩
    replace hM := hM.call hv
    clear hv
    repeat' (first | go_values | go_skip | go_guarded | go_step | go_upon | (simp only [Int.not_lt, Int.not_le] at *; go_simp))
    refine (HRd.out _).mono ?_
    rintro r u ⟨rfl, hv⟩
    replace hM := hM.call hv
    clear hv
    repeat' (first | (go_big_may; first | (refine a_alloc rfl zer_ask rfl ?_; intro u zb hN; replace hM := hM.new hN; clear hN) | (refine a_build rfl rfl hz (by simp [Act.eval]) ?_) | (refine a_fill rfl rfl row_ask rfl rfl hM.at0 rfl (List.length_replicate (n := 4)) ?_; intro u hv hc; replace hM := hM.put0 hc hv; clear hv hc) | (refine a_get rfl rfl rfl hM.at0 HG.out ?_) | (refine a_fill rfl rfl row_ask rfl rfl hM.at1 rfl (List.length_replicate (n := 4)) ?_; intro u hv hc; replace hM := hM.put1 hc hv; clear hv hc)) | go_values | go_skip | go_guarded | go_step | go_upon | (simp only [Int.not_lt, Int.not_le] at *; go_simp))
    exact bodyPost_ret (ret_2 Try.results29 rfl (ld_var row_ask hM.at1 rfl) rfl) rfl ⟨rfl, hM.below⟩
  have h2 : 8 ≤ rK t ∧ rK t ≤ 10 := by omega
  obtain ⟨⟨hi1, hi2⟩, _⟩ := ask_port h1 h2.1 h2.2
  have HG : Hid (([rK t, rN t 2, rN t 4, rN t 6] : List Int)[0]? = some (rK t)) := rfl
  have HG2 : Hid (([rK t, rN t 2, rN t 4, rN t 6] : List Int)[2]? = some (rN t 4)) := rfl
  have HEA : Hid (cut [rK t, rN t 2, rN t 4, rN t 6] 0 4 = [rK t, rN t 2, rN t 4, rN t 6]) := rfl
  rw [h1] at HRd
  by_cases h3 : cn F < rN t 4
  · have HV : Hid (rdA F t = [0, 0, 0, 0] ∧ askE F (qs t) = 8) := by
      have : askE F (qs t) = 8 := by unfold askE; rw [if_neg (fun z => z h0), if_neg (fun z => z h1), if_neg (fun z => z h2), if_pos (show cn F < (qs t).i from h3)]
      exact ⟨by unfold rdA; rw [this, if_neg (by decide)], this⟩
    rw [HV.out.1, HV.out.2]
    have hp : isP F (rN t 4) = false := by unfold isP; simp; omega
    rw [hp] at HP
    have hk : rK t = 8 ∨ rK t = 9 ∨ rK t = 10 := by omega
    clear h0 h1 h2 h3 HV hb hok hp hi1 hi2
    generalize rK t = k at *
    generalize rN t 2 = v at *
    generalize rN t 4 = i at *
    generalize rN t 6 = l at *
    rcases hk with rfl | rfl | rfl
    all_goals
      go_enter Try.func29, Try.ntmps29
      repeat' (first | (go_big_may; first | (refine a_box rfl rfl rfl ?_; intro u zb hN; replace hM := hM.new hN; clear hN) | (refine a_alloc rfl zer_ask rfl ?_; intro u zb hN; replace hM := hM.new hN; clear hN) | (refine a_load rfl rfl row_hub rfl hM.at1 HE.out HC.out ?_)) | go_values | go_skip | go_guarded | go_step | go_upon | (simp only [Int.not_lt, Int.not_le] at *; go_simp))
      refine (HK.out _).mono ?_
      rintro r u ⟨rfl, hv⟩
      replace hM := hM.call hv
      clear hv
      repeat' (first | go_values | go_skip | go_guarded | go_step | go_upon | (simp only [Int.not_lt, Int.not_le] at *; go_simp))
      refine (HRd.out _).mono ?_
      rintro r u ⟨rfl, hv⟩
      replace hM := hM.call hv
      clear hv
      repeat' (first | (go_big_may; first | (refine a_alloc rfl zer_ask rfl ?_; intro u zb hN; replace hM := hM.new hN; clear hN) | (refine a_fill rfl rfl row_ask rfl rfl hM.at0 rfl (List.length_replicate (n := 4)) ?_; intro u hv hc; replace hM := hM.put0 hc hv; clear hv hc) | (refine a_get rfl rfl rfl hM.at0 HG.out ?_) | (refine a_get rfl rfl rfl hM.at0 HG2.out ?_) | (refine a_load rfl rfl row_hub rfl hM.at2 HE.out HC.out ?_)) | go_values | go_skip | go_guarded | go_step | go_upon | (simp only [Int.not_lt, Int.not_le] at *; go_simp))
      refine (HP.out _).mono ?_
      rintro r u ⟨rfl, hv⟩
      replace hM := hM.call hv
      clear hv
      repeat' (first | (go_big_may; first | (refine a_build rfl rfl hz (by simp [Act.eval]) ?_) | (refine a_fill rfl rfl row_ask rfl rfl hM.at1 rfl (List.length_replicate (n := 4)) ?_; intro u hv hc; replace hM := hM.put1 hc hv; clear hv hc)) | go_values | go_skip | go_guarded | go_step | go_upon | (simp only [Int.not_lt, Int.not_le] at *; go_simp))
      exact bodyPost_ret (ret_2 Try.results29 rfl (ld_var row_ask hM.at1 rfl) rfl) rfl ⟨rfl, hM.below⟩
  · have HV : Hid (rdA F t = [rK t, rN t 2, rN t 4, rN t 6] ∧ askE F (qs t) = 0) := by
      have : askE F (qs t) = 0 := by unfold askE; rw [if_neg (fun z => z h0), if_neg (fun z => z h1), if_neg (fun z => z h2), if_neg (show ¬ cn F < (qs t).i from h3)]
      exact ⟨by unfold rdA; rw [if_pos this], this⟩
    rw [HV.out.1, HV.out.2]
    have hp : isP F (rN t 4) = true := by unfold isP; simp; omega
    rw [hp] at HP
    have hk : rK t = 8 ∨ rK t = 9 ∨ rK t = 10 := by omega
    clear h0 h1 h2 h3 HV hb hok hp hi1 hi2
    generalize rK t = k at *
    generalize rN t 2 = v at *
    generalize rN t 4 = i at *
    generalize rN t 6 = l at *
    rcases hk with rfl | rfl | rfl
    all_goals
      go_enter Try.func29, Try.ntmps29
      repeat' (first | (go_big_may; first | (refine a_box rfl rfl rfl ?_; intro u zb hN; replace hM := hM.new hN; clear hN) | (refine a_alloc rfl zer_ask rfl ?_; intro u zb hN; replace hM := hM.new hN; clear hN) | (refine a_load rfl rfl row_hub rfl hM.at1 HE.out HC.out ?_)) | go_values | go_skip | go_guarded | go_step | go_upon | (simp only [Int.not_lt, Int.not_le] at *; go_simp))
      refine (HK.out _).mono ?_
      rintro r u ⟨rfl, hv⟩
      replace hM := hM.call hv
      clear hv
      repeat' (first | go_values | go_skip | go_guarded | go_step | go_upon | (simp only [Int.not_lt, Int.not_le] at *; go_simp))
      refine (HRd.out _).mono ?_
      rintro r u ⟨rfl, hv⟩
      replace hM := hM.call hv
      clear hv
      repeat' (first | (go_big_may; first | (refine a_alloc rfl zer_ask rfl ?_; intro u zb hN; replace hM := hM.new hN; clear hN) | (refine a_fill rfl rfl row_ask rfl rfl hM.at0 rfl (List.length_replicate (n := 4)) ?_; intro u hv hc; replace hM := hM.put0 hc hv; clear hv hc) | (refine a_get rfl rfl rfl hM.at0 HG.out ?_) | (refine a_get rfl rfl rfl hM.at0 HG2.out ?_) | (refine a_load rfl rfl row_hub rfl hM.at2 HE.out HC.out ?_)) | go_values | go_skip | go_guarded | go_step | go_upon | (simp only [Int.not_lt, Int.not_le] at *; go_simp))
      refine (HP.out _).mono ?_
      rintro r u ⟨rfl, hv⟩
      replace hM := hM.call hv
      clear hv
      repeat' (first | (go_big_may; first | (refine a_load rfl rfl row_ask rfl hM.at0 (Nat.le_refl 4) HEA.out ?_) | (refine a_fill rfl rfl row_ask rfl rfl hM.at1 rfl (List.length_replicate (n := 4)) ?_; intro u hv hc; replace hM := hM.put1 hc hv; clear hv hc)) | go_values | go_skip | go_guarded | go_step | go_upon | (simp only [Int.not_lt, Int.not_le] at *; go_simp))
      exact bodyPost_ret (ret_2 Try.results29 rfl (ld_var row_ask hM.at1 rfl) rfl) rfl ⟨rfl, hM.below⟩
end Go.Proofs.Ytdnmjeiljpdmcaa.hub
