/- hub: what appendWord and Control answer. -/
import Derived.Test.YtdnmjeiljpdmcaaHubG
import Derived.Test.YtdnmjeiljpdmcaaHubQ
namespace Go.Proofs.Ytdnmjeiljpdmcaa.hub
open Go Go.RowKit
open Go.Proofs.Ytdnmjeiljpdmcaa.slots (cl cl_at cl_set cl_ext allF allF_step allF_end allF_iff anyF)
open Go.PlainAid
open Go.Proofs.Ytdnmjeiljpdmcaa.lane (Bys nums)
open Go.Proofs.Ytdnmjeiljpdmcaa.setup (rK rN rC rC_zero rC_bad wrd)
set_option linter.unusedVariables false
set_option linter.unusedSimpArgs false
set_option maxRecDepth 100000

set_option maxHeartbeats 1000000 in
theorem appendWord_any (B : Nat) (v : Value) (acc : List Int) (n : Int) (h0 : 0 ≤ n) (h1 : n ≤ 65535) (w : World) (h : Bys w B v acc) (hB : B ≤ w.heap.size) (hl : acc.length ≤ 1000000) :
    Calls Try.prog 32 #[v, .int .i64 n] w fun e w' => ∃ v', e = .returned v' ∧ Bys w' B v' (acc ++ wrd n) ∧ Below B w w' := by
  have H : Hid (Bys w B v acc) := h
  clear h
  go_enter Try.func32, Try.ntmps32
  go_wp2_with (at_builtin; (refine setup.wpList_bys _ rfl _ _ rfl B _ acc rfl (World.ownsRow.alloc H.out _) w.heap.size 2 2 [n % 256, n / 256] rfl rfl (setup.bys_new w [n % 256, n / 256] _) hl (by omega) (by simp; omega) ?_))
  intro v' w2 h2 hg2 hb2
  go_wp2
  go_ret
  exact ⟨_, rfl, h2, ((Below.refl _ _).alloc hB _).trans hb2⟩
theorem bys_chg {u u' : World} {X B : Nat} {v : Value} {acc : List Int} (h : Bys u B v acc) (hc : Chg X u u') (hX : X < B) : Bys u' B v acc := by
  have hb := hc.below 0 u (Nat.zero_le _) (Below.refl _ _)
  have hg : u.grownBy u' (some X) := ⟨hb.os, hb.tape, hb.output, Nat.le_of_eq hc.size.symm, fun k hk hne => hc.other k (fun e => hne (by rw [e]))⟩
  refine World.ownsRow.kept h hg (.inr fun e => ?_)
  have := setup.own_block h X e
  omega
theorem ask_len (F : List Int) (t : ByteArray) : (rdA F t).length = 4 := by unfold rdA; split <;> rfl
theorem ctlV_len {F : List Int} (q : Qs) (h : F.length = 33) : (ctlV F q).length = 33 := by
  unfold ctlV
  split
  · exact h
  · rw [setP_len, h]
/-- a Control without an error is about a port -/
theorem ctl_port {F : List Int} {t : ByteArray} (hF : F.length = 33) (h : askE F (qs t) = 0) : ∃ i : Nat, 1 ≤ i ∧ i < 16 ∧ rN t 4 = (i : Int) ∧ isP F (i : Int) = true ∧ Ok F ∧ rC t = 0 ∧ 8 ≤ rK t ∧ rK t ≤ 10 := by
  unfold askE at h
  by_cases h0 : chk F ≠ 0
  · rw [if_pos h0] at h; omega
  rw [if_neg h0] at h
  by_cases h1 : (qs t).c ≠ 0
  · rw [if_pos h1] at h; omega
  rw [if_neg h1] at h
  by_cases h2 : ¬ (8 ≤ (qs t).k ∧ (qs t).k ≤ 10)
  · rw [if_pos h2] at h; omega
  rw [if_neg h2] at h
  by_cases h3 : cn F < (qs t).i
  · rw [if_pos h3] at h; omega
  have hok := chk_ok hF (by omega)
  have hc : rC t = 0 := by have : (qs t).c = rC t := rfl; omega
  have hk : 8 ≤ rK t ∧ rK t ≤ 10 := by have : (qs t).k = rK t := rfl; omega
  have hi : (qs t).i = rN t 4 := rfl
  obtain ⟨⟨hi1, hi2⟩, _⟩ := ask_port hc hk.1 hk.2
  have := hok.hi
  refine ⟨(rN t 4).toNat, by omega, by omega, by omega, ?_, hok, hc, hk.1, hk.2⟩
  rw [isP_iff]; omega
/-- the document's 'with an error the hub is told as it was handed in' -/
theorem ctl_bad {F : List Int} {t : ByteArray} (hF : F.length = 33) (h : ctlE F (qs t) ≠ 0) : ctlV F (qs t) = F := by
  by_cases h0 : askE F (qs t) = 0
  · obtain ⟨i, hi1, hi2, hi, hp, hok, _⟩ := ctl_port hF h0
    unfold ctlE at h
    rw [if_neg (fun z => z h0)] at h
    by_cases h8 : (qs t).k = 8
    · rw [if_pos h8] at h; exact absurd rfl h
    rw [if_neg h8] at h
    unfold ctlV
    rw [if_neg (by rintro (q | q); exact q h0; exact h8 q)]
    have e : (qs t).i.toNat = i := by show (rN t 4).toNat = i; omega
    rw [e] at h ⊢
    have hs : dnS ((qs t).k == 9) (qs t).v (sta F i) = sta F i ∧ dnC ((qs t).k == 9) (qs t).v (chg F i) = chg F i := by
      unfold dnE at h
      unfold dnS dnC
      cases q : ((qs t).k == 9)
      · rw [q] at h
        simp only [Bool.false_eq_true, if_false] at h ⊢
        by_cases hv : (qs t).v = 8 ∨ (qs t).v = 1 ∨ (qs t).v = 16 ∨ (qs t).v = 17 ∨ (qs t).v = 20
        · rw [if_pos hv] at h; exact absurd rfl h
        · rw [if_neg (by omega), if_neg (by omega), if_neg (by omega), if_neg (by omega), if_neg (by omega)]; exact ⟨rfl, rfl⟩
      · rw [q] at h
        simp only [if_true] at h ⊢
        by_cases h8 : (qs t).v = 8
        · rw [if_pos h8] at h; exact absurd rfl h
        · rw [if_neg h8] at h ⊢
          by_cases h4 : (qs t).v = 4 ∧ 256 < sta F i
          · rw [if_pos h4] at h; exact absurd rfl h
          · rw [if_neg h4]; exact ⟨rfl, trivial⟩
    rw [hs.1, hs.2]
    exact setP_self hF hi2
  · unfold ctlV; rw [if_pos (.inl h0)]
/-- what Control answers -/
def ctS (F : List Int) (t : ByteArray) : ByteArray := strOfNums (ctlT F (qs t))
set_option maxHeartbeats 8000000 in
theorem control_any (F : List Int) (t : ByteArray) (w : World) (hb : Hb F) (ht : t.size ≤ maxLen) : Calls Try.prog 15 #[ag F, .string t] w fun e w' => e = .returned (.tuple #[ag (ctlV F (qs t)), .string (ctS F t), .int .i64 (ctlE F (qs t))]) ∧ Below w.heap.size w w' := by
  have HL : Hid (F.length = 33) := hb.len
  have HC : Hid (cut F 0 33 = F) := cut_all hb.len
  have HE : Hid (0 + 33 ≤ F.length) := by show 0 + 33 ≤ _; rw [hb.len]; omega
  have HR : Hid (∀ u, Calls Try.prog 29 #[ag F, .string t] u fun e w' => e = .returned (.tuple #[ag (rdA F t), .int .i64 (askE F (qs t))]) ∧ Below u.heap.size u w') := fun u => readAsk_any F t u hb ht
  have hM := Mm.nil w
  by_cases h0 : ¬ askE F (qs t) = 0
  · have HV : Hid (ctlV F (qs t) = F ∧ ctS F t = ⟨#[]⟩ ∧ ctlE F (qs t) = askE F (qs t)) := by
      refine ⟨?_, ?_, ?_⟩
      · unfold ctlV; rw [if_pos (.inl h0)]
      · unfold ctS ctlT; rw [if_pos (.inl h0)]; rfl
      · unfold ctlE; rw [if_pos h0]
    rw [HV.out.1, HV.out.2.1, HV.out.2.2]
    have e0 : (askE F (qs t) != 0) = true := by simpa using h0
    have HAL : Hid ((rdA F t).length = 4) := ask_len F t
    clear h0 HV hb
    generalize askE F (qs t) = z at *
    generalize rdA F t = R at *
    go_enter Try.func15, Try.ntmps15
    repeat' (first | (go_big_may; first | (refine a_box rfl rfl rfl ?_; intro u zh hN; replace hM := hM.new hN; clear hN) | (refine a_alloc rfl zer_hub rfl ?_; intro u zr hN; replace hM := hM.new hN; clear hN) | (refine a_load rfl rfl row_hub rfl hM.at1 HE.out HC.out ?_)) | go_values | go_skip | go_guarded | go_step | go_upon | (simp only [Int.not_lt, Int.not_le] at *; go_simp))
    refine (HR.out _).mono ?_
    rintro r u ⟨rfl, hv⟩
    replace hM := hM.call hv
    clear hv
    repeat' (first | (go_big_may; first | (refine a_alloc rfl zer_ask rfl ?_; intro u za hN; replace hM := hM.new hN; clear hN) | (refine a_load rfl rfl row_hub rfl hM.at2 HE.out HC.out ?_) | (refine a_fill rfl rfl row_ask rfl rfl hM.at0 HAL.out (List.length_replicate (n := 4)) ?_; intro u hv hc; replace hM := hM.put0 hc hv; clear hv hc) | (refine a_fill rfl rfl row_hub rfl rfl hM.at1 HL.out rep_33 ?_; intro u hv hc; replace hM := hM.put1 hc hv; clear hv hc)) | go_values | go_skip | go_guarded | go_step | go_upon | (simp only [Int.not_lt, Int.not_le] at *; go_simp))
    exact bodyPost_ret (ret_3 Try.results15 rfl (ld_var row_hub hM.at1 HL.out) rfl rfl) rfl ⟨rfl, hM.below⟩
  have h0 : askE F (qs t) = 0 := by omega
  obtain ⟨i, hi1, hi2, hi, hp, hok, hc, hk1, hk2⟩ := ctl_port hb.len h0
  rw [h0] at HR
  have eR : rdA F t = [rK t, rN t 2, rN t 4, rN t 6] := by unfold rdA; rw [if_pos h0]
  rw [eR, hi] at HR
  have hrg := rgt_iff.1 (hok.rgt hi2)
  have HEP : Hid (1 + i * 2 + 2 ≤ F.length) := by show _ ≤ _; rw [hb.len]; omega
  have HCP : Hid (cut F (1 + i * 2) 2 = [sta F i, chg F i]) := cut_port hb.len hi2
  have HG0 : Hid (([rK t, rN t 2, (i : Int), rN t 6] : List Int)[0]? = some (rK t)) := rfl
  have HG1 : Hid (([rK t, rN t 2, (i : Int), rN t 6] : List Int)[1]? = some (rN t 2)) := rfl
  have HG2 : Hid (([rK t, rN t 2, (i : Int), rN t 6] : List Int)[2]? = some (i : Int)) := rfl
  have htn : (rN t 4).toNat = i := by omega
  have qi : (qs t).i.toNat = i := htn
  have HGS : Hid (([sta F i, chg F i] : List Int)[0]? = some (sta F i)) := rfl
  have HGC : Hid (([sta F i, chg F i] : List Int)[1]? = some (chg F i)) := rfl
  by_cases h8 : rK t = 8
  · have HV : Hid (ctlV F (qs t) = F ∧ ctS F t = strOfNums (wrd (sta F i) ++ wrd (chg F i)) ∧ ctlE F (qs t) = 0) := by
      refine ⟨?_, ?_, ?_⟩
      · unfold ctlV; rw [if_pos (.inr h8)]
      · unfold ctS ctlT; rw [if_neg (by rintro (q | q); exact q h0; exact q h8), qi]; rfl
      · unfold ctlE; rw [if_neg (fun z => z h0), if_pos (show (qs t).k = 8 from h8)]
    rw [HV.out.1, HV.out.2.1, HV.out.2.2]
    have hs := stB_iff.1 hrg.1
    have hcg := chB_iff.1 hrg.2
    have HA1 : Hid (∀ u : World, Calls Try.prog 32 #[.slice none 0 0, .int .i64 (sta F i)] u fun e w' => ∃ v', e = .returned v' ∧ Bys w' u.heap.size v' (wrd (sta F i)) ∧ Below u.heap.size u w') := fun u => appendWord_any u.heap.size _ [] _ (by omega) (by omega) u (Bys.nil u _) (Nat.le_refl _) (by simp)
    have HA2 : Hid (∀ (u : World) (B : Nat) (v : Value), Bys u B v (wrd (sta F i)) → B ≤ u.heap.size → Calls Try.prog 32 #[v, .int .i64 (chg F i)] u fun e w' => ∃ v', e = .returned v' ∧ Bys w' B v' (wrd (sta F i) ++ wrd (chg F i)) ∧ Below B u w') := fun u B v h1 h2 => appendWord_any B v _ _ (by omega) (by omega) u h1 h2 (by simp [wrd])
    clear h0 HV hb hok hc hrg hs hcg eR hk1 hk2 hp hi qi htn hi1
    rw [h8] at HR HG0
    clear h8
    generalize rK t = k at *
    generalize rN t 2 = v at *
    generalize rN t 6 = l at *
    obtain ⟨T, hT⟩ : ∃ T, strOfNums (wrd (sta F i) ++ wrd (chg F i)) = T := ⟨_, rfl⟩
    have HT : Hid (strOfNums (wrd (sta F i) ++ wrd (chg F i)) = T) := hT
    rw [hT]
    clear hT
    generalize sta F i = s at *
    generalize chg F i = c at *
    go_enter Try.func15, Try.ntmps15
    repeat' (first | (go_big_may; first | (refine a_box rfl rfl rfl ?_; intro u zh hN; replace hM := hM.new hN; clear hN) | (refine a_alloc rfl zer_hub rfl ?_; intro u zr hN; replace hM := hM.new hN; clear hN) | (refine a_load rfl rfl row_hub rfl hM.at1 HE.out HC.out ?_)) | go_values | go_skip | go_guarded | go_step | go_upon | (simp only [Int.not_lt, Int.not_le] at *; go_simp))
    refine (HR.out _).mono ?_
    rintro r u ⟨rfl, hv⟩
    replace hM := hM.call hv
    clear hv
    repeat' (first | (go_big_may; first | (refine a_alloc rfl zer_ask rfl ?_; intro u za hN; replace hM := hM.new hN; clear hN) | (refine a_fill rfl rfl row_ask rfl rfl hM.at0 rfl (List.length_replicate (n := 4)) ?_; intro u hv hc; replace hM := hM.put0 hc hv; clear hv hc) | (refine a_get rfl rfl rfl hM.at0 HG2.out ?_) | (refine a_get rfl rfl rfl hM.at1 HG0.out ?_) | (refine a_load rfl rfl row_port rfl hM.at2 HEP.out HCP.out ?_) | (refine a_alloc rfl zer_port rfl ?_; intro u zp hN; replace hM := hM.new hN; clear hN) | (refine a_fill rfl rfl row_port rfl rfl hM.at0 rfl (List.length_replicate (n := 2)) ?_; intro u hv hc; replace hM := hM.put0 hc hv; clear hv hc)) | go_values | go_skip | go_guarded | go_step | go_upon | (simp only [Int.not_lt, Int.not_le] at *; go_simp))
    go_simp
    refine reg.wp_abs (fun a0 => a0.tmps.size = 60 ∧ (∀ h, a0.tmps[2]'h = .pointer (some ⟨zh, 0, none⟩)) ∧ (∀ h, a0.tmps[4]'h = .pointer (some ⟨zr, 0, none⟩)) ∧ (∀ h, a0.tmps[9]'h = .pointer (some ⟨zp, 0, none⟩))) ⟨rfl, fun _ => rfl, fun _ => rfl, fun _ => rfl⟩ ?_
    rintro a0 ⟨hsz, s2, s4, s9⟩ ha0
    refine reg.wp_region_E (S := fun W => Ls W [(zp, 23, [s,c]), (zh, 26, F)]) (E := fun _ => false) (by kernel_rfl) ?_
    replace hM := hM.drew
    refine reg.e_take (i := 0) (ag F) rfl (by kernel_rfl) (by kernel_rfl) (by kernel_rfl) (by kernel_rfl) (fun _ _ _ h => h) (reg.wanted_none rfl) (hM.ls (by simp)) (fun W hW => ex_load rfl row_hub (by simp [go_sem, Act.put, hsz, s2, s4, s9]) hW.at1 HE.out HC.out) ?_
    refine reg.e_take (i := 1) (.pointer (some ⟨zp, 0, none⟩)) rfl (by kernel_rfl) (by kernel_rfl) (by kernel_rfl) (by kernel_rfl) (fun _ _ _ h => h) (reg.wanted_none rfl) (hM.ls (by simp)) (fun W hW => by simp [execOp, go_sem, Act.put, hsz, s2, s4, s9]) ?_
    refine reg.e_take (i := 2) (.int .i64 s) rfl (by kernel_rfl) (by kernel_rfl) (by kernel_rfl) (by kernel_rfl) (fun _ _ _ h => h) (reg.wanted_none rfl) (hM.ls (by simp)) (fun W hW => ex_get rfl (by simp [go_sem, Act.put, hsz, s2, s4, s9]) hW.at0 HGS.out) ?_
    refine reg.e_take (i := 4) (.pointer (some ⟨zp, 1, none⟩)) rfl (by kernel_rfl) (by kernel_rfl) (by kernel_rfl) (by kernel_rfl) (fun _ _ _ h => h) (reg.wanted_none rfl) (hM.ls (by simp)) (fun W hW => by simp [execOp, go_sem, Act.put, hsz, s2, s4, s9]) ?_
    refine reg.e_take (i := 5) (.int .i64 c) rfl (by kernel_rfl) (by kernel_rfl) (by kernel_rfl) (by kernel_rfl) (fun _ _ _ h => h) (reg.wanted_none rfl) (hM.ls (by simp)) (fun W hW => ex_get rfl (by simp [go_sem, Act.put, hsz, s2, s4, s9]) hW.at0 HGC.out) ?_
    refine reg.e_one 3 (by kernel_rfl) rfl ?_
    refine reg.r_call (i := 3) 32 #[.slice none 0 0, .int .i64 s] rfl (reg.wanted_none rfl) (by simp [execOp, go_sem, Act.put, hsz, s2, s4, s9]) ((HA1.out _).mono ?_)
    rintro re ru1 ⟨va, rfl, hBy1, hb1⟩
    have hq := hM.lts
    have hBs := hb1.size
    have hwB := hM.below.size
    replace hM := hM.call hb1
    refine ⟨_, rfl, hM.ls (by simp), ?_⟩
    refine reg.e_one 6 (by kernel_rfl) rfl ?_
    refine reg.r_call (i := 6) 32 #[va, .int .i64 c] rfl (reg.wanted_none rfl) (by simp [execOp, go_sem, Act.put, hsz, s2, s4, s9]) ((HA2.out _ _ _ hBy1 hBs).mono ?_)
    rintro re ru2 ⟨vb, rfl, hBy2, hb2⟩
    replace hM := hM.callB hq hwB hb2
    refine ⟨_, rfl, hM.ls (by simp), ?_⟩
    refine reg.e_two 7 8 (by kernel_rfl) rfl rfl ?_ ?_
    · refine reg.r_same (i := 7) (.string T) rfl (reg.wanted_none rfl) (by have hcv := hBy2.conv; rw [HT.out] at hcv; simp [execOp, go_sem, Act.put, hsz, s2, s4, s9, hcv]) ?_
      refine ⟨hM.ls (by simp), ?_⟩
      refine reg.e_one 8 (by kernel_rfl) rfl ?_
      refine r_fill (i := 8) rfl (reg.wanted_none rfl) rfl row_hub (by simp [go_sem, Act.put, hsz, s2, s4, s9]) (by simp [go_sem, Act.put, hsz, s2, s4, s9]) hM.at2 HL.out rep_33 ?_
      intro ru4 rhv rhc
      replace hM := hM.put2 rhc rhv
      try replace hBy1 := bys_chg hBy1 rhc (hq zr (by simp))
      try replace hBy2 := bys_chg hBy2 rhc (hq zr (by simp))
      try replace hBs := Nat.le_trans hBs (Nat.le_of_eq rhc.size.symm)
      clear rhc rhv
      refine ⟨hM.ls (by simp), ?_⟩
      refine reg.e_take (i := 9) (.string T) rfl (by kernel_rfl) (by kernel_rfl) (by kernel_rfl) (by kernel_rfl) (fun _ _ _ h => h) (reg.wanted_none rfl) (hM.ls (by simp)) (fun W hW => by simp [execOp, go_sem, Act.put, hsz, s2, s4, s9]) ?_
      refine reg.e_take (i := 10) (.int .i64 0) rfl (by kernel_rfl) (by kernel_rfl) (by kernel_rfl) (by kernel_rfl) (fun _ _ _ h => h) (reg.wanted_none rfl) (hM.ls (by simp)) (fun W hW => by simp [execOp, go_sem, Act.put, hsz, s2, s4, s9]) ?_
      refine reg.e_done (by kernel_rfl) ?_ _
      subst ha0
      clear hsz s2 s4 s9
      go_simp
      repeat' (first | go_values | go_skip | go_guarded | go_step | go_upon | (simp only [Int.not_lt, Int.not_le] at *; go_simp))
      exact bodyPost_ret (ret_3 Try.results15 rfl (ld_var row_hub hM.at2 HL.out) rfl rfl) rfl ⟨rfl, hM.below⟩
    · refine r_fill (i := 8) rfl (reg.wanted_none rfl) rfl row_hub (by simp [go_sem, Act.put, hsz, s2, s4, s9]) (by simp [go_sem, Act.put, hsz, s2, s4, s9]) hM.at2 HL.out rep_33 ?_
      intro ru5 rhv rhc
      replace hM := hM.put2 rhc rhv
      try replace hBy1 := bys_chg hBy1 rhc (hq zr (by simp))
      try replace hBy2 := bys_chg hBy2 rhc (hq zr (by simp))
      try replace hBs := Nat.le_trans hBs (Nat.le_of_eq rhc.size.symm)
      clear rhc rhv
      refine ⟨hM.ls (by simp), ?_⟩
      refine reg.e_one 7 (by kernel_rfl) rfl ?_
      refine reg.r_same (i := 7) (.string T) rfl (reg.wanted_none rfl) (by have hcv := hBy2.conv; rw [HT.out] at hcv; simp [execOp, go_sem, Act.put, hsz, s2, s4, s9, hcv]) ?_
      refine ⟨hM.ls (by simp), ?_⟩
      refine reg.e_take (i := 9) (.string T) rfl (by kernel_rfl) (by kernel_rfl) (by kernel_rfl) (by kernel_rfl) (fun _ _ _ h => h) (reg.wanted_none rfl) (hM.ls (by simp)) (fun W hW => by simp [execOp, go_sem, Act.put, hsz, s2, s4, s9]) ?_
      refine reg.e_take (i := 10) (.int .i64 0) rfl (by kernel_rfl) (by kernel_rfl) (by kernel_rfl) (by kernel_rfl) (fun _ _ _ h => h) (reg.wanted_none rfl) (hM.ls (by simp)) (fun W hW => by simp [execOp, go_sem, Act.put, hsz, s2, s4, s9]) ?_
      refine reg.e_done (by kernel_rfl) ?_ _
      subst ha0
      clear hsz s2 s4 s9
      go_simp
      repeat' (first | go_values | go_skip | go_guarded | go_step | go_upon | (simp only [Int.not_lt, Int.not_le] at *; go_simp))
      exact bodyPost_ret (ret_3 Try.results15 rfl (ld_var row_hub hM.at2 HL.out) rfl rfl) rfl ⟨rfl, hM.below⟩
  rcases (by omega : rK t = 9 ∨ rK t = 10) with hk | hk
  · have HV : Hid (ctlV F (qs t) = setP F i (dnS true (rN t 2) (sta F i)) (dnC true (rN t 2) (chg F i)) ∧ ctS F t = ⟨#[]⟩ ∧ ctlE F (qs t) = dnE true (rN t 2) (sta F i)) := by
      have hq : ((qs t).k == 9) = true := by show (rK t == 9) = true; rw [hk]; rfl
      have h8' : ¬ (qs t).k = 8 := h8
      refine ⟨?_, ?_, ?_⟩
      · unfold ctlV; rw [if_neg (by rintro (q | q); exact q h0; exact h8' q), qi, hq]; rfl
      · unfold ctS ctlT; rw [if_pos (.inr h8')]; rfl
      · unfold ctlE; rw [if_neg (fun z => z h0), if_neg h8', qi, hq]; rfl
    rw [HV.out.1, HV.out.2.1, HV.out.2.2]
    have HT : Hid (∀ u, Calls Try.prog 30 #[ag [sta F i, chg F i], .int .i64 (rN t 2)] u fun e w' => e = .returned (.tuple #[ag [dnS true (rN t 2) (sta F i), dnC true (rN t 2) (chg F i)], .int .i64 (dnE true (rN t 2) (sta F i))]) ∧ Below u.heap.size u w') := fun u => turnOn_any _ _ _ u hrg.1
    have HPP : Hid (putL F (1 + i * 2) [dnS true (rN t 2) (sta F i), dnC true (rN t 2) (chg F i)] = setP F i (dnS true (rN t 2) (sta F i)) (dnC true (rN t 2) (chg F i))) := putL_port hb.len hi2 _ _
    have HL3 : Hid ((setP F i (dnS true (rN t 2) (sta F i)) (dnC true (rN t 2) (chg F i))).length = 33) := by show _ = 33; rw [setP_len, hb.len]
    rw [hk] at HR HG0
    clear h0 h8 HV hb hok hc hrg eR hk1 hk2 hp hi qi htn hi1 hk
    generalize setP F i (dnS true (rN t 2) (sta F i)) (dnC true (rN t 2) (chg F i)) = F2 at *
    generalize dnS true (rN t 2) (sta F i) = s' at *
    generalize dnC true (rN t 2) (chg F i) = c' at *
    generalize dnE true (rN t 2) (sta F i) = z at *
    generalize rK t = k at *
    generalize rN t 2 = v at *
    generalize rN t 6 = l at *
    generalize sta F i = s at *
    generalize chg F i = c at *
    have HE2 : Hid (0 + 33 ≤ F2.length) := by show 0 + 33 ≤ _; rw [HL3.out]; omega
    have HC2 : Hid (cut F2 0 33 = F2) := cut_all HL3.out
    go_enter Try.func15, Try.ntmps15
    repeat' (first | (go_big_may; first | (refine a_box rfl rfl rfl ?_; intro u zh hN; replace hM := hM.new hN; clear hN) | (refine a_alloc rfl zer_hub rfl ?_; intro u zr hN; replace hM := hM.new hN; clear hN) | (refine a_load rfl rfl row_hub rfl hM.at1 HE.out HC.out ?_)) | go_values | go_skip | go_guarded | go_step | go_upon | (simp only [Int.not_lt, Int.not_le] at *; go_simp))
    refine (HR.out _).mono ?_
    rintro r u ⟨rfl, hv⟩
    replace hM := hM.call hv
    clear hv
    repeat' (first | (go_big_may; first | (refine a_alloc rfl zer_ask rfl ?_; intro u za hN; replace hM := hM.new hN; clear hN) | (refine a_fill rfl rfl row_ask rfl rfl hM.at0 rfl (List.length_replicate (n := 4)) ?_; intro u hv hc; replace hM := hM.put0 hc hv; clear hv hc) | (refine a_get rfl rfl rfl hM.at0 HG2.out ?_) | (refine a_get rfl rfl rfl hM.at1 HG0.out ?_) | (refine a_get rfl rfl rfl hM.at1 HG1.out ?_) | (refine a_load rfl rfl row_port rfl hM.at2 HEP.out HCP.out ?_) | (refine a_alloc rfl zer_port rfl ?_; intro u zp hN; replace hM := hM.new hN; clear hN) | (refine a_fill rfl rfl row_port rfl rfl hM.at0 rfl (List.length_replicate (n := 2)) ?_; intro u hv hc; replace hM := hM.put0 hc hv; clear hv hc) | (refine a_load rfl rfl row_port rfl hM.at0 (by simp) (cut2 _ _) ?_)) | go_values | go_skip | go_guarded | go_step | go_upon | (simp only [Int.not_lt, Int.not_le] at *; go_simp))
    refine (HT.out _).mono ?_
    rintro r u ⟨rfl, hv⟩
    replace hM := hM.call hv
    clear hv
    repeat' (first | (go_big_may; first | (refine a_fill rfl rfl row_port rfl rfl hM.at0 rfl rfl ?_; intro u hv hc; replace hM := hM.put0 hc hv; clear hv hc) | (refine a_get rfl rfl rfl hM.at1 HG2.out ?_) | (refine a_load rfl rfl row_port rfl hM.at0 (by simp) (cut2 _ _) ?_) | (refine a_store rfl rfl row_port rfl rfl hM.at3 rfl HEP.out HPP.out ?_; intro u hv hc; replace hM := hM.put3 hc hv; clear hv hc) | (refine a_load rfl rfl row_hub rfl hM.at3 HE2.out HC2.out ?_) | (refine a_fill rfl rfl row_hub rfl rfl hM.at2 HL3.out rep_33 ?_; intro u hv hc; replace hM := hM.put2 hc hv; clear hv hc)) | go_values | go_skip | go_guarded | go_step | go_upon | (simp only [Int.not_lt, Int.not_le] at *; go_simp))
    exact bodyPost_ret (ret_3 Try.results15 rfl (ld_var row_hub hM.at2 HL3.out) rfl rfl) rfl ⟨rfl, hM.below⟩
  · have HV : Hid (ctlV F (qs t) = setP F i (dnS false (rN t 2) (sta F i)) (dnC false (rN t 2) (chg F i)) ∧ ctS F t = ⟨#[]⟩ ∧ ctlE F (qs t) = dnE false (rN t 2) (sta F i)) := by
      have hq : ((qs t).k == 9) = false := by show (rK t == 9) = false; rw [hk]; rfl
      have h8' : ¬ (qs t).k = 8 := h8
      refine ⟨?_, ?_, ?_⟩
      · unfold ctlV; rw [if_neg (by rintro (q | q); exact q h0; exact h8' q), qi, hq]; rfl
      · unfold ctS ctlT; rw [if_pos (.inr h8')]; rfl
      · unfold ctlE; rw [if_neg (fun z => z h0), if_neg h8', qi, hq]; rfl
    rw [HV.out.1, HV.out.2.1, HV.out.2.2]
    have HT : Hid (∀ u, Calls Try.prog 31 #[ag [sta F i, chg F i], .int .i64 (rN t 2)] u fun e w' => e = .returned (.tuple #[ag [dnS false (rN t 2) (sta F i), dnC false (rN t 2) (chg F i)], .int .i64 (dnE false (rN t 2) (sta F i))]) ∧ Below u.heap.size u w') := fun u => turnOff_any _ _ _ u hrg.1 hrg.2
    have HPP : Hid (putL F (1 + i * 2) [dnS false (rN t 2) (sta F i), dnC false (rN t 2) (chg F i)] = setP F i (dnS false (rN t 2) (sta F i)) (dnC false (rN t 2) (chg F i))) := putL_port hb.len hi2 _ _
    have HL3 : Hid ((setP F i (dnS false (rN t 2) (sta F i)) (dnC false (rN t 2) (chg F i))).length = 33) := by show _ = 33; rw [setP_len, hb.len]
    rw [hk] at HR HG0
    clear h0 h8 HV hb hok hc hrg eR hk1 hk2 hp hi qi htn hi1 hk
    generalize setP F i (dnS false (rN t 2) (sta F i)) (dnC false (rN t 2) (chg F i)) = F2 at *
    generalize dnS false (rN t 2) (sta F i) = s' at *
    generalize dnC false (rN t 2) (chg F i) = c' at *
    generalize dnE false (rN t 2) (sta F i) = z at *
    generalize rK t = k at *
    generalize rN t 2 = v at *
    generalize rN t 6 = l at *
    generalize sta F i = s at *
    generalize chg F i = c at *
    have HE2 : Hid (0 + 33 ≤ F2.length) := by show 0 + 33 ≤ _; rw [HL3.out]; omega
    have HC2 : Hid (cut F2 0 33 = F2) := cut_all HL3.out
    go_enter Try.func15, Try.ntmps15
    repeat' (first | (go_big_may; first | (refine a_box rfl rfl rfl ?_; intro u zh hN; replace hM := hM.new hN; clear hN) | (refine a_alloc rfl zer_hub rfl ?_; intro u zr hN; replace hM := hM.new hN; clear hN) | (refine a_load rfl rfl row_hub rfl hM.at1 HE.out HC.out ?_)) | go_values | go_skip | go_guarded | go_step | go_upon | (simp only [Int.not_lt, Int.not_le] at *; go_simp))
    refine (HR.out _).mono ?_
    rintro r u ⟨rfl, hv⟩
    replace hM := hM.call hv
    clear hv
    repeat' (first | (go_big_may; first | (refine a_alloc rfl zer_ask rfl ?_; intro u za hN; replace hM := hM.new hN; clear hN) | (refine a_fill rfl rfl row_ask rfl rfl hM.at0 rfl (List.length_replicate (n := 4)) ?_; intro u hv hc; replace hM := hM.put0 hc hv; clear hv hc) | (refine a_get rfl rfl rfl hM.at0 HG2.out ?_) | (refine a_get rfl rfl rfl hM.at1 HG0.out ?_) | (refine a_get rfl rfl rfl hM.at1 HG1.out ?_) | (refine a_load rfl rfl row_port rfl hM.at2 HEP.out HCP.out ?_) | (refine a_alloc rfl zer_port rfl ?_; intro u zp hN; replace hM := hM.new hN; clear hN) | (refine a_fill rfl rfl row_port rfl rfl hM.at0 rfl (List.length_replicate (n := 2)) ?_; intro u hv hc; replace hM := hM.put0 hc hv; clear hv hc) | (refine a_load rfl rfl row_port rfl hM.at0 (by simp) (cut2 _ _) ?_)) | go_values | go_skip | go_guarded | go_step | go_upon | (simp only [Int.not_lt, Int.not_le] at *; go_simp))
    refine (HT.out _).mono ?_
    rintro r u ⟨rfl, hv⟩
    replace hM := hM.call hv
    clear hv
    repeat' (first | (go_big_may; first | (refine a_fill rfl rfl row_port rfl rfl hM.at0 rfl rfl ?_; intro u hv hc; replace hM := hM.put0 hc hv; clear hv hc) | (refine a_get rfl rfl rfl hM.at1 HG2.out ?_) | (refine a_load rfl rfl row_port rfl hM.at0 (by simp) (cut2 _ _) ?_) | (refine a_store rfl rfl row_port rfl rfl hM.at3 rfl HEP.out HPP.out ?_; intro u hv hc; replace hM := hM.put3 hc hv; clear hv hc) | (refine a_load rfl rfl row_hub rfl hM.at3 HE2.out HC2.out ?_) | (refine a_fill rfl rfl row_hub rfl rfl hM.at2 HL3.out rep_33 ?_; intro u hv hc; replace hM := hM.put2 hc hv; clear hv hc)) | go_values | go_skip | go_guarded | go_step | go_upon | (simp only [Int.not_lt, Int.not_le] at *; go_simp))
    exact bodyPost_ret (ret_3 Try.results15 rfl (ld_var row_hub hM.at2 HL3.out) rfl rfl) rfl ⟨rfl, hM.below⟩
end Go.Proofs.Ytdnmjeiljpdmcaa.hub
