/- slots: what behind answers. -/
import Derived.Test.YthjmcopknkemnaaSltH
import Derived.Test.YthjmcopknkemnaaSltI
import Derived.Test.YthjmcopknkemnaaSltQ
namespace Go.Proofs.Ythjmcopknkemnaa.slots
open Go Go.RowKit
set_option linter.unusedVariables false
set_option linter.unusedSimpArgs false
set_option maxRecDepth 100000

def cm (k n e a : Int) : List Int := [k, n, e, a]
set_option maxHeartbeats 8000000 in
theorem behind_any (B : Bd) (k e a : Int) (n : Nat) (w : World) (hw : Wf B) (hn1 : 1 ≤ n) (hn2 : n ≤ 8) (h1 : -9223372036854775808 ≤ a) (h2 : a ≤ 9223372036854775807) :
    Calls Try.prog 79 #[ag (fl B), ag [k, (n : Int), e, a]] w fun r w' => r = .returned (.tuple #[ag (beh (sl B n) (la B : Int) k e a).1, .int .i64 (beh (sl B n) (la B : Int) k e a).2]) ∧ Below w.heap.size w w' := by
  have HL : Hid ((fl B).length = 594) := hw.length
  have HE : Hid (0 + 594 ≤ (fl B).length) := by show 0 + 594 ≤ _; rw [hw.length]; omega
  have HC : Hid (cut (fl B) 0 594 = fl B) := cut_all hw.length
  have HSE : Hid (n * 66 + 66 ≤ (fl B).length) := by show _ ≤ _; rw [hw.length]; omega
  have HSC : Hid (cut (fl B) (n * 66) 66 = sl B n) := fl_cut hw (by omega)
  have hs : (sl B n).length = 66 := hw.sl (by omega)
  have HLA : Hid (∀ u, Calls Try.prog 92 #[ag (fl B)] u fun e w' => e = .returned (.int .i64 (la B : Int)) ∧ Below u.heap.size u w') := fun u => leastAddr_any B u hw
  have HAD : Hid (∀ u, Calls Try.prog 91 #[ag (sl B n), .int .i64 (la B : Int)] u fun e w' => e = .returned (.tuple #[ag (adr (sl B n) (la B : Int)).1, .int .i64 (adr (sl B n) (la B : Int)).2]) ∧ Below u.heap.size u w') := fun u => address_any _ _ u hs
  have HCF : Hid (∀ u, Calls Try.prog 93 #[ag (sl B n), .int .i64 a] u fun r w' => r = .returned (.tuple #[ag (cfg (sl B n) a).1, .int .i64 (cfg (sl B n) a).2]) ∧ Below u.heap.size u w') := fun u => configure_any _ a u hs h1 h2
  have HAE : Hid (∀ u, Calls Try.prog 94 #[ag (sl B n), ag [k, (n : Int), e, a]] u fun r w' => r = .returned (.tuple #[ag (atE (sl B n) k e a).1, .int .i64 (atE (sl B n) k e a).2]) ∧ Below u.heap.size u w') := fun u => atEnd_any _ k n e a u hs
  have A1 : Hid ((adr (sl B n) (la B : Int)).1.length = 66) := adr_length hs
  have A2 : Hid ((cfg (sl B n) a).1.length = 66) := cfg_length hs
  have A3 : Hid ((atE (sl B n) k e a).1.length = 66) := atE_length hs
  have HBE : Hid (beh (sl B n) (la B : Int) k e a = if cl (sl B n) 0 = 0 then (sl B n, 11) else if k = 3 then (z66, 1) else if k = 4 then adr (sl B n) (la B : Int) else if k = 5 then cfg (sl B n) a else atE (sl B n) k e a) := rfl
  generalize sl B n = s at *
  generalize fl B = F at *
  generalize (la B : Int) = lb at *
  have HS : Hid (s.length = 66) := hs
  have HC6 : Hid (cut s 0 66 = s) := cut_all hs
  have HE6 : Hid (0 + 66 ≤ s.length) := by show 0 + 66 ≤ _; omega
  have H0 : Hid (s[0]? = some (cl s 0)) := cl_at (by omega)
  have hM := Mm.nil w
  have q0 : ([k, (n : Int), e, a] : List Int)[0]? = some k := rfl
  have q1 : ([k, (n : Int), e, a] : List Int)[1]? = some (n : Int) := rfl
  have q3 : ([k, (n : Int), e, a] : List Int)[3]? = some a := rfl
  have HQ0 : Hid _ := q0
  have HQ1 : Hid _ := q1
  have HQ3 : Hid _ := q3
  have HZL : Hid (z66.length = 66) := z_length
  have hb := bld_0
  generalize beh s lb k e a = y at *
  obtain ⟨y1, y2⟩ := y
  clear q0 q1 q3 hw hs h1 h2
  by_cases h0 : cl s 0 = 0
  · have HQ : Hid ((y1, y2) = (s, 11)) := by show _ = _; rw [HBE.out, if_pos h0]
    have e0 : (cl s 0 == 0) = true := by simpa using h0
    clear HBE h0
    go_enter Try.func79, Try.ntmps79
    repeat' (first | (go_big_may; first | (refine a_box rfl rfl rfl ?_; intro u zb hN; replace hM := hM.new hN; clear hN) | (refine a_alloc rfl zer_slot rfl ?_; intro u zb hN; replace hM := hM.new hN; clear hN) | (refine a_get rfl rfl rfl hM.at1 HQ1.out ?_) | (refine a_load rfl rfl row_slot rfl hM.at2 HSE.out HSC.out ?_) | (refine a_fill rfl rfl row_slot rfl rfl hM.at0 HS.out List.length_replicate ?_; intro u hv hc; replace hM := hM.put0 hc hv; clear hv hc) | (refine a_get rfl rfl rfl hM.at0 H0.out ?_) | (refine a_load rfl rfl row_slot rfl hM.at0 HE6.out HC6.out ?_) | (refine a_fill rfl rfl row_slot rfl rfl hM.at1 HS.out List.length_replicate ?_; intro u hv hc; replace hM := hM.put1 hc hv; clear hv hc)) | go_values | go_skip | go_guarded | go_step | go_upon | (simp only [Int.not_lt, Int.not_le] at *; go_simp))
    obtain ⟨rfl, rfl⟩ := Prod.mk.inj HQ.out
    exact bodyPost_ret (ret_2 Try.results79 rfl (ld_var row_slot hM.at1 HS.out) rfl) rfl ⟨rfl, hM.below⟩
  rw [if_neg h0] at HBE
  have e0 : (cl s 0 == 0) = false := by simpa using h0
  clear h0
  by_cases h3 : k = 3
  · subst h3
    have HQ : Hid ((y1, y2) = (z66, 1)) := by show _ = _; rw [HBE.out]; rfl
    clear HBE
    go_enter Try.func79, Try.ntmps79
    repeat' (first | (go_big_may; first | (refine a_box rfl rfl rfl ?_; intro u zb hN; replace hM := hM.new hN; clear hN) | (refine a_alloc rfl zer_slot rfl ?_; intro u zb hN; replace hM := hM.new hN; clear hN) | (refine a_get rfl rfl rfl hM.at1 HQ1.out ?_) | (refine a_load rfl rfl row_slot rfl hM.at2 HSE.out HSC.out ?_) | (refine a_fill rfl rfl row_slot rfl rfl hM.at0 HS.out List.length_replicate ?_; intro u hv hc; replace hM := hM.put0 hc hv; clear hv hc) | (refine a_get rfl rfl rfl hM.at0 H0.out ?_) | (refine a_get rfl rfl rfl hM.at2 HQ0.out ?_) | (refine a_build rfl rfl hb (by simp [Act.eval]) ?_) | (refine a_fill rfl rfl row_slot rfl rfl hM.at1 HZL.out List.length_replicate ?_; intro u hv hc; replace hM := hM.put1 hc hv; clear hv hc)) | go_values | go_skip | go_guarded | go_step | go_upon | (simp only [Int.not_lt, Int.not_le] at *; go_simp))
    obtain ⟨rfl, rfl⟩ := Prod.mk.inj HQ.out
    exact bodyPost_ret (ret_2 Try.results79 rfl (ld_var row_slot hM.at1 HZL.out) rfl) rfl ⟨rfl, hM.below⟩
  rw [if_neg h3] at HBE
  have e3 : (k == 3) = false := by simpa using h3
  clear h3
  by_cases h4 : ¬ k = 4
  · rw [if_neg h4] at HBE
    have e4 : (k == 4) = false := by simpa using h4
    clear h4
    by_cases h5 : k = 5
    · subst h5
      have HQ : Hid ((y1, y2) = cfg s a) := by show _ = _; rw [HBE.out]; rfl
      generalize cfg s a = y at *
      obtain ⟨x1, x2⟩ := y
      clear HBE
      go_enter Try.func79, Try.ntmps79
      repeat' (first | (go_big_may; first | (refine a_box rfl rfl rfl ?_; intro u zb hN; replace hM := hM.new hN; clear hN) | (refine a_alloc rfl zer_slot rfl ?_; intro u zb hN; replace hM := hM.new hN; clear hN) | (refine a_get rfl rfl rfl hM.at1 HQ1.out ?_) | (refine a_load rfl rfl row_slot rfl hM.at2 HSE.out HSC.out ?_) | (refine a_fill rfl rfl row_slot rfl rfl hM.at0 HS.out List.length_replicate ?_; intro u hv hc; replace hM := hM.put0 hc hv; clear hv hc) | (refine a_get rfl rfl rfl hM.at0 H0.out ?_) | (refine a_get rfl rfl rfl hM.at2 HQ0.out ?_) | (refine a_get rfl rfl rfl hM.at2 HQ3.out ?_) | (refine a_load rfl rfl row_slot rfl hM.at0 HE6.out HC6.out ?_)) | go_values | go_skip | go_guarded | go_step | go_upon | (simp only [Int.not_lt, Int.not_le] at *; go_simp))
      refine (HCF.out _).mono ?_
      rintro r v ⟨rfl, hv⟩
      replace hM := hM.call hv
      clear hv
      repeat' (first | (go_big_may; first | (refine a_fill rfl rfl row_slot rfl rfl hM.at1 A2.out List.length_replicate ?_; intro u hv hc; replace hM := hM.put1 hc hv; clear hv hc)) | go_values | go_skip | go_guarded | go_step | go_upon | (simp only [Int.not_lt, Int.not_le] at *; go_simp))
      obtain ⟨rfl, rfl⟩ := Prod.mk.inj HQ.out
      exact bodyPost_ret (ret_2 Try.results79 rfl (ld_var row_slot hM.at1 A2.out) rfl) rfl ⟨rfl, hM.below⟩
    · rw [if_neg h5] at HBE
      have e5 : (k == 5) = false := by simpa using h5
      clear h5
      have HQ : Hid ((y1, y2) = atE s k e a) := HBE.out
      have HC4 : Hid (cut [k, (n : Int), e, a] 0 4 = [k, (n : Int), e, a]) := rfl
      have HE4 : Hid (0 + 4 ≤ ([k, (n : Int), e, a] : List Int).length) := Nat.le_refl _
      generalize atE s k e a = y at *
      obtain ⟨x1, x2⟩ := y
      clear HBE
      go_enter Try.func79, Try.ntmps79
      repeat' (first | (go_big_may; first | (refine a_box rfl rfl rfl ?_; intro u zb hN; replace hM := hM.new hN; clear hN) | (refine a_alloc rfl zer_slot rfl ?_; intro u zb hN; replace hM := hM.new hN; clear hN) | (refine a_get rfl rfl rfl hM.at1 HQ1.out ?_) | (refine a_load rfl rfl row_slot rfl hM.at2 HSE.out HSC.out ?_) | (refine a_fill rfl rfl row_slot rfl rfl hM.at0 HS.out List.length_replicate ?_; intro u hv hc; replace hM := hM.put0 hc hv; clear hv hc) | (refine a_get rfl rfl rfl hM.at0 H0.out ?_) | (refine a_get rfl rfl rfl hM.at2 HQ0.out ?_) | (refine a_load rfl rfl row_slot rfl hM.at0 HE6.out HC6.out ?_) | (refine a_load rfl rfl row_cmd rfl hM.at2 HE4.out HC4.out ?_)) | go_values | go_skip | go_guarded | go_step | go_upon | (simp only [Int.not_lt, Int.not_le] at *; go_simp))
      refine (HAE.out _).mono ?_
      rintro r v ⟨rfl, hv⟩
      replace hM := hM.call hv
      clear hv
      repeat' (first | (go_big_may; first | (refine a_fill rfl rfl row_slot rfl rfl hM.at1 A3.out List.length_replicate ?_; intro u hv hc; replace hM := hM.put1 hc hv; clear hv hc)) | go_values | go_skip | go_guarded | go_step | go_upon | (simp only [Int.not_lt, Int.not_le] at *; go_simp))
      obtain ⟨rfl, rfl⟩ := Prod.mk.inj HQ.out
      exact bodyPost_ret (ret_2 Try.results79 rfl (ld_var row_slot hM.at1 A3.out) rfl) rfl ⟨rfl, hM.below⟩
  have h4 : k = 4 := by simpa using h4
  subst h4
  have HQ : Hid ((y1, y2) = adr s lb) := by show _ = _; rw [HBE.out]; rfl
  generalize adr s lb = y at *
  obtain ⟨x1, x2⟩ := y
  clear HBE
  go_enter Try.func79, Try.ntmps79
  repeat' (first | (go_big_may; first | (refine a_box rfl rfl rfl ?_; intro u zc hN; replace hM := hM.new hN; clear hN) | (refine a_alloc rfl zer_slot rfl ?_; intro u zs hN; replace hM := hM.new hN; clear hN) | (refine a_get rfl rfl rfl hM.at1 HQ1.out ?_) | (refine a_load rfl rfl row_slot rfl hM.at2 HSE.out HSC.out ?_) | (refine a_fill rfl rfl row_slot rfl rfl hM.at0 HS.out List.length_replicate ?_; intro u hv hc; replace hM := hM.put0 hc hv; clear hv hc) | (refine a_get rfl rfl rfl hM.at0 H0.out ?_) | (refine a_get rfl rfl rfl hM.at2 HQ0.out ?_)) | go_values | go_skip | go_guarded | go_step | go_upon | (simp only [Int.not_lt, Int.not_le] at *; go_simp))
  rename_i _ _ zbd _ _ zr _ _ _ _ _
  refine wp_abs (fun a0 => a0.tmps.size = 42 ∧ (∀ h, a0.tmps[2]'h = .pointer (some ⟨zbd, 0, none⟩)) ∧ (∀ h, a0.tmps[4]'h = .pointer (some ⟨zr, 0, none⟩)) ∧ (∀ h, a0.tmps[6]'h = .pointer (some ⟨zs, 0, none⟩))) ⟨rfl, fun _ => rfl, fun _ => rfl, fun _ => rfl⟩ ?_
  rintro a0 ⟨hsz, s2, s4, s6⟩ ha0
  refine wp_region_held (S := fun W => ∃ l : List Int, l.length = 66 ∧ Mm w W [(zs, 38, s), (zr, 38, l), (zc, 23, [4, (n : Int), e, a]), (zbd, 41, F)]) (by kernel_rfl) ?_
  have hd : Mm w u.drew _ := ⟨hM.lies, hM.own, hM.ap, hM.below.drew⟩
  have hS0 : ∃ l : List Int, l.length = 66 ∧ Mm w u.drew [(zs, 38, s), (zr, 38, l), (zc, 23, [4, (n : Int), e, a]), (zbd, 41, F)] := ⟨_, List.length_replicate, hd⟩
  refine h_take (i := 0) (ag s) rfl (by kernel_rfl) (by kernel_rfl) (by kernel_rfl) (fun _ _ _ h => h) rfl hS0 (fun W hW => by
    obtain ⟨l, hl, hm⟩ := hW
    exact ex_load rfl row_slot (by simp [go_sem, Act.put, hsz, s6]) hm.at0 HE6.out HC6.out) ?_
  refine h_take (i := 1) (ag F) rfl (by kernel_rfl) (by kernel_rfl) (by kernel_rfl) (fun _ _ _ h => h) rfl hS0 (fun W hW => by
    obtain ⟨l, hl, hm⟩ := hW
    exact ex_load rfl row_board (by simp [go_sem, Act.put, hsz, s2]) hm.at3 HE.out HC.out) ?_
  refine h_call (i := 2) 92 #[ag F] rfl (by kernel_rfl) rfl (by simp [execOp, go_sem, Act.put, hsz]) ((HLA.out _).mono ?_)
  rintro r v ⟨rfl, hv⟩
  have hS1 : ∃ l : List Int, l.length = 66 ∧ Mm w v [(zs, 38, s), (zr, 38, l), (zc, 23, [4, (n : Int), e, a]), (zbd, 41, F)] := ⟨_, List.length_replicate, hd.call hv⟩
  have hd1 := hd.call hv
  refine ⟨_, rfl, hS1, ?_⟩
  refine h_call (i := 3) 91 #[ag s, .int .i64 lb] rfl (by kernel_rfl) rfl (by simp [execOp, go_sem, Act.put, hsz]) ((HAD.out _).mono ?_)
  rintro r v2 ⟨rfl, hv2⟩
  have hd2 := hd1.call hv2
  refine ⟨_, rfl, ⟨_, List.length_replicate, hd2⟩, ?_⟩
  have hS2 : ∃ l : List Int, l.length = 66 ∧ Mm w v2 [(zs, 38, s), (zr, 38, l), (zc, 23, [4, (n : Int), e, a]), (zbd, 41, F)] := ⟨_, List.length_replicate, hd2⟩
  refine h_take (i := 4) (ag x1) rfl (by kernel_rfl) (by kernel_rfl) (by kernel_rfl) (fun _ _ _ h => h) rfl hS2 (fun W hW => by simp [execOp, go_sem, Act.put, hsz]) ?_
  refine h_take (i := 5) (.int .i64 x2) rfl (by kernel_rfl) (by kernel_rfl) (by kernel_rfl) (fun _ _ _ h => h) rfl hS2 (fun W hW => by simp [execOp, go_sem, Act.put, hsz]) ?_
  refine h_fill (i := 6) rfl (by kernel_rfl) rfl rfl row_slot (by simp [go_sem, Act.put, hsz, s4]) (by simp [go_sem, Act.put, hsz]) hd2.at1 A1.out List.length_replicate (fun u3 hl3 hc3 => ?_)
  have hd3 := hd2.put1 hc3 hl3
  refine ⟨⟨_, A1.out, hd3⟩, ?_⟩
  have hS3 : ∃ l : List Int, l.length = 66 ∧ Mm w u3 [(zs, 38, s), (zr, 38, l), (zc, 23, [4, (n : Int), e, a]), (zbd, 41, F)] := ⟨_, A1.out, hd3⟩
  refine h_take (i := 7) (.int .i64 x2) rfl (by kernel_rfl) (by kernel_rfl) (by kernel_rfl) (fun _ _ _ h => h) rfl hS3 (fun W hW => by simp [execOp, go_sem, Act.put, hsz]) ?_
  refine wpAnyH_done (by kernel_rfl) ?_ _
  subst ha0
  clear hsz s2 s4 s6 hS0 hS1 hS2 hS3 hd hd1 hd2 hM
  go_simp
  repeat' (first | go_values | go_skip | go_guarded | go_step | go_upon | (simp only [Int.not_lt, Int.not_le] at *; go_simp))
  obtain ⟨rfl, rfl⟩ := Prod.mk.inj HQ.out
  exact bodyPost_ret (ret_2 Try.results79 rfl (ld_var row_slot hd3.at1 A1.out) rfl) rfl ⟨rfl, hd3.below⟩
end Go.Proofs.Ythjmcopknkemnaa.slots
