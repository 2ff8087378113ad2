/- GreetWell: the walk, where the device has no serial number. -/
import Derived.Test.YtonheibhbilhhaaGreL
import Derived.Test.YtonheibhbilhhaaGreO
import Derived.Test.YtonheibhbilhhaaGreP
import Derived.Test.YtonheibhbilhhaaDescCo
import Derived.Test.YtonheibhbilhhaaRegK
import Derived.Test.YtonheibhbilhhaaGreetWellU
namespace Go.Proofs.Ytonheibhbilhhaa.greetWell
open Go Go.RowKit Go.PlainAid Go.Proofs.Ytonheibhbilhhaa.lane Go.Proofs.Ytonheibhbilhhaa.desc Go.Proofs.Ytonheibhbilhhaa.greet Go.Proofs.Ytonheibhbilhhaa.gadget
set_option linter.unusedVariables false
set_option linter.unusedSimpArgs false
set_option maxRecDepth 100000

set_option maxHeartbeats 16000000 in
theorem walk0 (d : Dv) (c : Cf) (L : FL) (v : Value) (T : List (List Int)) (tv : Value) (x : Int) (vF : Value) (F : List Int) (wx : (Lit.int .i64 x).wf = true) (w : World) (hp : Shr w c L v T tv) (hF : greet.Ris w vF F) (hq : begE d c T x F = 0) (hse : d.se = 0) :
    Calls Try.prog 7 #[ag (shl d c v tv), .int .i64 x, vF] w fun e w' => e = .returned (.bool true) ∧ Below w.heap.size w w' := by
  have hbb : ∀ f ∈ c.fs, BB f.ex := fun f hf => by
    rw [← hp.rc.eq] at hf
    obtain ⟨q, hq, rfl⟩ := List.mem_map.1 hf
    exact (hp.rc.fs.all q hq).bb
  obtain ⟨m, hm⟩ : ∃ m, metM d c T x F = m := ⟨_, rfl⟩
  obtain ⟨z, hz⟩ : ∃ z, begE d c T x F = z := ⟨_, rfl⟩
  have h0 : z = 0 := by rw [← hz]; exact hq
  clear hq
  have HMe : Hid (∀ u, Below w.heap.size w u → Calls Try.prog 19 #[ag (shl d c v tv), .int .i64 x, vF] u fun r w' => ∃ u' L', r = .returned (.tuple #[grV m.g u', ag (gdl m.s m.a m.h), .int .i64 (m.n : Int), .int .i64 z]) ∧ Oc u w' u' L' ∧ L'.map Prod.fst = m.g.c.fs ∧ Below u.heap.size u w') := fun u hu => by
    have := meet_any coAll d c L v T tv x vF F u (hp.below hu) (hF.below hu)
    unfold MtP at this
    rw [hm, hz] at this
    exact this
  have HLV : Hid (∀ u, Calls Try.prog 16 #[] u fun e w' => e = .returned (.bool true) ∧ Below u.heap.size u w') := fun u => lives_any coAll u
  have HSO : Hid (v.oneCell' = true ∧ tv.oneCell' = true) := ⟨rc_one hp.rc, by obtain ⟨a, c, h, _⟩ := hp.tx; rw [h]; rfl⟩
  have HRF : Hid (∀ u, Below w.heap.size w u → greet.Ris u vF F) := fun u hu => hF.below hu
  have HRc : Hid (∀ u, Below w.heap.size w u → Rc u v c L) := fun u hu => hp.rc.below hu
  have HZN : Hid (z ≠ 0 → (m.n : Int) = 0) := fun q => by
    rw [← hm]
    unfold metM
    rw [if_pos (by rw [hz]; exact q)]
    rfl
  have HWl : Hid (z = 0 → fewB 0 F = true → (gds F < asksN d → m.g.st < 8) ∧ (asksN d ≤ gds F → m.g.st = 8 ∧ m.s = 2 ∧ m.a = x ∧ m.h = 0 ∧ m.g.d = d ∧ m.g.c = c ∧ m.g.sr = srV d T)) := fun q hw => by
    have := met_well (d := d) (c := c) (T := T) (a := x) (F := F) (by rw [hz]; exact q) hbb hw
    rw [hm] at this
    exact this
  have HSe : Hid (z = 0 → 0 ≤ d.se ∧ d.se ≤ (T.length : Int) ∧ (d.se ≠ 0 → (seT d T).size ≤ 504)) := fun q => by
    have hS : chkS d c T = 0 := by
      rw [← hz] at q
      unfold begE at q
      split at q
      · rename_i q2; exact absurd q q2
      · rename_i q2; omega
    obtain ⟨a1, a2⟩ := se_in hS
    refine ⟨a1, a2, fun h0 => ?_⟩
    have hk : (d.se - 1).toNat < T.length := by omega
    have ht : T[(d.se - 1).toNat]? = some (T.getD (d.se - 1).toNat []) := by rw [List.getD_eq_getElem?_getD, List.getElem?_eq_getElem hk]; rfl
    exact (descNames.back (txE_all (chkS_ok hS).2.2.2.2 _ (List.mem_of_getElem? ht))).2.2.1
  have HTx : Hid (∀ u, Below w.heap.size w u → Rts u tv T) := fun u hu => hp.tx.below hu
  obtain ⟨ta, tc, htv, ht1, ht2, _⟩ := hp.tx.cell
  subst htv
  obtain ⟨fa, fc, hvf, hfc1, hfc2, _⟩ := hF
  have hM := Mo.nil w
  unfold maxLen at hfc2 ht2
  clear hp wx hm hz hbb
  subst hvf
  obtain ⟨n, hn⟩ : ∃ n, F.length = n := ⟨_, rfl⟩
  have HN : Hid (F.length = n) := hn
  obtain ⟨tn, htn⟩ : ∃ n, T.length = n := ⟨_, rfl⟩
  have HTN : Hid (T.length = tn) := htn
  rw [hn] at HRF HMe hfc1 ⊢
  rw [htn] at HTx HMe ht1 HSe ⊢
  clear hn htn
  obtain ⟨hs0, hs1, hs2⟩ := HSe.out h0
  have HW := HWl.out h0
  subst h0
  clear HSe HWl HZN
  have HWl : Hid (fewB 0 F = true → (gds F < asksN d → m.g.st < 8) ∧ (asksN d ≤ gds F → m.g.st = 8 ∧ m.s = 2 ∧ m.a = x ∧ m.h = 0 ∧ m.g.d = d ∧ m.g.c = c ∧ m.g.sr = srV d T)) := HW
  have HSz : Hid (d.se ≠ 0 → (seT d T).size ≤ 504) := hs2
  clear HW hs2
  have HSC : Hid (∀ u vf D, Oc w u vf D → D.map Prod.fst = c.fs → Below w.heap.size w u → Calls Try.prog 20 #[ag (cfl c vf), ag (cfl c v)] u fun e w' => e = .returned (.bool true) ∧ Below u.heap.size u w') := fun u vf D ho hD hu => sameConfig_same c vf v D L u (ho.rc hD) (HRc.out u hu)
  have HRo : Hid (d.se ≠ 0 → ∀ u, Calls Try.prog 21 #[.string (seT d T)] u fun e w' => e = .returned (.string (utf.clean (seT d T))) ∧ Below u.heap.size u w') := fun q u => utf.runesOf_any _ u (by have := HSz.out q; omega)
  clear HRc HSz
  have HQ : Hid (asksN d = 6) := by show _ = _; unfold asksN; rw [if_pos hse]
  have HSR : Hid (srV d T = ⟨#[]⟩) := by show _ = _; unfold srV; rw [if_pos hse]
  have HS10 : Hid ((shl d c v (.slice ta tn tc))[10]? = some (.int .i64 0)) := by show _ = _; rw [← hse]; rfl
  have HSd : Hid (cut (shl d c v (.slice ta tn tc)) 0 12 = dvl d) := rfl
  have HSc : Hid (cut (shl d c v (.slice ta tn tc)) 12 5 = cfl c v) := rfl
  have HL0 : Hid (0 + 12 ≤ (shl d c v (.slice ta tn tc)).length) := by show _ ≤ _; exact of_decide_eq_true rfl
  have HL1 : Hid (12 + 5 ≤ (shl d c v (.slice ta tn tc)).length) := by show _ ≤ _; exact of_decide_eq_true rfl
  clear hs0 hs1 hse HRo HTx
  go_enter Try.func7, Try.ntmps7
  repeat' (first | (go_big_may; first | (refine v_box rfl rfl rfl ?_; intro u zs hN; replace hM := hM.new hN; clear hN) | (refine v_load rfl rfl row_sheet rfl hM.at0 (Nat.le_refl _) (cut_all rfl) ?_)) | go_values | go_skip | go_guarded | go_step | go_upon | (simp only [Int.not_lt, Int.not_le] at *; go_simp))
  refine (HMe.out _ hM.below).mono ?_
  rintro e1 u1 ⟨vf, D, rfl, ho, hD, hb⟩
  have HO : Hid (vf.oneCell' = true) := ho.one
  have HDD : Hid (D.map Prod.fst = m.g.c.fs) := hD
  replace hM := hM.take hb ho
  clear hb ho hD HMe
  repeat' (first | (go_big_may; first | (refine v_alloc rfl zer_greeting rfl ?_; intro u za hN; replace hM := hM.new hN; clear hN) | (refine v_alloc rfl zer_gadget rfl ?_; intro u zb hN; replace hM := hM.new hN; clear hN) | (refine v_fill rfl rfl row_greeting rfl rfl hM.at1 (grl_vs _ HO.out) rfl ?_; intro u hv hc; replace hM := hM.put1 hc hv; clear hv hc) | (refine v_fill rfl rfl row_gadget rfl rfl hM.at0 (gdl_vs _ _ _) rfl ?_; intro u hv hc; replace hM := hM.put0 hc hv; clear hv hc)) | go_values | go_skip | go_guarded | go_step | go_upon | (simp only [Int.not_lt, Int.not_le] at *; go_simp))
  refine (HLV.out _).mono ?_
  rintro e u2 ⟨rfl, hb⟩
  replace hM := hM.call hb
  clear hb HLV
  repeat' (first | (go_big_may; first | (refine v_get rfl rfl lod_int rfl hM.at2 HS10.out ?_)) | go_values | go_skip | go_guarded | go_step | go_upon | (simp only [Int.not_lt, Int.not_le] at *; go_simp))
  go_loopw [12, 13, 15, 42] (fun s12 s13 _ i wr => ∃ (k row good : Nat), k ≤ n ∧ row ≤ 2 ∧ good ≤ k ∧ i = .int .i64 (k : Int) ∧ s12 = .int .i64 (row : Int) ∧ s13 = .int .i64 (good : Int) ∧ Hid (Mo w wr [(zb, 52, gdl m.s m.a m.h), (za, 29, grl m.g vf), (zs, 50, shl d c v (.slice ta tn tc))] vf D ∧ Ct F k row good)) (fun _ _ _ i _ => n - (intOf i).toNat)
  case atStart => exact ⟨0, 0, 0, Nat.zero_le _, by omega, Nat.le_refl _, rfl, rfl, rfl, hM, ⟨rfl, Nat.zero_add _⟩⟩
  case round =>
    clear hM
    obtain ⟨k, row, good, hk, hrow, hgk, rfl, rfl, rfl, HA⟩ := hrel
    have hM := HA.out.1
    have HCt : Hid (Ct F k row good) := HA.out.2
    clear HA
    by_cases hlt : ¬ k < n
    · obtain ⟨hfw, hgg⟩ := HCt.out.end (by rw [HN.out]; omega)
      have hW := HWl.out hfw
      rw [← hgg, HQ.out] at hW
      clear hfw hgg HCt
      by_cases hga : good < 6
      · have H8 : Hid (m.g.st < 8) := hW.1 hga
        have e8 : decide (m.g.st < 8) = true := decide_eq_true H8.out
        clear hW
        repeat' (first | (go_big_may; first | (refine v_get rfl rfl (by first | exact lod_int | exact lod_str | exact lod_fcs | exact lod_err) rfl hM.at1 rfl ?_)) | go_values | go_skip | go_guarded | go_step | go_upon | (simp only [Int.not_lt, Int.not_le] at *; go_simp))
        go_ret
        exact ⟨rfl, hM.below⟩
      obtain ⟨k1, k2, k3, k4, k5, k6, k7⟩ := hW.2 (by omega)
      rw [k2, k3, k4] at hM
      have HG0 : Hid ((grl m.g vf)[0]? = some (.int .i64 8)) := by show _ = _; rw [← k1]; rfl
      have HCd : Hid (cut (grl m.g vf) 5 12 = dvl d) := by show _ = _; rw [← k5]; rfl
      have HCc : Hid (cut (grl m.g vf) 17 5 = cfl c vf) := by show _ = _; rw [← k6]; rfl
      have HL5 : Hid (5 + 12 ≤ (grl m.g vf).length) := by show _ ≤ _; exact of_decide_eq_true rfl
      have HL17 : Hid (17 + 5 ≤ (grl m.g vf).length) := by show _ ≤ _; exact of_decide_eq_true rfl
      have HG22 : Hid ((grl m.g vf)[22]? = some (.string (⟨#[]⟩))) := by show _ = _; rw [← HSR.out, ← k7]; rfl
      have HDc : Hid (D.map Prod.fst = c.fs) := by show _ = _; rw [← k6]; exact HDD.out
      have HL3 : Hid (0 + 3 ≤ (gdl 2 x 0).length) := Nat.le_refl _
      have HC3 : Hid (cut (gdl 2 x 0) 0 3 = gdl 2 x 0) := cut_all rfl
      clear k1 k2 k3 k4 k5 k6 k7 hW
      go_upto_region 18 with (fail)
      refine reg.wp_abs (fun a0 => a0.tmps.size = 115 ∧ (∀ h, a0.tmps[1]'h = .int .i64 x) ∧ (∀ h, a0.tmps[3]'h = .pointer (some ⟨zs, 0, none⟩)) ∧ (∀ h, a0.tmps[7]'h = .pointer (some ⟨za, 0, none⟩)) ∧ (∀ h, a0.tmps[8]'h = .pointer (some ⟨zb, 0, none⟩))) ⟨rfl, fun _ => rfl, fun _ => rfl, fun _ => rfl, fun _ => rfl⟩ ?_
      rintro a0 ⟨hsz, s1, s3, s7, s8⟩ ha0
      refine reg.wp_region_E (S := fun W => Ls W [(zb, 52, (gdl 2 x 0)), (za, 29, (grl m.g vf)), (zs, 50, (shl d c v (.slice ta tn tc)))]) (E := fun _ => false) (by kernel_rfl) ?_
      replace hM := hM.drew
      refine reg.any_q (fun _ _ _ _ _ h => h) ?_
      intro hQP
      refine reg.e_take (i := 0) (.pointer (some ⟨za, 0, none⟩)) rfl (by kernel_rfl) (by kernel_rfl) (by kernel_rfl) (by kernel_rfl) (fun c a w h => hQP c _ _ w rfl h) (reg.wanted_none rfl) (hM.ls (by simp)) (fun W hW => by simp [execOp, go_sem, Act.put, hsz, s1, s3, s7, s8]) ?_
      refine reg.e_take (i := 1) (.int .i64 8) rfl (by kernel_rfl) (by kernel_rfl) (by kernel_rfl) (by kernel_rfl) (fun c a w h => hQP c _ _ w rfl h) (reg.wanted_none rfl) (hM.ls (by simp)) (fun W hW => ex_get rfl (by simp [go_sem, Act.put, hsz, s1, s3, s7, s8]) hW.at1 HG0.out) ?_
      refine reg.e_take (i := 2) (.bool true) rfl (by kernel_rfl) (by kernel_rfl) (by kernel_rfl) (by kernel_rfl) (fun c a w h => hQP c _ _ w rfl h) (reg.wanted_none rfl) (hM.ls (by simp)) (fun W hW => by simp [execOp, go_sem, Act.put, hsz, s1, s3, s7, s8]) ?_
      refine reg.e_take (i := 3) (.bool true) rfl (by kernel_rfl) (by kernel_rfl) (by kernel_rfl) (by kernel_rfl) (fun c a w h => hQP c _ _ w rfl h) (reg.wanted_none rfl) (hM.ls (by simp)) (fun W hW => by simp [execOp, go_sem, Act.put, hsz, s1, s3, s7, s8]) ?_
      refine reg.e_take (i := 4) (ag ((gdl 2 x 0))) rfl (by kernel_rfl) (by kernel_rfl) (by kernel_rfl) (by kernel_rfl) (fun c a w h => hQP c _ _ w rfl h) (reg.wanted_of 3 true 64 rfl (by kernel_rfl) (by simp [Act.put, hsz])) (hM.ls (by simp)) (fun W hW => ex_load rfl row_gadget (by simp [go_sem, Act.put, hsz, s1, s3, s7, s8]) hW.at0 HL3.out HC3.out) ?_
      refine reg.e_take (i := 5) (.int .i64 x) rfl (by kernel_rfl) (by kernel_rfl) (by kernel_rfl) (by kernel_rfl) (fun c a w h => hQP c _ _ w rfl h) (reg.wanted_of 3 true 64 rfl (by kernel_rfl) (by simp [Act.put, hsz])) (hM.ls (by simp)) (fun W hW => by simp [execOp, go_sem, Act.put, hsz, s1, s3, s7, s8]) ?_
      refine reg.any_list #[true, true, true, true, true, true, false, false, false, false, false, false, false, false, false, false, false, false, false, false, false, false, false, false, false, false, false, false, false, false, false, false, false, false, false, false, false, false, false, false, false, false, false, false, false, false, false, false, false, false, false, false, false, false, false] (by kernel_rfl) ?_
      refine reg.any_abs (fun q => q.tmps.size = 115 ∧ (∀ h, q.tmps[3]'h = .pointer (some ⟨zs, 0, none⟩)) ∧ (∀ h, q.tmps[7]'h = .pointer (some ⟨za, 0, none⟩)) ∧ (∀ h, q.tmps[64]'h = .bool true) ∧ (∀ h, q.tmps[65]'h = ag ((gdl 2 x 0))) ∧ (∀ h, q.tmps[66]'h = .int .i64 x)) ⟨by simp [Act.put, hsz, s1, s3, s7, s8], reg.at_of (by simp [Act.put, hsz, s1, s3, s7, s8]), reg.at_of (by simp [Act.put, hsz, s1, s3, s7, s8]), reg.at_of (by simp [Act.put, hsz, s1, s3, s7, s8]), reg.at_of (by simp [Act.put, hsz, s1, s3, s7, s8]), reg.at_of (by simp [Act.put, hsz, s1, s3, s7, s8])⟩ ?_
      clear hsz s1 s3 s7 s8
      rintro q1 ⟨q1z, q1s3, q1s7, q1s64, q1s65, q1s66⟩ hq1
      have HQ1 : Hid (q1 = _) := hq1
      clear hq1
      refine reg.e_take (i := 6) (ag (gdl 2 x 0)) rfl (by kernel_rfl) (by kernel_rfl) (by kernel_rfl) (by kernel_rfl) (fun c a w h => hQP c _ _ w rfl h) (reg.wanted_of 3 true 64 rfl (by kernel_rfl) (by simp [Act.put, q1z, q1s3, q1s7, q1s64, q1s65, q1s66])) (hM.ls (by simp)) (fun W hW => ex_build rfl (bld_gd2 x) (by simp [go_sem, Act.put, q1z, q1s3, q1s7, q1s64, q1s65, q1s66])) ?_
      refine reg.e_take (i := 7) (.bool true) rfl (by kernel_rfl) (by kernel_rfl) (by kernel_rfl) (by kernel_rfl) (fun c a w h => hQP c _ _ w rfl h) (reg.wanted_of 3 true 64 rfl (by kernel_rfl) (by simp [Act.put, q1z, q1s3, q1s7, q1s64, q1s65, q1s66])) (hM.ls (by simp)) (fun W hW => ex_sam rfl (sam_gad 2 x 0) (by simp [go_sem, Act.put, q1z, q1s3, q1s7, q1s64, q1s65, q1s66]) (by simp [go_sem, Act.put, q1z, q1s3, q1s7, q1s64, q1s65, q1s66])) ?_
      refine reg.e_take (i := 8) (.bool true) rfl (by kernel_rfl) (by kernel_rfl) (by kernel_rfl) (by kernel_rfl) (fun c a w h => hQP c _ _ w rfl h) (reg.wanted_none rfl) (hM.ls (by simp)) (fun W hW => by simp [execOp, go_sem, Act.put, q1z, q1s3, q1s7, q1s64, q1s65, q1s66]) ?_
      refine reg.e_take (i := 9) (.bool true) rfl (by kernel_rfl) (by kernel_rfl) (by kernel_rfl) (by kernel_rfl) (fun c a w h => hQP c _ _ w rfl h) (reg.wanted_none rfl) (hM.ls (by simp)) (fun W hW => by simp [execOp, go_sem, Act.put, q1z, q1s3, q1s7, q1s64, q1s65, q1s66]) ?_
      refine reg.e_take (i := 10) (.pointer (some ⟨za, 5, none⟩)) rfl (by kernel_rfl) (by kernel_rfl) (by kernel_rfl) (by kernel_rfl) (fun c a w h => hQP c _ _ w rfl h) (reg.wanted_of 9 true 70 rfl (by kernel_rfl) (by simp [Act.put, q1z, q1s3, q1s7, q1s64, q1s65, q1s66])) (hM.ls (by simp)) (fun W hW => by simp [execOp, go_sem, Act.put, q1z, q1s3, q1s7, q1s64, q1s65, q1s66]) ?_
      refine reg.e_take (i := 11) (ag (dvl d)) rfl (by kernel_rfl) (by kernel_rfl) (by kernel_rfl) (by kernel_rfl) (fun c a w h => hQP c _ _ w rfl h) (reg.wanted_of 9 true 70 rfl (by kernel_rfl) (by simp [Act.put, q1z, q1s3, q1s7, q1s64, q1s65, q1s66])) (hM.ls (by simp)) (fun W hW => ex_load rfl row_device (by simp [go_sem, Act.put, q1z, q1s3, q1s7, q1s64, q1s65, q1s66]) hW.at1 HL5.out HCd.out) ?_
      refine reg.any_list #[true, true, true, true, true, true, true, true, true, true, true, true, false, false, false, false, false, false, false, false, false, false, false, false, false, false, false, false, false, false, false, false, false, false, false, false, false, false, false, false, false, false, false, false, false, false, false, false, false, false, false, false, false, false, false] (by kernel_rfl) ?_
      refine reg.any_abs (fun q => q.tmps.size = 115 ∧ (∀ h, q.tmps[3]'h = .pointer (some ⟨zs, 0, none⟩)) ∧ (∀ h, q.tmps[7]'h = .pointer (some ⟨za, 0, none⟩)) ∧ (∀ h, q.tmps[70]'h = .bool true) ∧ (∀ h, q.tmps[72]'h = ag (dvl d))) ⟨by simp [Act.put, q1z, q1s3, q1s7, q1s64, q1s65, q1s66], reg.at_of (by simp [Act.put, q1z, q1s3, q1s7, q1s64, q1s65, q1s66]), reg.at_of (by simp [Act.put, q1z, q1s3, q1s7, q1s64, q1s65, q1s66]), reg.at_of (by simp [Act.put, q1z, q1s3, q1s7, q1s64, q1s65, q1s66]), reg.at_of (by simp [Act.put, q1z, q1s3, q1s7, q1s64, q1s65, q1s66])⟩ ?_
      clear q1z q1s3 q1s7 q1s64 q1s65 q1s66
      rintro q2 ⟨q2z, q2s3, q2s7, q2s70, q2s72⟩ hq2
      have HQ2 : Hid (q2 = _) := hq2
      clear hq2
      refine reg.e_take (i := 12) (.pointer (some ⟨zs, 0, none⟩)) rfl (by kernel_rfl) (by kernel_rfl) (by kernel_rfl) (by kernel_rfl) (fun c a w h => hQP c _ _ w rfl h) (reg.wanted_of 9 true 70 rfl (by kernel_rfl) (by simp [Act.put, q2z, q2s3, q2s7, q2s70, q2s72])) (hM.ls (by simp)) (fun W hW => by simp [execOp, go_sem, Act.put, q2z, q2s3, q2s7, q2s70, q2s72]) ?_
      refine reg.e_take (i := 13) (ag (dvl d)) rfl (by kernel_rfl) (by kernel_rfl) (by kernel_rfl) (by kernel_rfl) (fun c a w h => hQP c _ _ w rfl h) (reg.wanted_of 9 true 70 rfl (by kernel_rfl) (by simp [Act.put, q2z, q2s3, q2s7, q2s70, q2s72])) (hM.ls (by simp)) (fun W hW => ex_load rfl row_device (by simp [go_sem, Act.put, q2z, q2s3, q2s7, q2s70, q2s72]) hW.at2 HL0.out HSd.out) ?_
      refine reg.e_take (i := 14) (.bool true) rfl (by kernel_rfl) (by kernel_rfl) (by kernel_rfl) (by kernel_rfl) (fun c a w h => hQP c _ _ w rfl h) (reg.wanted_of 9 true 70 rfl (by kernel_rfl) (by simp [Act.put, q2z, q2s3, q2s7, q2s70, q2s72])) (hM.ls (by simp)) (fun W hW => ex_sam rfl (sam_dev d) (by simp [go_sem, Act.put, q2z, q2s3, q2s7, q2s70, q2s72]) (by simp [go_sem, Act.put, q2z, q2s3, q2s7, q2s70, q2s72])) ?_
      refine reg.e_take (i := 15) (.bool true) rfl (by kernel_rfl) (by kernel_rfl) (by kernel_rfl) (by kernel_rfl) (fun c a w h => hQP c _ _ w rfl h) (reg.wanted_none rfl) (hM.ls (by simp)) (fun W hW => by simp [execOp, go_sem, Act.put, q2z, q2s3, q2s7, q2s70, q2s72]) ?_
      refine reg.e_take (i := 16) (.bool true) rfl (by kernel_rfl) (by kernel_rfl) (by kernel_rfl) (by kernel_rfl) (fun c a w h => hQP c _ _ w rfl h) (reg.wanted_none rfl) (hM.ls (by simp)) (fun W hW => by simp [execOp, go_sem, Act.put, q2z, q2s3, q2s7, q2s70, q2s72]) ?_
      refine reg.e_take (i := 17) (.pointer (some ⟨za, 17, none⟩)) rfl (by kernel_rfl) (by kernel_rfl) (by kernel_rfl) (by kernel_rfl) (fun c a w h => hQP c _ _ w rfl h) (reg.wanted_of 16 true 77 rfl (by kernel_rfl) (by simp [Act.put, q2z, q2s3, q2s7, q2s70, q2s72])) (hM.ls (by simp)) (fun W hW => by simp [execOp, go_sem, Act.put, q2z, q2s3, q2s7, q2s70, q2s72]) ?_
      refine reg.any_list #[true, true, true, true, true, true, true, true, true, true, true, true, true, true, true, true, true, true, false, false, false, false, false, false, false, false, false, false, false, false, false, false, false, false, false, false, false, false, false, false, false, false, false, false, false, false, false, false, false, false, false, false, false, false, false] (by kernel_rfl) ?_
      refine reg.any_abs (fun q => q.tmps.size = 115 ∧ (∀ h, q.tmps[3]'h = .pointer (some ⟨zs, 0, none⟩)) ∧ (∀ h, q.tmps[7]'h = .pointer (some ⟨za, 0, none⟩)) ∧ (∀ h, q.tmps[77]'h = .bool true) ∧ (∀ h, q.tmps[78]'h = .pointer (some ⟨za, 17, none⟩))) ⟨by simp [Act.put, q2z, q2s3, q2s7, q2s70, q2s72], reg.at_of (by simp [Act.put, q2z, q2s3, q2s7, q2s70, q2s72]), reg.at_of (by simp [Act.put, q2z, q2s3, q2s7, q2s70, q2s72]), reg.at_of (by simp [Act.put, q2z, q2s3, q2s7, q2s70, q2s72]), reg.at_of (by simp [Act.put, q2z, q2s3, q2s7, q2s70, q2s72])⟩ ?_
      clear q2z q2s3 q2s7 q2s70 q2s72
      rintro q3 ⟨q3z, q3s3, q3s7, q3s77, q3s78⟩ hq3
      have HQ3 : Hid (q3 = _) := hq3
      clear hq3
      refine reg.e_take (i := 18) (ag (cfl c vf)) rfl (by kernel_rfl) (by kernel_rfl) (by kernel_rfl) (by kernel_rfl) (fun c a w h => hQP c _ _ w rfl h) (reg.wanted_of 16 true 77 rfl (by kernel_rfl) (by simp [Act.put, q3z, q3s3, q3s7, q3s77, q3s78])) (hM.ls (by simp)) (fun W hW => ex_load rfl row_config (by simp [go_sem, Act.put, q3z, q3s3, q3s7, q3s77, q3s78]) hW.at1 HL17.out HCc.out) ?_
      refine reg.e_take (i := 19) (.pointer (some ⟨zs, 12, none⟩)) rfl (by kernel_rfl) (by kernel_rfl) (by kernel_rfl) (by kernel_rfl) (fun c a w h => hQP c _ _ w rfl h) (reg.wanted_of 16 true 77 rfl (by kernel_rfl) (by simp [Act.put, q3z, q3s3, q3s7, q3s77, q3s78])) (hM.ls (by simp)) (fun W hW => by simp [execOp, go_sem, Act.put, q3z, q3s3, q3s7, q3s77, q3s78]) ?_
      refine reg.e_take (i := 20) (ag (cfl c v)) rfl (by kernel_rfl) (by kernel_rfl) (by kernel_rfl) (by kernel_rfl) (fun c a w h => hQP c _ _ w rfl h) (reg.wanted_of 16 true 77 rfl (by kernel_rfl) (by simp [Act.put, q3z, q3s3, q3s7, q3s77, q3s78])) (hM.ls (by simp)) (fun W hW => ex_load rfl row_config (by simp [go_sem, Act.put, q3z, q3s3, q3s7, q3s77, q3s78]) hW.at2 HL1.out HSc.out) ?_
      refine reg.e_one 21 (by kernel_rfl) rfl ?_
      refine reg.r_call (i := 21) 20 #[ag (cfl c vf), ag (cfl c v)] rfl (reg.wanted_of 16 true 77 rfl (by kernel_rfl) (by simp [Act.put, q3z, q3s3, q3s7, q3s77, q3s78])) (by simp [execOp, go_sem, Act.put, q3z, q3s3, q3s7, q3s77, q3s78]) ((HSC.out _ _ _ hM.own HDc.out hM.below).mono ?_)
      rintro re ru4 ⟨rfl, rhv⟩
      replace hM := hM.call rhv
      clear rhv
      refine ⟨_, rfl, hM.ls (by simp), ?_⟩
      refine reg.e_take (i := 22) (.bool true) rfl (by kernel_rfl) (by kernel_rfl) (by kernel_rfl) (by kernel_rfl) (fun c a w h => hQP c _ _ w rfl h) (reg.wanted_none rfl) (hM.ls (by simp)) (fun W hW => by simp [execOp, go_sem, Act.put, q3z, q3s3, q3s7, q3s77, q3s78]) ?_
      refine reg.e_take (i := 23) (.bool true) rfl (by kernel_rfl) (by kernel_rfl) (by kernel_rfl) (by kernel_rfl) (fun c a w h => hQP c _ _ w rfl h) (reg.wanted_none rfl) (hM.ls (by simp)) (fun W hW => by simp [execOp, go_sem, Act.put, q3z, q3s3, q3s7, q3s77, q3s78]) ?_
      refine reg.e_take (i := 24) (.pointer (some ⟨zs, 0, none⟩)) rfl (by kernel_rfl) (by kernel_rfl) (by kernel_rfl) (by kernel_rfl) (fun c a w h => hQP c _ _ w rfl h) (reg.wanted_of 23 true 84 rfl (by kernel_rfl) (by simp [Act.put, q3z, q3s3, q3s7, q3s77, q3s78])) (hM.ls (by simp)) (fun W hW => by simp [execOp, go_sem, Act.put, q3z, q3s3, q3s7, q3s77, q3s78]) ?_
      refine reg.any_list #[true, true, true, true, true, true, true, true, true, true, true, true, true, true, true, true, true, true, true, true, true, true, true, true, true, false, false, false, false, false, false, false, false, false, false, false, false, false, false, false, false, false, false, false, false, false, false, false, false, false, false, false, false, false, false] (by kernel_rfl) ?_
      refine reg.any_abs (fun q => q.tmps.size = 115 ∧ (∀ h, q.tmps[3]'h = .pointer (some ⟨zs, 0, none⟩)) ∧ (∀ h, q.tmps[7]'h = .pointer (some ⟨za, 0, none⟩)) ∧ (∀ h, q.tmps[84]'h = .bool true) ∧ (∀ h, q.tmps[85]'h = .pointer (some ⟨zs, 0, none⟩))) ⟨by simp [Act.put, q3z, q3s3, q3s7, q3s77, q3s78], reg.at_of (by simp [Act.put, q3z, q3s3, q3s7, q3s77, q3s78]), reg.at_of (by simp [Act.put, q3z, q3s3, q3s7, q3s77, q3s78]), reg.at_of (by simp [Act.put, q3z, q3s3, q3s7, q3s77, q3s78]), reg.at_of (by simp [Act.put, q3z, q3s3, q3s7, q3s77, q3s78])⟩ ?_
      clear q3z q3s3 q3s7 q3s77 q3s78
      rintro q5 ⟨q5z, q5s3, q5s7, q5s84, q5s85⟩ hq5
      have HQ5 : Hid (q5 = _) := hq5
      clear hq5
      refine reg.e_take (i := 25) (.pointer (some ⟨zs, 10, none⟩)) rfl (by kernel_rfl) (by kernel_rfl) (by kernel_rfl) (by kernel_rfl) (fun c a w h => hQP c _ _ w rfl h) (reg.wanted_of 23 true 84 rfl (by kernel_rfl) (by simp [Act.put, q5z, q5s3, q5s7, q5s84, q5s85])) (hM.ls (by simp)) (fun W hW => by simp [execOp, go_sem, Act.put, q5z, q5s3, q5s7, q5s84, q5s85]) ?_
      refine reg.e_take (i := 26) (.int .i64 0) rfl (by kernel_rfl) (by kernel_rfl) (by kernel_rfl) (by kernel_rfl) (fun c a w h => hQP c _ _ w rfl h) (reg.wanted_of 23 true 84 rfl (by kernel_rfl) (by simp [Act.put, q5z, q5s3, q5s7, q5s84, q5s85])) (hM.ls (by simp)) (fun W hW => ex_get rfl (by simp [go_sem, Act.put, q5z, q5s3, q5s7, q5s84, q5s85]) hW.at2 HS10.out) ?_
      refine reg.e_take (i := 27) (.bool true) rfl (by kernel_rfl) (by kernel_rfl) (by kernel_rfl) (by kernel_rfl) (fun c a w h => hQP c _ _ w rfl h) (reg.wanted_of 23 true 84 rfl (by kernel_rfl) (by simp [Act.put, q5z, q5s3, q5s7, q5s84, q5s85])) (hM.ls (by simp)) (fun W hW => by simp [execOp, go_sem, Act.put, q5z, q5s3, q5s7, q5s84, q5s85]) ?_
      refine reg.e_take (i := 28) (.bool true) rfl (by kernel_rfl) (by kernel_rfl) (by kernel_rfl) (by kernel_rfl) (fun c a w h => hQP c _ _ w rfl h) (reg.wanted_of 23 true 84 rfl (by kernel_rfl) (by simp [Act.put, q5z, q5s3, q5s7, q5s84, q5s85])) (hM.ls (by simp)) (fun W hW => by simp [execOp, go_sem, Act.put, q5z, q5s3, q5s7, q5s84, q5s85]) ?_
      refine reg.e_take (i := 29) (.pointer (some ⟨za, 22, none⟩)) rfl (by kernel_rfl) (by kernel_rfl) (by kernel_rfl) (by kernel_rfl) (fun c a w h => hQP c _ _ w rfl h) (reg.wanted_of 28 true 89 rfl (by kernel_rfl) (by simp [Act.put, q5z, q5s3, q5s7, q5s84, q5s85])) (hM.ls (by simp)) (fun W hW => by simp [execOp, go_sem, Act.put, q5z, q5s3, q5s7, q5s84, q5s85]) ?_
      refine reg.e_take (i := 30) (.string ⟨#[]⟩) rfl (by kernel_rfl) (by kernel_rfl) (by kernel_rfl) (by kernel_rfl) (fun c a w h => hQP c _ _ w rfl h) (reg.wanted_of 28 true 89 rfl (by kernel_rfl) (by simp [Act.put, q5z, q5s3, q5s7, q5s84, q5s85])) (hM.ls (by simp)) (fun W hW => ex_get rfl (by simp [go_sem, Act.put, q5z, q5s3, q5s7, q5s84, q5s85]) hW.at1 HG22.out) ?_
      refine reg.any_list #[true, true, true, true, true, true, true, true, true, true, true, true, true, true, true, true, true, true, true, true, true, true, true, true, true, true, true, true, true, true, true, false, false, false, false, false, false, false, false, false, false, false, false, false, false, false, false, false, false, false, false, false, false, false, false] (by kernel_rfl) ?_
      refine reg.any_abs (fun q => q.tmps.size = 115 ∧ (∀ h, q.tmps[3]'h = .pointer (some ⟨zs, 0, none⟩)) ∧ (∀ h, q.tmps[7]'h = .pointer (some ⟨za, 0, none⟩)) ∧ (∀ h, q.tmps[84]'h = .bool true) ∧ (∀ h, q.tmps[89]'h = .bool true) ∧ (∀ h, q.tmps[91]'h = .string ⟨#[]⟩)) ⟨by simp [Act.put, q5z, q5s3, q5s7, q5s84, q5s85], reg.at_of (by simp [Act.put, q5z, q5s3, q5s7, q5s84, q5s85]), reg.at_of (by simp [Act.put, q5z, q5s3, q5s7, q5s84, q5s85]), reg.at_of (by simp [Act.put, q5z, q5s3, q5s7, q5s84, q5s85]), reg.at_of (by simp [Act.put, q5z, q5s3, q5s7, q5s84, q5s85]), reg.at_of (by simp [Act.put, q5z, q5s3, q5s7, q5s84, q5s85])⟩ ?_
      clear q5z q5s3 q5s7 q5s84 q5s85
      rintro q6 ⟨q6z, q6s3, q6s7, q6s84, q6s89, q6s91⟩ hq6
      have HQ6 : Hid (q6 = _) := hq6
      clear hq6
      refine reg.e_take (i := 31) (.bool true) rfl (by kernel_rfl) (by kernel_rfl) (by kernel_rfl) (by kernel_rfl) (fun c a w h => hQP c _ _ w rfl h) (reg.wanted_of 28 true 89 rfl (by kernel_rfl) (by simp [Act.put, q6z, q6s3, q6s7, q6s84, q6s89, q6s91])) (hM.ls (by simp)) (fun W hW => by simp [execOp, go_sem, Act.put, q6z, q6s3, q6s7, q6s84, q6s89, q6s91]) ?_
      refine reg.e_take (i := 32) (.bool true) rfl (by kernel_rfl) (by kernel_rfl) (by kernel_rfl) (by kernel_rfl) (fun c a w h => hQP c _ _ w rfl h) (reg.wanted_of 23 true 84 rfl (by kernel_rfl) (by simp [Act.put, q6z, q6s3, q6s7, q6s84, q6s89, q6s91])) (hM.ls (by simp)) (fun W hW => by simp [execOp, go_sem, Act.put, q6z, q6s3, q6s7, q6s84, q6s89, q6s91]) ?_
      refine reg.e_take (i := 33) (.bool true) rfl (by kernel_rfl) (by kernel_rfl) (by kernel_rfl) (by kernel_rfl) (fun c a w h => hQP c _ _ w rfl h) (reg.wanted_of 23 true 84 rfl (by kernel_rfl) (by simp [Act.put, q6z, q6s3, q6s7, q6s84, q6s89, q6s91])) (hM.ls (by simp)) (fun W hW => by simp [execOp, go_sem, Act.put, q6z, q6s3, q6s7, q6s84, q6s89, q6s91]) ?_
      refine reg.e_pass (i := 34) rfl (by kernel_rfl) (by kernel_rfl) (by kernel_rfl) (by kernel_rfl) (fun c a w h => hQP c _ _ w rfl h) (reg.unwanted_of 33 false 94 rfl (by kernel_rfl) (by simp [Act.put, q6z, q6s3, q6s7, q6s84, q6s89, q6s91])) (hM.ls (by simp)) ?_
      refine reg.e_pass (i := 35) rfl (by kernel_rfl) (by kernel_rfl) (by kernel_rfl) (by kernel_rfl) (fun c a w h => hQP c _ _ w rfl h) (reg.unwanted_of 33 false 94 rfl (by kernel_rfl) (by simp [Act.put, q6z, q6s3, q6s7, q6s84, q6s89, q6s91])) (hM.ls (by simp)) ?_
      refine reg.e_pass (i := 36) rfl (by kernel_rfl) (by kernel_rfl) (by kernel_rfl) (by kernel_rfl) (fun c a w h => hQP c _ _ w rfl h) (reg.unwanted_of 33 false 94 rfl (by kernel_rfl) (by simp [Act.put, q6z, q6s3, q6s7, q6s84, q6s89, q6s91])) (hM.ls (by simp)) ?_
      refine reg.any_list #[true, true, true, true, true, true, true, true, true, true, true, true, true, true, true, true, true, true, true, true, true, true, true, true, true, true, true, true, true, true, true, true, true, true, true, true, true, false, false, false, false, false, false, false, false, false, false, false, false, false, false, false, false, false, false] (by kernel_rfl) ?_
      refine reg.any_abs (fun q => q.tmps.size = 115 ∧ (∀ h, q.tmps[3]'h = .pointer (some ⟨zs, 0, none⟩)) ∧ (∀ h, q.tmps[7]'h = .pointer (some ⟨za, 0, none⟩)) ∧ (∀ h, q.tmps[84]'h = .bool true) ∧ (∀ h, q.tmps[94]'h = .bool true) ∧ (∀ h, q.tmps[97]'h = undef)) ⟨by simp [Act.put, q6z, q6s3, q6s7, q6s84, q6s89, q6s91], reg.at_of (by simp [Act.put, q6z, q6s3, q6s7, q6s84, q6s89, q6s91]), reg.at_of (by simp [Act.put, q6z, q6s3, q6s7, q6s84, q6s89, q6s91]), reg.at_of (by simp [Act.put, q6z, q6s3, q6s7, q6s84, q6s89, q6s91]), reg.at_of (by simp [Act.put, q6z, q6s3, q6s7, q6s84, q6s89, q6s91]), reg.at_of (by simp [Act.put, q6z, q6s3, q6s7, q6s84, q6s89, q6s91])⟩ ?_
      clear q6z q6s3 q6s7 q6s84 q6s89 q6s91
      rintro q7 ⟨q7z, q7s3, q7s7, q7s84, q7s94, q7s97⟩ hq7
      have HQ7 : Hid (q7 = _) := hq7
      clear hq7
      refine reg.e_pass (i := 37) rfl (by kernel_rfl) (by kernel_rfl) (by kernel_rfl) (by kernel_rfl) (fun c a w h => hQP c _ _ w rfl h) (reg.unwanted_of 33 false 94 rfl (by kernel_rfl) (by simp [Act.put, q7z, q7s3, q7s7, q7s84, q7s94, q7s97])) (hM.ls (by simp)) ?_
      refine reg.e_pass (i := 38) rfl (by kernel_rfl) (by kernel_rfl) (by kernel_rfl) (by kernel_rfl) (fun c a w h => hQP c _ _ w rfl h) (reg.unwanted_of 33 false 94 rfl (by kernel_rfl) (by simp [Act.put, q7z, q7s3, q7s7, q7s84, q7s94, q7s97])) (hM.ls (by simp)) ?_
      refine reg.e_pass (i := 39) rfl (by kernel_rfl) (by kernel_rfl) (by kernel_rfl) (by kernel_rfl) (fun c a w h => hQP c _ _ w rfl h) (reg.unwanted_und 38 true 99 rfl (by kernel_rfl) (by simp [Act.put, q7z, q7s3, q7s7, q7s84, q7s94, q7s97])) (hM.ls (by simp)) ?_
      refine reg.e_pass (i := 40) rfl (by kernel_rfl) (by kernel_rfl) (by kernel_rfl) (by kernel_rfl) (fun c a w h => hQP c _ _ w rfl h) (reg.unwanted_und 38 true 99 rfl (by kernel_rfl) (by simp [Act.put, q7z, q7s3, q7s7, q7s84, q7s94, q7s97])) (hM.ls (by simp)) ?_
      refine reg.e_pass (i := 41) rfl (by kernel_rfl) (by kernel_rfl) (by kernel_rfl) (by kernel_rfl) (fun c a w h => hQP c _ _ w rfl h) (reg.unwanted_und 38 true 99 rfl (by kernel_rfl) (by simp [Act.put, q7z, q7s3, q7s7, q7s84, q7s94, q7s97])) (hM.ls (by simp)) ?_
      refine reg.e_pass (i := 42) rfl (by kernel_rfl) (by kernel_rfl) (by kernel_rfl) (by kernel_rfl) (fun c a w h => hQP c _ _ w rfl h) (reg.unwanted_und 38 true 99 rfl (by kernel_rfl) (by simp [Act.put, q7z, q7s3, q7s7, q7s84, q7s94, q7s97])) (hM.ls (by simp)) ?_
      refine reg.any_list #[true, true, true, true, true, true, true, true, true, true, true, true, true, true, true, true, true, true, true, true, true, true, true, true, true, true, true, true, true, true, true, true, true, true, true, true, true, true, true, true, true, true, true, false, false, false, false, false, false, false, false, false, false, false, false] (by kernel_rfl) ?_
      refine reg.any_abs (fun q => q.tmps.size = 115 ∧ (∀ h, q.tmps[3]'h = .pointer (some ⟨zs, 0, none⟩)) ∧ (∀ h, q.tmps[84]'h = .bool true) ∧ (∀ h, q.tmps[94]'h = .bool true) ∧ (∀ h, q.tmps[99]'h = undef) ∧ (∀ h, q.tmps[101]'h = undef) ∧ (∀ h, q.tmps[103]'h = undef)) ⟨by simp [Act.put, q7z, q7s3, q7s7, q7s84, q7s94, q7s97], reg.at_of (by simp [Act.put, q7z, q7s3, q7s7, q7s84, q7s94, q7s97]), reg.at_of (by simp [Act.put, q7z, q7s3, q7s7, q7s84, q7s94, q7s97]), reg.at_of (by simp [Act.put, q7z, q7s3, q7s7, q7s84, q7s94, q7s97]), reg.at_of (by simp [Act.put, q7z, q7s3, q7s7, q7s84, q7s94, q7s97]), reg.at_of (by simp [Act.put, q7z, q7s3, q7s7, q7s84, q7s94, q7s97]), reg.at_of (by simp [Act.put, q7z, q7s3, q7s7, q7s84, q7s94, q7s97])⟩ ?_
      clear q7z q7s3 q7s7 q7s84 q7s94 q7s97
      rintro q8 ⟨q8z, q8s3, q8s84, q8s94, q8s99, q8s101, q8s103⟩ hq8
      have HQ8 : Hid (q8 = _) := hq8
      clear hq8
      refine reg.e_pass (i := 43) rfl (by kernel_rfl) (by kernel_rfl) (by kernel_rfl) (by kernel_rfl) (fun c a w h => hQP c _ _ w rfl h) (reg.unwanted_und 38 true 99 rfl (by kernel_rfl) (by simp [Act.put, q8z, q8s3, q8s84, q8s94, q8s99, q8s101, q8s103])) (hM.ls (by simp)) ?_
      refine reg.e_pass (i := 44) rfl (by kernel_rfl) (by kernel_rfl) (by kernel_rfl) (by kernel_rfl) (fun c a w h => hQP c _ _ w rfl h) (reg.unwanted_und 38 true 99 rfl (by kernel_rfl) (by simp [Act.put, q8z, q8s3, q8s84, q8s94, q8s99, q8s101, q8s103])) (hM.ls (by simp)) ?_
      refine reg.e_pass (i := 45) rfl (by kernel_rfl) (by kernel_rfl) (by kernel_rfl) (by kernel_rfl) (fun c a w h => hQP c _ _ w rfl h) (reg.unwanted_und 38 true 99 rfl (by kernel_rfl) (by simp [Act.put, q8z, q8s3, q8s84, q8s94, q8s99, q8s101, q8s103])) (hM.ls (by simp)) ?_
      refine reg.e_pass (i := 46) rfl (by kernel_rfl) (by kernel_rfl) (by kernel_rfl) (by kernel_rfl) (fun c a w h => hQP c _ _ w rfl h) (reg.unwanted_und 38 true 99 rfl (by kernel_rfl) (by simp [Act.put, q8z, q8s3, q8s84, q8s94, q8s99, q8s101, q8s103])) (hM.ls (by simp)) ?_
      refine reg.e_pass (i := 47) rfl (by kernel_rfl) (by kernel_rfl) (by kernel_rfl) (by kernel_rfl) (fun c a w h => hQP c _ _ w rfl h) (reg.unwanted_und 38 true 99 rfl (by kernel_rfl) (by simp [Act.put, q8z, q8s3, q8s84, q8s94, q8s99, q8s101, q8s103])) (hM.ls (by simp)) ?_
      refine reg.e_pass (i := 48) rfl (by kernel_rfl) (by kernel_rfl) (by kernel_rfl) (by kernel_rfl) (fun c a w h => hQP c _ _ w rfl h) (reg.unwanted_und 38 true 99 rfl (by kernel_rfl) (by simp [Act.put, q8z, q8s3, q8s84, q8s94, q8s99, q8s101, q8s103])) (hM.ls (by simp)) ?_
      refine reg.any_list #[true, true, true, true, true, true, true, true, true, true, true, true, true, true, true, true, true, true, true, true, true, true, true, true, true, true, true, true, true, true, true, true, true, true, true, true, true, true, true, true, true, true, true, true, true, true, true, true, true, false, false, false, false, false, false] (by kernel_rfl) ?_
      refine reg.any_abs (fun q => q.tmps.size = 115 ∧ (∀ h, q.tmps[84]'h = .bool true) ∧ (∀ h, q.tmps[94]'h = .bool true) ∧ (∀ h, q.tmps[99]'h = undef) ∧ (∀ h, q.tmps[101]'h = undef) ∧ (∀ h, q.tmps[109]'h = undef)) ⟨by simp [Act.put, q8z, q8s3, q8s84, q8s94, q8s99, q8s101, q8s103], reg.at_of (by simp [Act.put, q8z, q8s3, q8s84, q8s94, q8s99, q8s101, q8s103]), reg.at_of (by simp [Act.put, q8z, q8s3, q8s84, q8s94, q8s99, q8s101, q8s103]), reg.at_of (by simp [Act.put, q8z, q8s3, q8s84, q8s94, q8s99, q8s101, q8s103]), reg.at_of (by simp [Act.put, q8z, q8s3, q8s84, q8s94, q8s99, q8s101, q8s103]), reg.at_of (by simp [Act.put, q8z, q8s3, q8s84, q8s94, q8s99, q8s101, q8s103])⟩ ?_
      clear q8z q8s3 q8s84 q8s94 q8s99 q8s101 q8s103
      rintro q9 ⟨q9z, q9s84, q9s94, q9s99, q9s101, q9s109⟩ hq9
      have HQ9 : Hid (q9 = _) := hq9
      clear hq9
      refine reg.e_pass (i := 49) rfl (by kernel_rfl) (by kernel_rfl) (by kernel_rfl) (by kernel_rfl) (fun c a w h => hQP c _ _ w rfl h) (reg.unwanted_und 38 true 99 rfl (by kernel_rfl) (by simp [Act.put, q9z, q9s84, q9s94, q9s99, q9s101, q9s109])) (hM.ls (by simp)) ?_
      refine reg.e_pass (i := 50) rfl (by kernel_rfl) (by kernel_rfl) (by kernel_rfl) (by kernel_rfl) (fun c a w h => hQP c _ _ w rfl h) (reg.unwanted_und 38 true 99 rfl (by kernel_rfl) (by simp [Act.put, q9z, q9s84, q9s94, q9s99, q9s101, q9s109])) (hM.ls (by simp)) ?_
      refine reg.e_pass (i := 51) rfl (by kernel_rfl) (by kernel_rfl) (by kernel_rfl) (by kernel_rfl) (fun c a w h => hQP c _ _ w rfl h) (reg.unwanted_of 33 false 94 rfl (by kernel_rfl) (by simp [Act.put, q9z, q9s84, q9s94, q9s99, q9s101, q9s109])) (hM.ls (by simp)) ?_
      refine reg.e_take (i := 52) (.bool true) rfl (by kernel_rfl) (by kernel_rfl) (by kernel_rfl) (by kernel_rfl) (fun c a w h => hQP c _ _ w rfl h) (reg.wanted_of 23 true 84 rfl (by kernel_rfl) (by simp [Act.put, q9z, q9s84, q9s94, q9s99, q9s101, q9s109])) (hM.ls (by simp)) (fun W hW => by simp [execOp, go_sem, Act.put, q9z, q9s84, q9s94, q9s99, q9s101, q9s109]) ?_
      refine reg.e_take (i := 53) (.bool true) rfl (by kernel_rfl) (by kernel_rfl) (by kernel_rfl) (by kernel_rfl) (fun c a w h => hQP c _ _ w rfl h) (reg.wanted_none rfl) (hM.ls (by simp)) (fun W hW => by simp [execOp, go_sem, Act.put, q9z, q9s84, q9s94, q9s99, q9s101, q9s109]) ?_
      refine reg.e_take (i := 54) (.bool true) rfl (by kernel_rfl) (by kernel_rfl) (by kernel_rfl) (by kernel_rfl) (fun c a w h => hQP c _ _ w rfl h) (reg.wanted_none rfl) (hM.ls (by simp)) (fun W hW => by simp [execOp, go_sem, Act.put, q9z, q9s84, q9s94, q9s99, q9s101, q9s109]) ?_
      clear hQP
      refine reg.e_done (by kernel_rfl) ?_ _
      clear q9z q9s84 q9s94 q9s99 q9s101 q9s109
      have hq9 := HQ9.out
      clear HQ9
      subst hq9
      have hq8 := HQ8.out
      clear HQ8
      subst hq8
      have hq7 := HQ7.out
      clear HQ7
      subst hq7
      have hq6 := HQ6.out
      clear HQ6
      subst hq6
      have hq5 := HQ5.out
      clear HQ5
      subst hq5
      have hq3 := HQ3.out
      clear HQ3
      subst hq3
      have hq2 := HQ2.out
      clear HQ2
      subst hq2
      have hq1 := HQ1.out
      clear HQ1
      subst hq1
      subst ha0
      go_simp
      repeat' (first | go_values | go_skip | go_guarded | go_step | go_upon | (simp only [Int.not_lt, Int.not_le] at *; go_simp))
      go_ret
      exact ⟨rfl, hM.below⟩
    have hlt : k < n := by omega
    obtain ⟨f, hf⟩ : ∃ f, F[k]? = some f := ⟨F[k]'(by rw [HN.out]; exact hlt), List.getElem?_eq_getElem _⟩
    obtain ⟨fg, off, hfa, hcell⟩ := (HRF.out w (Below.refl _ _)).at k f hf
    subst hfa
    have cF := hcell _ hM.below
    have HF : Hid (F[k]? = some f) := hf
    clear hcell hf
    by_cases h1 : f = 1
    · subst h1
      repeat' (first | go_values | go_skip | go_guarded | go_step | go_upon | (simp only [Int.not_lt, Int.not_le] at *; go_simp))
      go_roundw
      case rel => exact ⟨k + 1, 0, good + 1, by omega, by omega, by omega, by go_num, rfl, by go_num, hM, HCt.out.good HF.out⟩
      case measure => simp [intOf]; omega
    have e1 : (f == 1) = false := by simpa using h1
    have H1 : Hid (f ≠ 1) := h1
    clear h1
    by_cases h2 : row = 2
    · subst h2
      repeat' (first | go_values | go_skip | go_guarded | go_step | go_upon | (simp only [Int.not_lt, Int.not_le] at *; go_simp))
      go_ret
      exact ⟨rfl, hM.below⟩
    have hr2 : row < 2 := by omega
    have e3 : ((row : Int) + 1 == 3) = false := by rw [beq_eq_false_iff_ne]; omega
    repeat' (first | go_values | go_skip | go_guarded | go_step | go_upon | (simp only [Int.not_lt, Int.not_le] at *; go_simp))
    go_roundw
    case rel => exact ⟨k + 1, row + 1, good, by omega, by omega, by omega, by go_num, by go_num, rfl, hM, HCt.out.bad HF.out H1.out hr2⟩
    case measure => simp [intOf]; omega
end Go.Proofs.Ytonheibhbilhhaa.greetWell
