/- HostPlays: New and Play answer what the document says. -/
import Derived.Test.YthjmcopknkemnaaZPh
import Derived.Test.YthjmcopknkemnaaZPe
import Derived.Test.YthjmcopknkemnaaHstL
import Derived.Test.YthjmcopknkemnaaZPi
namespace Go.Proofs.Ythjmcopknkemnaa.hostPlays
open Go Go.RowKit
open Go.Proofs.Ythjmcopknkemnaa Go.Proofs.Ythjmcopknkemnaa.host
open Go.Proofs.Ythjmcopknkemnaa.slots (Row row_cmd row_board Chg ag bsq InB Wf fl)
open Go.Proofs.Ythjmcopknkemnaa.ring (Rcs Ces Ce keep)
set_option linter.unusedVariables false
set_option linter.unusedSimpArgs false
set_option maxRecDepth 100000

theorem plM_wf (c e : Int) (T : List Dd) : Wf (plM c e T).B := by
  unfold plM
  by_cases h : plC c e T = 0
  · rw [if_pos h]
    have hb : nmB c e = true := by
      unfold plC at h
      cases hq : nmB c e
      · rw [hq] at h; simp at h
      · rfl
    unfold nmB at hb
    rw [Bool.and_eq_true, ring.cn_iff, ring.cn_iff] at hb
    exact (Iv.pls (T := T) (Iv.zero (p := c.toNat - 1) (q := e.toNat - 1) (by omega) (by omega) (by omega) (by omega))).w
  · rw [if_neg h]; exact slots.zB_wf
theorem bld_r0 (w : World) : (Instr.build 35 #[]).run Try.prog w = .ok (agv (rgl nilS ring.zR)) w := by kernel_rfl
theorem tc0 : ring.tcC [] = 0 := rfl
theorem plC_new (c : Int) : ring.plC c [] = ring.nwC c := by
  unfold ring.plC ring.nwC
  rw [tc0]
  cases ring.cnB c <;> rfl
theorem plR_new (c : Int) : ring.plR c [] = ring.nwR c := by
  unfold ring.plR
  rw [plC_new]
  unfold ring.nwC ring.nwR
  cases ring.cnB c <;> rfl
theorem rplay (c : Int) (u : World) : Calls Try.prog 23 #[.int .i64 c, .slice none 0 0] u fun r w' => ∃ v' gv, r = .returned (.tuple #[agv (rgl v' (ring.nwR c)), gv, .int .i64 (ring.nwC c)]) ∧ Ces w' u.heap.size v' (ring.nwR c).C ∧ Below u.heap.size u w' := by
  have := ring.refPlay_any c (.slice none 0 0) [] u (ring.Rtn.nil u)
  rw [plC_new, plR_new] at this
  refine this.mono ?_
  rintro r w' ⟨v', gv, h1, h2, _, h3⟩
  exact ⟨v', gv, h1, h2, h3⟩
set_option maxHeartbeats 8000000 in
theorem walk0 (c e : Int) (v : Value) (T : List Dd) (w : World) (hv : Rds 8 w v (T.map ddL)) : Calls Try.prog 5 #[.int .i64 c, .int .i64 e, v] w fun r w' => r = .returned (.bool true) ∧ Below w.heap.size w w' := by
  have HPL : Hid (∀ u, Rds 8 u v (T.map ddL) → Calls Try.prog 20 #[.int .i64 c, .int .i64 e, v] u fun r w' => ∃ vc ve gv tv, r = .returned (.tuple #[agv (mvl vc ve (plM c e T)), gv, tv, .int .i64 (plC c e T)]) ∧ Tl u vc ve (plM c e T) w' ∧ Rds 3 w' gv ((plE c e T).map evL) ∧ Rds 1 w' tv ((plX c e T).map one1)) := fun u h => play_any c e v T u h
  have HPD : Hid (∀ u, Rds 8 u v (T.map ddL) → Calls Try.prog 21 #[.int .i64 c, .int .i64 e, v] u fun r w' => ∃ gv tv, r = .returned (.tuple #[agv (ivs (fl (plM c e T).B)), gv, tv, .int .i64 (plC c e T)]) ∧ Below u.heap.size u w' ∧ Rds 3 w' gv ((plE c e T).map evL) ∧ Rds 1 w' tv ((plX c e T).map one1)) := fun u h => played_any c e v T u h
  have HNW : Hid (∀ u, Calls Try.prog 22 #[.int .i64 c, .int .i64 e] u fun r w' => ∃ vc ve, r = .returned (.tuple #[agv (mvl vc ve (nmV c e)), .int .i64 (nmC c e)]) ∧ Tl u vc ve (nmV c e) w') := new_any c e
  have HR1 : Hid (∀ u, Calls Try.prog 23 #[.int .i64 c, .slice none 0 0] u fun r w' => ∃ v' gv, r = .returned (.tuple #[agv (rgl v' (ring.nwR c)), gv, .int .i64 (ring.nwC c)]) ∧ Ces w' u.heap.size v' (ring.nwR c).C ∧ Below u.heap.size u w') := rplay c
  have HR2 : Hid (∀ u, Calls Try.prog 23 #[.int .i64 e, .slice none 0 0] u fun r w' => ∃ v' gv, r = .returned (.tuple #[agv (rgl v' (ring.nwR e)), gv, .int .i64 (ring.nwC e)]) ∧ Ces w' u.heap.size v' (ring.nwR e).C ∧ Below u.heap.size u w') := rplay e
  have HEV : Hid (∀ u v1 v2, Rds 3 u v1 ((plE c e T).map evL) → Rds 3 u v2 ((plE c e T).map evL) → Calls Try.prog 24 #[v1, v2] u fun r w' => r = .returned (.bool true) ∧ Below u.heap.size u w') := fun u v1 v2 h1 h2 => by
    have := equalEv_any v1 v2 _ _ u h1 h2
    rw [decide_eq_true rfl] at this
    exact this
  have HER : Hid (∀ u v1 v2, Rds 1 u v1 ((plX c e T).map one1) → Rds 1 u v2 ((plX c e T).map one1) → Calls Try.prog 25 #[v1, v2] u fun r w' => r = .returned (.bool true) ∧ Below u.heap.size u w') := fun u v1 v2 h1 h2 => by
    have := equalErr_any v1 v2 _ _ u h1 h2
    rw [decide_eq_true rfl] at this
    exact this
  have HWF : Hid (Wf (plM c e T).B) := plM_wf c e T
  have HFL : Hid ((fl (plM c e T).B).length = 594) := HWF.out.length
  have HFV : Hid (Vs (ivs (fl (plM c e T).B)) 594) := ivs_vs HWF.out.length
  have HLB : Hid (0 + 594 ≤ (ivs (fl (plM c e T).B)).length) := by show _ ≤ _; rw [HFV.out.len]; exact Nat.le_refl _
  have HAB : Hid (cv (ivs (fl (plM c e T).B)) 0 594 = ivs (fl (plM c e T).B)) := cv_all HFV.out.len
  have HZB : Hid ((ivs (fl slots.zB)).length = 594) := (ivs_vs slots.zB_wf.length).len
  have HZ : Hid (zl.length = 606) := zl_vs.len
  have HZR : Hid ((rgl nilS ring.zR).length = 6) := rfl
  have HNB : Hid (Wf (nmV c e).B) := by
    show Wf (nmV c e).B
    unfold nmV
    split
    · exact slots.zB_wf
    · exact slots.zB_wf
  have HZV : Hid (Vs (rgl nilS ring.zR) 6) := rgl_vs rfl
  have HLZ : Hid (0 + 6 ≤ (rgl nilS ring.zR).length) := Nat.le_refl _
  have HAZ : Hid (cv (rgl nilS ring.zR) 0 6 = rgl nilS ring.zR) := rfl
  have hbr := bld_r0
  cases h1 : ring.cnB c
  · have HNM : Hid (nmV c e = zM) := by unfold nmV nmB; rw [h1]; rfl
    have HNL : Hid (∀ u, Rcs u nilS (nmV c e).c.C ∧ Rcs u nilS (nmV c e).e.C) := fun u => by rw [HNM.out]; exact ⟨(Ces.nil u 0).rcs, (Ces.nil u 0).rcs⟩
    have q1 : nmC c e = 1 := by unfold nmC nmB; rw [h1]; rfl
    have q2 : ring.nwC c = 1 := by unfold ring.nwC; rw [h1]; rfl
    rw [q1] at HNW
    rw [q2] at HR1
    clear q1 q2 h1
    go_enter Try.func5, Try.ntmps5
    repeat' (first | go_values | go_skip | go_guarded | go_step | go_upon | (simp only [Int.not_lt, Int.not_le] at *; go_simp))
    refine (HPL.out w hv).mono ?_
    rintro r u1 ⟨vc, ve, gv, tv, rfl, ht, hg1, hg2⟩
    have HM1 : Hid (Vs (mvl vc ve (plM c e T)) 606) := mvl_vs (rcs_one ht.c.rcs) (rcs_one ht.e.rcs) HWF.out
    have HL12 : Hid (12 + 594 ≤ (mvl vc ve (plM c e T)).length) := by show _ ≤ _; rw [HM1.out.len]; exact Nat.le_refl _
    have HA12 : Hid (cv (mvl vc ve (plM c e T)) 12 594 = ivs (fl (plM c e T).B)) := cv_b _ _ HWF.out
    have HW1 : Hid (Below w.heap.size w u1) := ht.below
    have HG : Hid (Rds 3 u1 gv ((plE c e T).map evL) ∧ Rds 1 u1 tv ((plX c e T).map one1)) := ⟨hg1, hg2⟩
    have hM := Mv.nil u1
    clear ht hg1 hg2
    repeat' (first | (go_big_may; first | (refine v_alloc rfl zer_mach rfl ?_; intro u xm hN; replace hM := hM.new hN (by decide); clear hN) | (refine v_fill rfl rfl row_mach rfl rfl hM.at0 HM1.out HZ.out ?_; intro u hv hc; replace hM := hM.put0 hc hv; clear hv hc)) | go_values | go_skip | go_guarded | go_step | go_upon | (simp only [Int.not_lt, Int.not_le] at *; go_simp))
    refine (HPD.out _ (hv.below (bsq HW1.out hM.below))).mono ?_
    rintro r u2 ⟨gw, tw, rfl, hb2, hg3, hg4⟩
    replace hM := hM.call hb2
    have HXM : Hid (u2.heap[xm]? = some (bv 43 (mvl vc ve (plM c e T)))) := hM.at0
    have HW2 : Hid (Below w.heap.size w u2) := bsq HW1.out hM.below
    have HG2 : Hid ((Rds 3 u2 gv ((plE c e T).map evL) ∧ Rds 1 u2 tv ((plX c e T).map one1)) ∧ (Rds 3 u2 gw ((plE c e T).map evL) ∧ Rds 1 u2 tw ((plX c e T).map one1))) := ⟨⟨HG.out.1.below hM.below, HG.out.2.below hM.below⟩, hg3, hg4⟩
    clear hM hb2 hg3 hg4 HG
    have hM := Mv.nil u2
    repeat' (first | (go_big_may; first | (refine v_alloc rfl zer_board rfl ?_; intro u xb hN; replace hM := hM.new hN (by decide); clear hN) | (refine v_fill rfl rfl row_board rfl rfl hM.at0 HFV.out HZB.out ?_; intro u hv hc; replace hM := hM.put0 hc hv; clear hv hc)) | go_values | go_skip | go_guarded | go_step | go_upon | (simp only [Int.not_lt, Int.not_le] at *; go_simp))
    refine (HNW.out _).mono ?_
    rintro r u3 ⟨vc3, ve3, rfl, ht⟩
    have HM3 : Hid (Vs (mvl vc3 ve3 (nmV c e)) 606) := mvl_vs (rcs_one ht.c.rcs) (rcs_one ht.e.rcs) HNB.out
    have HL3 : Hid (0 + 606 ≤ (mvl vc3 ve3 (nmV c e)).length) := by show _ ≤ _; rw [HM3.out.len]; exact Nat.le_refl _
    have HA3 : Hid (cv (mvl vc3 ve3 (nmV c e)) 0 606 = mvl vc3 ve3 (nmV c e)) := cv_all HM3.out.len
    replace hM := ((hM.call ht.below).add (b := true) (ht.e.mono hM.below.size)).add (b := true) (ht.c.mono hM.below.size)
    clear ht
    repeat' (first | (go_big_may; first | (refine v_alloc rfl zer_mach rfl ?_; intro u xn hN; replace hM := hM.new hN (by decide); clear hN) | (refine v_fill rfl rfl row_mach rfl rfl hM.at0 HM3.out HZ.out ?_; intro u hv hc; replace hM := hM.put0 hc hv; clear hv hc)) | go_values | go_skip | go_guarded | go_step | go_upon | (simp only [Int.not_lt, Int.not_le] at *; go_simp))
    refine (HR1.out _).mono ?_
    rintro r u4 ⟨v4, g4, rfl, hc4, hb4⟩
    have HM4 : Hid (Vs (rgl v4 (ring.nwR c)) 6) := rgl_vs (rcs_one hc4.rcs)
    have HL4 : Hid (0 + 6 ≤ (rgl v4 (ring.nwR c)).length) := Nat.le_refl _
    have HA4 : Hid (cv (rgl v4 (ring.nwR c)) 0 6 = rgl v4 (ring.nwR c)) := rfl
    replace hM := hM.tel hc4 hb4
    clear hc4 hb4
    repeat' (first | (go_big_may; first | (refine v_alloc rfl zer_ring rfl ?_; intro u x4 hN; replace hM := hM.new hN (by decide); clear hN) | (refine v_fill rfl rfl row_ring rfl rfl hM.at0 HM4.out HZR.out ?_; intro u hv hc; replace hM := hM.put0 hc hv; clear hv hc)) | go_values | go_skip | go_guarded | go_step | go_upon | (simp only [Int.not_lt, Int.not_le] at *; go_simp))
    refine (HR2.out _).mono ?_
    rintro r u5 ⟨v5, g5, rfl, hc5, hb5⟩
    have HM5 : Hid (Vs (rgl v5 (ring.nwR e)) 6) := rgl_vs (rcs_one hc5.rcs)
    have HL5 : Hid (0 + 6 ≤ (rgl v5 (ring.nwR e)).length) := Nat.le_refl _
    have HA5 : Hid (cv (rgl v5 (ring.nwR e)) 0 6 = rgl v5 (ring.nwR e)) := rfl
    have HMl : Hid ((rgl v4 (ring.nwR c)).length = 6 ∧ (rgl v5 (ring.nwR e)).length = 6) := ⟨rfl, rfl⟩
    replace hM := hM.tel hc5 hb5
    clear hc5 hb5
    repeat' (first | (go_big_may; first | (refine v_alloc rfl zer_ring rfl ?_; intro u x5 hN; replace hM := hM.new hN (by decide); clear hN) | (refine v_fill rfl rfl row_ring rfl rfl hM.at0 HM5.out HZR.out ?_; intro u hv hc; replace hM := hM.put0 hc hv; clear hv hc) | (refine v_build rfl rfl hbr ?hbv ?_; (case hbv => simp [Act.eval, Act.put])) | (refine v_fill rfl rfl row_ring rfl rfl hM.at1 HZV.out HMl.out.1 ?_; intro u hv hc; replace hM := hM.put1 hc hv; clear hv hc) | (refine v_fill rfl rfl row_ring rfl rfl hM.at0 HZV.out HMl.out.2 ?_; intro u hv hc; replace hM := hM.put0 hc hv; clear hv hc) | (refine v_load rfl rfl row_board rfl (keep HXM.out hM.below) HL12.out HA12.out ?_) | (refine v_load rfl rfl row_board rfl hM.at3 HLB.out HAB.out ?_) | (refine slots.a_eql rfl rfl slots.cmp_board (l := fl (plM c e T).B) (m := fl (plM c e T).B) rfl rfl HFL.out HFL.out ?_; rw [decide_eq_true (rfl : fl (plM c e T).B = fl (plM c e T).B)])) | go_values | go_skip | go_guarded | go_step | go_upon | (simp only [Int.not_lt, Int.not_le] at *; go_simp))
    refine (HEV.out _ _ _ (HG2.out.1.1.below hM.below) (HG2.out.2.1.below hM.below)).mono ?_
    rintro r u6 ⟨rfl, hb6⟩
    replace hM := hM.call hb6
    clear hb6
    repeat' (first | go_values | go_skip | go_guarded | go_step | go_upon | (simp only [Int.not_lt, Int.not_le] at *; go_simp))
    refine (HER.out _ _ _ (HG2.out.1.2.below hM.below) (HG2.out.2.2.below hM.below)).mono ?_
    rintro r u7 ⟨rfl, hb7⟩
    replace hM := hM.call hb7
    clear hb7
    have hbm : ∀ w, (Instr.build 43 #[(0, agv (rgl nilS ring.zR)), (1, agv (rgl nilS ring.zR))]).run Try.prog w = .ok (agv (mvl nilS nilS (nmV c e))) w := fun w => by
      rw [HNM.out]
      exact bld_m2 HZV.out HZV.out w
    repeat' (first | (go_big_may; first | (refine v_load rfl rfl row_mach rfl hM.at2 HL3.out HA3.out ?_) | (refine v_load rfl rfl row_ring rfl hM.at1 HLZ.out HAZ.out ?_) | (refine v_load rfl rfl row_ring rfl hM.at0 HLZ.out HAZ.out ?_) | (refine v_build rfl rfl hbm ?hbv ?_; (case hbv => simp [Act.eval, Act.put]))) | go_values | go_skip | go_guarded | go_step | go_upon | (simp only [Int.not_lt, Int.not_le] at *; go_simp))
    refine (same_mc vc3 ve3 nilS nilS (nmV c e) _ (hM.read (b := true) (by simp)) (hM.read (b := true) (by simp)) (HNL.out _).1 (HNL.out _).2 HNB.out).mono ?_
    rintro r u8 ⟨rfl, hb8⟩
    replace hM := hM.call hb8
    clear hb8
    repeat' (first | go_values | go_skip | go_guarded | go_step | go_upon | (simp only [Int.not_lt, Int.not_le] at *; go_simp))
    go_ret
    exact ⟨rfl, bsq HW2.out hM.below⟩
  cases h2 : ring.cnB e
  · have HNM : Hid (nmV c e = zM) := by unfold nmV nmB; rw [h1, h2]; rfl
    have HNL : Hid (∀ u, Rcs u nilS (nmV c e).c.C ∧ Rcs u nilS (nmV c e).e.C) := fun u => by rw [HNM.out]; exact ⟨(Ces.nil u 0).rcs, (Ces.nil u 0).rcs⟩
    have q1 : nmC c e = 1 := by unfold nmC nmB; rw [h1, h2]; rfl
    have q2 : ring.nwC c = 0 := by unfold ring.nwC; rw [h1]; rfl
    have q3 : ring.nwC e = 1 := by unfold ring.nwC; rw [h2]; rfl
    rw [q1] at HNW
    rw [q2] at HR1
    rw [q3] at HR2
    clear q1 q2 q3 h1 h2
    go_enter Try.func5, Try.ntmps5
    repeat' (first | go_values | go_skip | go_guarded | go_step | go_upon | (simp only [Int.not_lt, Int.not_le] at *; go_simp))
    refine (HPL.out w hv).mono ?_
    rintro r u1 ⟨vc, ve, gv, tv, rfl, ht, hg1, hg2⟩
    have HM1 : Hid (Vs (mvl vc ve (plM c e T)) 606) := mvl_vs (rcs_one ht.c.rcs) (rcs_one ht.e.rcs) HWF.out
    have HL12 : Hid (12 + 594 ≤ (mvl vc ve (plM c e T)).length) := by show _ ≤ _; rw [HM1.out.len]; exact Nat.le_refl _
    have HA12 : Hid (cv (mvl vc ve (plM c e T)) 12 594 = ivs (fl (plM c e T).B)) := cv_b _ _ HWF.out
    have HW1 : Hid (Below w.heap.size w u1) := ht.below
    have HG : Hid (Rds 3 u1 gv ((plE c e T).map evL) ∧ Rds 1 u1 tv ((plX c e T).map one1)) := ⟨hg1, hg2⟩
    have hM := Mv.nil u1
    clear ht hg1 hg2
    repeat' (first | (go_big_may; first | (refine v_alloc rfl zer_mach rfl ?_; intro u xm hN; replace hM := hM.new hN (by decide); clear hN) | (refine v_fill rfl rfl row_mach rfl rfl hM.at0 HM1.out HZ.out ?_; intro u hv hc; replace hM := hM.put0 hc hv; clear hv hc)) | go_values | go_skip | go_guarded | go_step | go_upon | (simp only [Int.not_lt, Int.not_le] at *; go_simp))
    refine (HPD.out _ (hv.below (bsq HW1.out hM.below))).mono ?_
    rintro r u2 ⟨gw, tw, rfl, hb2, hg3, hg4⟩
    replace hM := hM.call hb2
    have HXM : Hid (u2.heap[xm]? = some (bv 43 (mvl vc ve (plM c e T)))) := hM.at0
    have HW2 : Hid (Below w.heap.size w u2) := bsq HW1.out hM.below
    have HG2 : Hid ((Rds 3 u2 gv ((plE c e T).map evL) ∧ Rds 1 u2 tv ((plX c e T).map one1)) ∧ (Rds 3 u2 gw ((plE c e T).map evL) ∧ Rds 1 u2 tw ((plX c e T).map one1))) := ⟨⟨HG.out.1.below hM.below, HG.out.2.below hM.below⟩, hg3, hg4⟩
    clear hM hb2 hg3 hg4 HG
    have hM := Mv.nil u2
    repeat' (first | (go_big_may; first | (refine v_alloc rfl zer_board rfl ?_; intro u xb hN; replace hM := hM.new hN (by decide); clear hN) | (refine v_fill rfl rfl row_board rfl rfl hM.at0 HFV.out HZB.out ?_; intro u hv hc; replace hM := hM.put0 hc hv; clear hv hc)) | go_values | go_skip | go_guarded | go_step | go_upon | (simp only [Int.not_lt, Int.not_le] at *; go_simp))
    refine (HNW.out _).mono ?_
    rintro r u3 ⟨vc3, ve3, rfl, ht⟩
    have HM3 : Hid (Vs (mvl vc3 ve3 (nmV c e)) 606) := mvl_vs (rcs_one ht.c.rcs) (rcs_one ht.e.rcs) HNB.out
    have HL3 : Hid (0 + 606 ≤ (mvl vc3 ve3 (nmV c e)).length) := by show _ ≤ _; rw [HM3.out.len]; exact Nat.le_refl _
    have HA3 : Hid (cv (mvl vc3 ve3 (nmV c e)) 0 606 = mvl vc3 ve3 (nmV c e)) := cv_all HM3.out.len
    replace hM := ((hM.call ht.below).add (b := true) (ht.e.mono hM.below.size)).add (b := true) (ht.c.mono hM.below.size)
    clear ht
    repeat' (first | (go_big_may; first | (refine v_alloc rfl zer_mach rfl ?_; intro u xn hN; replace hM := hM.new hN (by decide); clear hN) | (refine v_fill rfl rfl row_mach rfl rfl hM.at0 HM3.out HZ.out ?_; intro u hv hc; replace hM := hM.put0 hc hv; clear hv hc)) | go_values | go_skip | go_guarded | go_step | go_upon | (simp only [Int.not_lt, Int.not_le] at *; go_simp))
    refine (HR1.out _).mono ?_
    rintro r u4 ⟨v4, g4, rfl, hc4, hb4⟩
    have HM4 : Hid (Vs (rgl v4 (ring.nwR c)) 6) := rgl_vs (rcs_one hc4.rcs)
    have HL4 : Hid (0 + 6 ≤ (rgl v4 (ring.nwR c)).length) := Nat.le_refl _
    have HA4 : Hid (cv (rgl v4 (ring.nwR c)) 0 6 = rgl v4 (ring.nwR c)) := rfl
    replace hM := hM.tel hc4 hb4
    clear hc4 hb4
    repeat' (first | (go_big_may; first | (refine v_alloc rfl zer_ring rfl ?_; intro u x4 hN; replace hM := hM.new hN (by decide); clear hN) | (refine v_fill rfl rfl row_ring rfl rfl hM.at0 HM4.out HZR.out ?_; intro u hv hc; replace hM := hM.put0 hc hv; clear hv hc)) | go_values | go_skip | go_guarded | go_step | go_upon | (simp only [Int.not_lt, Int.not_le] at *; go_simp))
    refine (HR2.out _).mono ?_
    rintro r u5 ⟨v5, g5, rfl, hc5, hb5⟩
    have HM5 : Hid (Vs (rgl v5 (ring.nwR e)) 6) := rgl_vs (rcs_one hc5.rcs)
    have HL5 : Hid (0 + 6 ≤ (rgl v5 (ring.nwR e)).length) := Nat.le_refl _
    have HA5 : Hid (cv (rgl v5 (ring.nwR e)) 0 6 = rgl v5 (ring.nwR e)) := rfl
    have HMl : Hid ((rgl v4 (ring.nwR c)).length = 6 ∧ (rgl v5 (ring.nwR e)).length = 6) := ⟨rfl, rfl⟩
    replace hM := hM.tel hc5 hb5
    clear hc5 hb5
    repeat' (first | (go_big_may; first | (refine v_alloc rfl zer_ring rfl ?_; intro u x5 hN; replace hM := hM.new hN (by decide); clear hN) | (refine v_fill rfl rfl row_ring rfl rfl hM.at0 HM5.out HZR.out ?_; intro u hv hc; replace hM := hM.put0 hc hv; clear hv hc) | (refine v_build rfl rfl hbr ?hbv ?_; (case hbv => simp [Act.eval, Act.put])) | (refine v_fill rfl rfl row_ring rfl rfl hM.at1 HZV.out HMl.out.1 ?_; intro u hv hc; replace hM := hM.put1 hc hv; clear hv hc) | (refine v_fill rfl rfl row_ring rfl rfl hM.at0 HZV.out HMl.out.2 ?_; intro u hv hc; replace hM := hM.put0 hc hv; clear hv hc) | (refine v_load rfl rfl row_board rfl (keep HXM.out hM.below) HL12.out HA12.out ?_) | (refine v_load rfl rfl row_board rfl hM.at3 HLB.out HAB.out ?_) | (refine slots.a_eql rfl rfl slots.cmp_board (l := fl (plM c e T).B) (m := fl (plM c e T).B) rfl rfl HFL.out HFL.out ?_; rw [decide_eq_true (rfl : fl (plM c e T).B = fl (plM c e T).B)])) | go_values | go_skip | go_guarded | go_step | go_upon | (simp only [Int.not_lt, Int.not_le] at *; go_simp))
    refine (HEV.out _ _ _ (HG2.out.1.1.below hM.below) (HG2.out.2.1.below hM.below)).mono ?_
    rintro r u6 ⟨rfl, hb6⟩
    replace hM := hM.call hb6
    clear hb6
    repeat' (first | go_values | go_skip | go_guarded | go_step | go_upon | (simp only [Int.not_lt, Int.not_le] at *; go_simp))
    refine (HER.out _ _ _ (HG2.out.1.2.below hM.below) (HG2.out.2.2.below hM.below)).mono ?_
    rintro r u7 ⟨rfl, hb7⟩
    replace hM := hM.call hb7
    clear hb7
    have hbm : ∀ w, (Instr.build 43 #[(0, agv (rgl nilS ring.zR)), (1, agv (rgl nilS ring.zR))]).run Try.prog w = .ok (agv (mvl nilS nilS (nmV c e))) w := fun w => by
      rw [HNM.out]
      exact bld_m2 HZV.out HZV.out w
    repeat' (first | (go_big_may; first | (refine v_load rfl rfl row_mach rfl hM.at2 HL3.out HA3.out ?_) | (refine v_load rfl rfl row_ring rfl hM.at1 HLZ.out HAZ.out ?_) | (refine v_load rfl rfl row_ring rfl hM.at0 HLZ.out HAZ.out ?_) | (refine v_build rfl rfl hbm ?hbv ?_; (case hbv => simp [Act.eval, Act.put]))) | go_values | go_skip | go_guarded | go_step | go_upon | (simp only [Int.not_lt, Int.not_le] at *; go_simp))
    refine (same_mc vc3 ve3 nilS nilS (nmV c e) _ (hM.read (b := true) (by simp)) (hM.read (b := true) (by simp)) (HNL.out _).1 (HNL.out _).2 HNB.out).mono ?_
    rintro r u8 ⟨rfl, hb8⟩
    replace hM := hM.call hb8
    clear hb8
    repeat' (first | go_values | go_skip | go_guarded | go_step | go_upon | (simp only [Int.not_lt, Int.not_le] at *; go_simp))
    go_ret
    exact ⟨rfl, bsq HW2.out hM.below⟩
  have HNM : Hid (nmV c e = ⟨ring.nwR c, ring.nwR e, slots.zB⟩) := by
    show _ = _
    unfold nmV nmB ring.nwR
    rw [h1, h2]
    rfl
  have q1 : nmC c e = 0 := by unfold nmC nmB; rw [h1, h2]; rfl
  have q2 : ring.nwC c = 0 := by unfold ring.nwC; rw [h1]; rfl
  have q3 : ring.nwC e = 0 := by unfold ring.nwC; rw [h2]; rfl
  rw [q1] at HNW
  rw [q2] at HR1
  rw [q3] at HR2
  clear q1 q2 q3 h1 h2
  go_enter Try.func5, Try.ntmps5
  repeat' (first | go_values | go_skip | go_guarded | go_step | go_upon | (simp only [Int.not_lt, Int.not_le] at *; go_simp))
  refine (HPL.out w hv).mono ?_
  rintro r u1 ⟨vc, ve, gv, tv, rfl, ht, hg1, hg2⟩
  have HM1 : Hid (Vs (mvl vc ve (plM c e T)) 606) := mvl_vs (rcs_one ht.c.rcs) (rcs_one ht.e.rcs) HWF.out
  have HL12 : Hid (12 + 594 ≤ (mvl vc ve (plM c e T)).length) := by show _ ≤ _; rw [HM1.out.len]; exact Nat.le_refl _
  have HA12 : Hid (cv (mvl vc ve (plM c e T)) 12 594 = ivs (fl (plM c e T).B)) := cv_b _ _ HWF.out
  have HW1 : Hid (Below w.heap.size w u1) := ht.below
  have HG : Hid (Rds 3 u1 gv ((plE c e T).map evL) ∧ Rds 1 u1 tv ((plX c e T).map one1)) := ⟨hg1, hg2⟩
  have hM := Mv.nil u1
  clear ht hg1 hg2
  repeat' (first | (go_big_may; first | (refine v_alloc rfl zer_mach rfl ?_; intro u xm hN; replace hM := hM.new hN (by decide); clear hN) | (refine v_fill rfl rfl row_mach rfl rfl hM.at0 HM1.out HZ.out ?_; intro u hv hc; replace hM := hM.put0 hc hv; clear hv hc)) | go_values | go_skip | go_guarded | go_step | go_upon | (simp only [Int.not_lt, Int.not_le] at *; go_simp))
  refine (HPD.out _ (hv.below (bsq HW1.out hM.below))).mono ?_
  rintro r u2 ⟨gw, tw, rfl, hb2, hg3, hg4⟩
  replace hM := hM.call hb2
  have HXM : Hid (u2.heap[xm]? = some (bv 43 (mvl vc ve (plM c e T)))) := hM.at0
  have HW2 : Hid (Below w.heap.size w u2) := bsq HW1.out hM.below
  have HG2 : Hid ((Rds 3 u2 gv ((plE c e T).map evL) ∧ Rds 1 u2 tv ((plX c e T).map one1)) ∧ (Rds 3 u2 gw ((plE c e T).map evL) ∧ Rds 1 u2 tw ((plX c e T).map one1))) := ⟨⟨HG.out.1.below hM.below, HG.out.2.below hM.below⟩, hg3, hg4⟩
  clear hM hb2 hg3 hg4 HG
  have hM := Mv.nil u2
  repeat' (first | (go_big_may; first | (refine v_alloc rfl zer_board rfl ?_; intro u xb hN; replace hM := hM.new hN (by decide); clear hN) | (refine v_fill rfl rfl row_board rfl rfl hM.at0 HFV.out HZB.out ?_; intro u hv hc; replace hM := hM.put0 hc hv; clear hv hc)) | go_values | go_skip | go_guarded | go_step | go_upon | (simp only [Int.not_lt, Int.not_le] at *; go_simp))
  refine (HNW.out _).mono ?_
  rintro r u3 ⟨vc3, ve3, rfl, ht⟩
  have HM3 : Hid (Vs (mvl vc3 ve3 (nmV c e)) 606) := mvl_vs (rcs_one ht.c.rcs) (rcs_one ht.e.rcs) HNB.out
  have HL3 : Hid (0 + 606 ≤ (mvl vc3 ve3 (nmV c e)).length) := by show _ ≤ _; rw [HM3.out.len]; exact Nat.le_refl _
  have HA3 : Hid (cv (mvl vc3 ve3 (nmV c e)) 0 606 = mvl vc3 ve3 (nmV c e)) := cv_all HM3.out.len
  replace hM := ((hM.call ht.below).add (b := true) (ht.e.mono hM.below.size)).add (b := true) (ht.c.mono hM.below.size)
  clear ht
  repeat' (first | (go_big_may; first | (refine v_alloc rfl zer_mach rfl ?_; intro u xn hN; replace hM := hM.new hN (by decide); clear hN) | (refine v_fill rfl rfl row_mach rfl rfl hM.at0 HM3.out HZ.out ?_; intro u hv hc; replace hM := hM.put0 hc hv; clear hv hc)) | go_values | go_skip | go_guarded | go_step | go_upon | (simp only [Int.not_lt, Int.not_le] at *; go_simp))
  refine (HR1.out _).mono ?_
  rintro r u4 ⟨v4, g4, rfl, hc4, hb4⟩
  have HM4 : Hid (Vs (rgl v4 (ring.nwR c)) 6) := rgl_vs (rcs_one hc4.rcs)
  have HL4 : Hid (0 + 6 ≤ (rgl v4 (ring.nwR c)).length) := Nat.le_refl _
  have HA4 : Hid (cv (rgl v4 (ring.nwR c)) 0 6 = rgl v4 (ring.nwR c)) := rfl
  replace hM := hM.tel hc4 hb4
  clear hc4 hb4
  repeat' (first | (go_big_may; first | (refine v_alloc rfl zer_ring rfl ?_; intro u x4 hN; replace hM := hM.new hN (by decide); clear hN) | (refine v_fill rfl rfl row_ring rfl rfl hM.at0 HM4.out HZR.out ?_; intro u hv hc; replace hM := hM.put0 hc hv; clear hv hc)) | go_values | go_skip | go_guarded | go_step | go_upon | (simp only [Int.not_lt, Int.not_le] at *; go_simp))
  refine (HR2.out _).mono ?_
  rintro r u5 ⟨v5, g5, rfl, hc5, hb5⟩
  have HM5 : Hid (Vs (rgl v5 (ring.nwR e)) 6) := rgl_vs (rcs_one hc5.rcs)
  have HL5 : Hid (0 + 6 ≤ (rgl v5 (ring.nwR e)).length) := Nat.le_refl _
  have HA5 : Hid (cv (rgl v5 (ring.nwR e)) 0 6 = rgl v5 (ring.nwR e)) := rfl
  have HMl : Hid ((rgl v4 (ring.nwR c)).length = 6 ∧ (rgl v5 (ring.nwR e)).length = 6) := ⟨rfl, rfl⟩
  replace hM := hM.tel hc5 hb5
  clear hc5 hb5
  repeat' (first | (go_big_may; first | (refine v_alloc rfl zer_ring rfl ?_; intro u x5 hN; replace hM := hM.new hN (by decide); clear hN) | (refine v_fill rfl rfl row_ring rfl rfl hM.at0 HM5.out HZR.out ?_; intro u hv hc; replace hM := hM.put0 hc hv; clear hv hc) | (refine v_load rfl rfl row_board rfl (keep HXM.out hM.below) HL12.out HA12.out ?_) | (refine v_load rfl rfl row_board rfl hM.at3 HLB.out HAB.out ?_) | (refine slots.a_eql rfl rfl slots.cmp_board (l := fl (plM c e T).B) (m := fl (plM c e T).B) rfl rfl HFL.out HFL.out ?_; rw [decide_eq_true (rfl : fl (plM c e T).B = fl (plM c e T).B)])) | go_values | go_skip | go_guarded | go_step | go_upon | (simp only [Int.not_lt, Int.not_le] at *; go_simp))
  refine (HEV.out _ _ _ (HG2.out.1.1.below hM.below) (HG2.out.2.1.below hM.below)).mono ?_
  rintro r u6 ⟨rfl, hb6⟩
  replace hM := hM.call hb6
  clear hb6
  repeat' (first | go_values | go_skip | go_guarded | go_step | go_upon | (simp only [Int.not_lt, Int.not_le] at *; go_simp))
  refine (HER.out _ _ _ (HG2.out.1.2.below hM.below) (HG2.out.2.2.below hM.below)).mono ?_
  rintro r u7 ⟨rfl, hb7⟩
  replace hM := hM.call hb7
  clear hb7
  have hbm : ∀ w, (Instr.build 43 #[(0, agv (rgl v4 (ring.nwR c))), (1, agv (rgl v5 (ring.nwR e)))]).run Try.prog w = .ok (agv (mvl v4 v5 (nmV c e))) w := fun w => by
    rw [HNM.out]
    exact bld_m2 HM4.out HM5.out w
  repeat' (first | (go_big_may; first | (refine v_load rfl rfl row_mach rfl hM.at2 HL3.out HA3.out ?_) | (refine v_load rfl rfl row_ring rfl hM.at1 HL4.out HA4.out ?_) | (refine v_load rfl rfl row_ring rfl hM.at0 HL5.out HA5.out ?_) | (refine v_build rfl rfl hbm ?hbv ?_; (case hbv => simp [Act.eval, Act.put]))) | go_values | go_skip | go_guarded | go_step | go_upon | (simp only [Int.not_lt, Int.not_le] at *; go_simp))
  refine (same_mc vc3 ve3 v4 v5 (nmV c e) _ (hM.read (b := true) (by simp)) (hM.read (b := true) (by simp)) (hM.read (b := true) (by rw [HNM.out]; simp)) (hM.read (b := true) (by rw [HNM.out]; simp)) HNB.out).mono ?_
  rintro r u8 ⟨rfl, hb8⟩
  replace hM := hM.call hb8
  clear hb8
  repeat' (first | go_values | go_skip | go_guarded | go_step | go_upon | (simp only [Int.not_lt, Int.not_le] at *; go_simp))
  go_ret
  exact ⟨rfl, bsq HW2.out hM.below⟩
theorem walk (c e : Int) (v : Value) (T : List Dd) (wc : (Lit.int .i64 c).wf = true) (we : (Lit.int .i64 e).wf = true) (w : World) (hv : Rds 8 w v (T.map ddL)) : Calls Try.prog 5 #[.int .i64 c, .int .i64 e, v] w fun r w' => r = .returned (.bool true) ∧ Below w.heap.size w w' := walk0 c e v T w hv
end Go.Proofs.Ythjmcopknkemnaa.hostPlays
