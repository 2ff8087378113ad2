/- host: what Submit and workOnce answer. -/
import Derived.Test.YthjmcopknkemnaaHstD
import Derived.Test.YthjmcopknkemnaaSltK
namespace Go.Proofs.Ythjmcopknkemnaa.host
open Go Go.RowKit
open Go.Proofs.Ythjmcopknkemnaa
open Go.Proofs.Ythjmcopknkemnaa.slots (Row row_board row_cmd Chg ag fl Wf bsq)
open Go.Proofs.Ythjmcopknkemnaa.ring (Ces Rcs rgV rgW Rg Ce ceV named keep)
set_option linter.unusedVariables false
set_option linter.unusedSimpArgs false
set_option maxRecDepth 100000

/-- a machine that is handed in -/
structure In (w : World) (vc ve : Value) (m : Mc) : Prop where
  c : Rcs w vc m.c.C
  e : Rcs w ve m.e.C
  B : Wf m.B
  wc : Ws m.c.C
  we : Ws m.e.C
  l1 : m.c.C.length ≤ 5864062014634
  l2 : m.e.C.length ≤ 5864062014634
theorem In.vs {w : World} {vc ve : Value} {m : Mc} (h : In w vc ve m) : Vs (mvl vc ve m) 606 := mvl_vs (rcs_one h.c) (rcs_one h.e) h.B
theorem Tl.inn {w w' : World} {vc ve : Value} {m : Mc} (h : Tl w vc ve m w') (hB : Wf m.B) (wc : Ws m.c.C) (we : Ws m.e.C) (l1 : m.c.C.length ≤ 5864062014634) (l2 : m.e.C.length ≤ 5864062014634) : In w' vc ve m := ⟨h.c.rcs, h.e.rcs, hB, wc, we, l1, l2⟩
theorem In.below {w u : World} {vc ve : Value} {m : Mc} (h : In w vc ve m) (hb : Below w.heap.size w u) : In u vc ve m := ⟨h.c.below hb, h.e.below hb, h.B, h.wc, h.we, h.l1, h.l2⟩
theorem one_sl {w : World} {v : Value} {C : List Ce} (h : Rcs w v C) : ∃ a n c, v = .slice a n c := by obtain ⟨a, c, h, _⟩ := h.form; exact ⟨_, _, _, h⟩
set_option maxHeartbeats 8000000 in
theorem submit_any (vc ve : Value) (m : Mc) (x : Cm) (w : World) (hi : In w vc ve m) :
    Calls Try.prog 13 #[agv (mvl vc ve m), cmV x] w fun e w' => ∃ vc' ve', e = .returned (.tuple #[agv (mvl vc' ve' (sbV m x)), .int .i64 (sbC m x)]) ∧ Tl w vc' ve' (sbV m x) w' := by
  have hM : Mv w w [] [(false, vc, m.c.C), (false, ve, m.e.C)] := ((Mv.nil w).old hi.e).old hi.c
  have HI : Hid (In w vc ve m) := hi
  have HV : Hid (Vs (mvl vc ve m) 606) := hi.vs
  have HL0 : Hid (0 + 606 ≤ (mvl vc ve m).length) := by show _ ≤ _; rw [hi.vs.len]; exact Nat.le_refl _
  have HA0 : Hid (cv (mvl vc ve m) 0 606 = mvl vc ve m) := cv_all hi.vs.len
  have HCP : Hid (∀ u, Below w.heap.size w u → Calls Try.prog 35 #[agv (mvl vc ve m)] u fun e w' => ∃ vc' ve', e = .returned (agv (mvl vc' ve' m)) ∧ Tl u vc' ve' m w') := fun u hb => copied_any vc ve m u (hi.c.below hb) (hi.e.below hb) hi.B hi.l1 hi.l2
  have HIR : Hid (∀ v1 v2 u, Rcs u v1 m.c.C → Rcs u v2 m.e.C → Calls Try.prog 36 #[agv (mvl v1 v2 m)] u fun e w' => e = .returned (.bool (rtB m)) ∧ Below u.heap.size u w') := fun v1 v2 u h1 h2 => isRight_any v1 v2 m u h1 h2 hi.B hi.wc hi.we
  have HPK : Hid (∀ u, Calls Try.prog 9 #[cmV x] u fun e w' => e = .returned (.tuple #[.int .u64 (pkV x), .int .i64 (pkC x)]) ∧ Below u.heap.size u w') := pack_any x
  have HVS : Hid (∀ (u : World) v1 v2, Rcs u v1 m.c.C → Rcs u v2 m.e.C → Vs (mvl v1 v2 m) 606) := fun u v1 v2 h1 h2 => mvl_vs (rcs_one h1) (rcs_one h2) hi.B
  have HZ : Hid (zl.length = 606) := zl_vs.len
  have HX : Hid (Vs (ivs [x.1, x.2.1, x.2.2.1, x.2.2.2]) 4) := cm_vs x
  have HLX : Hid (0 + 4 ≤ (ivs [x.1, x.2.1, x.2.2.1, x.2.2.2]).length) := Nat.le_refl _
  have HAX : Hid (cv (ivs [x.1, x.2.1, x.2.2.1, x.2.2.2]) 0 4 = ivs [x.1, x.2.1, x.2.2.1, x.2.2.2]) := cv_all rfl
  have HW : Hid (Wf m.B) := hi.B
  clear hi
  unfold cmV at HPK ⊢
  generalize hvx : ivs [x.1, x.2.1, x.2.2.1, x.2.2.2] = X at *
  clear hvx
  have HQ1 : Hid (rtB m = false → sbV m x = m ∧ sbC m x = 4) := fun h => by unfold sbV sbC; rw [if_pos h, if_pos h]; exact ⟨rfl, rfl⟩
  have HQ2 : Hid (rtB m = true → pkB x = false → sbV m x = m ∧ sbC m x = 1) := fun h h2 => by unfold sbV sbC; rw [h, h2]; exact ⟨rfl, rfl⟩
  have HQ3 : Hid (rtB m = true → pkB x = true → sbV m x = (if ring.putB m.c = true then ⟨ring.putV m.c (pkW x), m.e, m.B⟩ else m) ∧ sbC m x = if ring.putB m.c = true then 0 else 11) := fun h h2 => by unfold sbV sbC; rw [h, h2]; exact ⟨rfl, rfl⟩
  have HPC : Hid (pkC x = (if pkB x = true then 0 else 1) ∧ pkV x = if pkB x = true then pkW x else 0) := ⟨rfl, rfl⟩
  generalize hsv : sbV m x = sv at *
  generalize hsc : sbC m x = sc at *
  cases hR : rtB m
  · obtain ⟨q1, q2⟩ := HQ1.out hR
    subst q1 q2
    rw [hR] at HIR
    clear HQ1 HQ2 HQ3 hR hsv hsc
    go_enter Try.func13, Try.ntmps13
    repeat' (first | (go_big_may; first | (refine v_box rfl rfl rfl ?_; intro u xm hN; replace hM := hM.new hN (by decide); clear hN) | (refine v_box rfl rfl rfl ?_; intro u xc hN; replace hM := hM.new hN (by decide); clear hN) | (refine v_alloc rfl zer_mach rfl ?_; intro u xr hN; replace hM := hM.new hN (by decide); clear hN) | (refine v_load rfl rfl row_mach rfl hM.at2 HL0.out HA0.out ?_)) | go_values | go_skip | go_guarded | go_step | go_upon | (simp only [Int.not_lt, Int.not_le] at *; go_simp))
    refine (HCP.out _ hM.below).mono ?_
    rintro r u1 ⟨v1, v2, rfl, ht⟩
    replace hM := (hM.tel ht.c ht.below).add (b := true) (ht.e.mono hM.below.size)
    clear ht
    have H2 : Hid (Vs (mvl v1 v2 sv) 606) := HVS.out _ _ _ (hM.read (b := true) (by simp)) (hM.read (b := true) (by simp))
    have HL2 : Hid (0 + 606 ≤ (mvl v1 v2 sv).length) := by show _ ≤ _; rw [H2.out.len]; exact Nat.le_refl _
    have HA2 : Hid (cv (mvl v1 v2 sv) 0 606 = mvl v1 v2 sv) := cv_all H2.out.len
    repeat' (first | (go_big_may; first | (refine v_fill rfl rfl row_mach rfl rfl hM.at2 H2.out HV.out.len ?_; intro u hv hc; replace hM := hM.put2 hc hv; clear hv hc) | (refine v_load rfl rfl row_mach rfl hM.at2 HL2.out HA2.out ?_)) | go_values | go_skip | go_guarded | go_step | go_upon | (simp only [Int.not_lt, Int.not_le] at *; go_simp))
    refine (HIR.out v1 v2 _ (hM.read (b := true) (by simp)) (hM.read (b := true) (by simp))).mono ?_
    rintro r u2 ⟨rfl, hv⟩
    replace hM := hM.call hv
    clear hv
    repeat' (first | (go_big_may; first | (refine v_load rfl rfl row_mach rfl hM.at2 HL2.out HA2.out ?_) | (refine v_fill rfl rfl row_mach rfl rfl hM.at0 H2.out HZ.out ?_; intro u hv hc; replace hM := hM.put0 hc hv; clear hv hc)) | go_values | go_skip | go_guarded | go_step | go_upon | (simp only [Int.not_lt, Int.not_le] at *; go_simp))
    exact bodyPost_ret (slots.ret_2 Try.results13 rfl (ld_var row_mach hM.at0 H2.out.len) rfl) rfl ⟨_, _, rfl, hM.mine (by simp), hM.mine (by simp), hM.below⟩
  have HRM : Hid (rtB m = true) := hR
  rw [hR] at HIR
  cases hP : pkB x
  · obtain ⟨q1, q2⟩ := HQ2.out hR hP
    subst q1 q2
    rw [hP] at HPC
    obtain ⟨p1, p2⟩ := HPC.out
    rw [p1, p2] at HPK
    clear HQ1 HQ2 HQ3 hR hP hsv hsc p1 p2
    go_enter Try.func13, Try.ntmps13
    repeat' (first | (go_big_may; first | (refine v_box rfl rfl rfl ?_; intro u xm hN; replace hM := hM.new hN (by decide); clear hN) | (refine v_box rfl rfl rfl ?_; intro u xc hN; replace hM := hM.new hN (by decide); clear hN) | (refine v_alloc rfl zer_mach rfl ?_; intro u xr hN; replace hM := hM.new hN (by decide); clear hN) | (refine v_load rfl rfl row_mach rfl hM.at2 HL0.out HA0.out ?_)) | go_values | go_skip | go_guarded | go_step | go_upon | (simp only [Int.not_lt, Int.not_le] at *; go_simp))
    refine (HCP.out _ hM.below).mono ?_
    rintro r u1 ⟨v1, v2, rfl, ht⟩
    replace hM := (hM.tel ht.c ht.below).add (b := true) (ht.e.mono hM.below.size)
    clear ht
    have H2 : Hid (Vs (mvl v1 v2 sv) 606) := HVS.out _ _ _ (hM.read (b := true) (by simp)) (hM.read (b := true) (by simp))
    have HL2 : Hid (0 + 606 ≤ (mvl v1 v2 sv).length) := by show _ ≤ _; rw [H2.out.len]; exact Nat.le_refl _
    have HA2 : Hid (cv (mvl v1 v2 sv) 0 606 = mvl v1 v2 sv) := cv_all H2.out.len
    repeat' (first | (go_big_may; first | (refine v_fill rfl rfl row_mach rfl rfl hM.at2 H2.out HV.out.len ?_; intro u hv hc; replace hM := hM.put2 hc hv; clear hv hc) | (refine v_load rfl rfl row_mach rfl hM.at2 HL2.out HA2.out ?_)) | go_values | go_skip | go_guarded | go_step | go_upon | (simp only [Int.not_lt, Int.not_le] at *; go_simp))
    refine (HIR.out v1 v2 _ (hM.read (b := true) (by simp)) (hM.read (b := true) (by simp))).mono ?_
    rintro r u2 ⟨rfl, hv⟩
    replace hM := hM.call hv
    clear hv
    repeat' (first | (go_big_may; first | (refine v_load rfl rfl row_cmd rfl hM.at1 HLX.out HAX.out ?_)) | go_values | go_skip | go_guarded | go_step | go_upon | (simp only [Int.not_lt, Int.not_le] at *; go_simp))
    refine (HPK.out _).mono ?_
    rintro r u3 ⟨rfl, hv⟩
    replace hM := hM.call hv
    clear hv
    repeat' (first | (go_big_may; first | (refine v_load rfl rfl row_mach rfl hM.at2 HL2.out HA2.out ?_) | (refine v_fill rfl rfl row_mach rfl rfl hM.at0 H2.out HZ.out ?_; intro u hv hc; replace hM := hM.put0 hc hv; clear hv hc)) | go_values | go_skip | go_guarded | go_step | go_upon | (simp only [Int.not_lt, Int.not_le] at *; go_simp))
    exact bodyPost_ret (slots.ret_2 Try.results13 rfl (ld_var row_mach hM.at0 H2.out.len) rfl) rfl ⟨_, _, rfl, hM.mine (by simp), hM.mine (by simp), hM.below⟩
  obtain ⟨q1, q2⟩ := HQ3.out hR hP
  rw [hP] at HPC
  obtain ⟨p1, p2⟩ := HPC.out
  rw [p1, p2] at HPK
  have hk : ring.chk m.c = 0 := ring.chk_ok.2 (rt_iff.1 hR).c
  have HPT : Hid (∀ v u, Rcs u v m.c.C → Calls Try.prog 37 #[agv (rgl v m.c), .int .u64 (pkW x)] u fun e w' => ∃ v', e = .returned (.tuple #[agv (rgl v' (if ring.putB m.c = true then ring.putV m.c (pkW x) else ring.zR)), .int .i64 (if ring.putB m.c = true then 0 else 11)]) ∧ ring.Tel u v' (if ring.putB m.c = true then ring.putV m.c (pkW x) else ring.zR) w') := fun v u h => by
    have := ring.Put_any v m.c (pkW x) u h
    have e1 : ring.ptV m.c (pkW x) = if ring.putB m.c = true then ring.putV m.c (pkW x) else ring.zR := by unfold ring.ptV; rw [if_pos hk]
    have e2 : ring.ptC m.c = if ring.putB m.c = true then 0 else 11 := by unfold ring.ptC; rw [if_pos hk]
    rw [e1, e2] at this
    exact this
  have HZR : Hid ((rgl nilS ring.zR).length = 6) := rfl
  simp only [if_true] at HPK
  generalize pkW x = W at *
  cases hB : ring.putB m.c
  · rw [hB] at q1 q2 HPT
    replace q1 : sv = m := q1
    replace q2 : sc = 11 := q2
    subst q1 q2
    simp only [Bool.false_eq_true, if_false] at HPT
    clear HQ1 HQ2 HQ3 hR hP hsv hsc p1 p2 hk hB
    go_enter Try.func13, Try.ntmps13
    repeat' (first | (go_big_may; first | (refine v_box rfl rfl rfl ?_; intro u xm hN; replace hM := hM.new hN (by decide); clear hN) | (refine v_box rfl rfl rfl ?_; intro u xc hN; replace hM := hM.new hN (by decide); clear hN) | (refine v_alloc rfl zer_mach rfl ?_; intro u xr hN; replace hM := hM.new hN (by decide); clear hN) | (refine v_load rfl rfl row_mach rfl hM.at2 HL0.out HA0.out ?_)) | go_values | go_skip | go_guarded | go_step | go_upon | (simp only [Int.not_lt, Int.not_le] at *; go_simp))
    refine (HCP.out _ hM.below).mono ?_
    rintro r u1 ⟨v1, v2, rfl, ht⟩
    replace hM := (hM.tel ht.c ht.below).add (b := true) (ht.e.mono hM.below.size)
    clear ht
    have H2 : Hid (Vs (mvl v1 v2 sv) 606) := HVS.out _ _ _ (hM.read (b := true) (by simp)) (hM.read (b := true) (by simp))
    have HL2 : Hid (0 + 606 ≤ (mvl v1 v2 sv).length) := by show _ ≤ _; rw [H2.out.len]; exact Nat.le_refl _
    have HA2 : Hid (cv (mvl v1 v2 sv) 0 606 = mvl v1 v2 sv) := cv_all H2.out.len
    have HL6 : Hid (0 + 6 ≤ (mvl v1 v2 sv).length) := by show _ ≤ _; rw [H2.out.len]; omega
    have HA6 : Hid (cv (mvl v1 v2 sv) 0 6 = rgl v1 sv.c) := cv_c _ _ _
    repeat' (first | (go_big_may; first | (refine v_fill rfl rfl row_mach rfl rfl hM.at2 H2.out HV.out.len ?_; intro u hv hc; replace hM := hM.put2 hc hv; clear hv hc) | (refine v_load rfl rfl row_mach rfl hM.at2 HL2.out HA2.out ?_)) | go_values | go_skip | go_guarded | go_step | go_upon | (simp only [Int.not_lt, Int.not_le] at *; go_simp))
    refine (HIR.out v1 v2 _ (hM.read (b := true) (by simp)) (hM.read (b := true) (by simp))).mono ?_
    rintro r u2 ⟨rfl, hv⟩
    replace hM := hM.call hv
    clear hv
    repeat' (first | (go_big_may; first | (refine v_load rfl rfl row_cmd rfl hM.at1 HLX.out HAX.out ?_)) | go_values | go_skip | go_guarded | go_step | go_upon | (simp only [Int.not_lt, Int.not_le] at *; go_simp))
    refine (HPK.out _).mono ?_
    rintro r u3 ⟨rfl, hv⟩
    replace hM := hM.call hv
    clear hv
    repeat' (first | (go_big_may; first | (refine v_load rfl rfl row_ring rfl hM.at2 HL6.out HA6.out ?_)) | go_values | go_skip | go_guarded | go_step | go_upon | (simp only [Int.not_lt, Int.not_le] at *; go_simp))
    refine (HPT.out v1 _ (hM.read (b := true) (by simp))).mono ?_
    rintro r u4 ⟨v3, rfl, ht⟩
    replace hM := hM.tel ht.1 ht.2
    have H3 : Hid (Vs (rgl v3 ring.zR) 6) := rgl_vs (rcs_one (hM.read (b := true) (x := v3) (C := ring.zR.C) (by simp)))
    clear ht
    repeat' (first | (go_big_may; first | (refine v_alloc rfl zer_ring rfl ?_; intro u xg hN; replace hM := hM.new hN (by decide); clear hN) | (refine v_fill rfl rfl row_ring rfl rfl hM.at0 H3.out HZR.out ?_; intro u hv hc; replace hM := hM.put0 hc hv; clear hv hc) | (refine v_load rfl rfl row_mach rfl hM.at3 HL2.out HA2.out ?_) | (refine v_fill rfl rfl row_mach rfl rfl hM.at1 H2.out HZ.out ?_; intro u hv hc; replace hM := hM.put1 hc hv; clear hv hc)) | go_values | go_skip | go_guarded | go_step | go_upon | (simp only [Int.not_lt, Int.not_le] at *; go_simp))
    exact bodyPost_ret (slots.ret_2 Try.results13 rfl (ld_var row_mach hM.at1 H2.out.len) rfl) rfl ⟨_, _, rfl, hM.mine (by simp), hM.mine (by simp), hM.below⟩
  · rw [hB] at q1 q2 HPT
    replace q1 : sv = ⟨ring.putV m.c W, m.e, m.B⟩ := q1
    replace q2 : sc = 0 := q2
    subst q2
    simp only [if_true] at HPT
    clear HQ1 HQ2 HQ3 hR hP hsv hsc p1 p2 hk hB
    generalize ring.putV m.c W = R at *
    go_enter Try.func13, Try.ntmps13
    repeat' (first | (go_big_may; first | (refine v_box rfl rfl rfl ?_; intro u xm hN; replace hM := hM.new hN (by decide); clear hN) | (refine v_box rfl rfl rfl ?_; intro u xc hN; replace hM := hM.new hN (by decide); clear hN) | (refine v_alloc rfl zer_mach rfl ?_; intro u xr hN; replace hM := hM.new hN (by decide); clear hN) | (refine v_load rfl rfl row_mach rfl hM.at2 HL0.out HA0.out ?_)) | go_values | go_skip | go_guarded | go_step | go_upon | (simp only [Int.not_lt, Int.not_le] at *; go_simp))
    refine (HCP.out _ hM.below).mono ?_
    rintro r u1 ⟨v1, v2, rfl, ht⟩
    replace hM := (hM.tel ht.c ht.below).add (b := true) (ht.e.mono hM.below.size)
    clear ht
    have H2 : Hid (Vs (mvl v1 v2 m) 606) := HVS.out _ _ _ (hM.read (b := true) (by simp)) (hM.read (b := true) (by simp))
    have HL2 : Hid (0 + 606 ≤ (mvl v1 v2 m).length) := by show _ ≤ _; rw [H2.out.len]; exact Nat.le_refl _
    have HA2 : Hid (cv (mvl v1 v2 m) 0 606 = mvl v1 v2 m) := cv_all H2.out.len
    have HL6 : Hid (0 + 6 ≤ (mvl v1 v2 m).length) := by show _ ≤ _; rw [H2.out.len]; omega
    have HA6 : Hid (cv (mvl v1 v2 m) 0 6 = rgl v1 m.c) := cv_c _ _ _
    repeat' (first | (go_big_may; first | (refine v_fill rfl rfl row_mach rfl rfl hM.at2 H2.out HV.out.len ?_; intro u hv hc; replace hM := hM.put2 hc hv; clear hv hc) | (refine v_load rfl rfl row_mach rfl hM.at2 HL2.out HA2.out ?_)) | go_values | go_skip | go_guarded | go_step | go_upon | (simp only [Int.not_lt, Int.not_le] at *; go_simp))
    refine (HIR.out v1 v2 _ (hM.read (b := true) (by simp)) (hM.read (b := true) (by simp))).mono ?_
    rintro r u2 ⟨rfl, hv⟩
    replace hM := hM.call hv
    clear hv
    repeat' (first | (go_big_may; first | (refine v_load rfl rfl row_cmd rfl hM.at1 HLX.out HAX.out ?_)) | go_values | go_skip | go_guarded | go_step | go_upon | (simp only [Int.not_lt, Int.not_le] at *; go_simp))
    refine (HPK.out _).mono ?_
    rintro r u3 ⟨rfl, hv⟩
    replace hM := hM.call hv
    clear hv
    repeat' (first | (go_big_may; first | (refine v_load rfl rfl row_ring rfl hM.at2 HL6.out HA6.out ?_)) | go_values | go_skip | go_guarded | go_step | go_upon | (simp only [Int.not_lt, Int.not_le] at *; go_simp))
    refine (HPT.out v1 _ (hM.read (b := true) (by simp))).mono ?_
    rintro r u4 ⟨v3, rfl, ht⟩
    replace hM := hM.tel ht.1 ht.2
    have H3 : Hid (Vs (rgl v3 R) 6) := rgl_vs (rcs_one (hM.read (b := true) (x := v3) (C := R.C) (by simp)))
    clear ht
    have HL7 : Hid (0 + 6 ≤ (rgl v3 R).length) := Nat.le_refl _
    have HA7 : Hid (cv (rgl v3 R) 0 6 = rgl v3 R) := rfl
    have H4 : Hid (Vs (mvl v3 v2 sv) 606) := by rw [q1]; exact mvl_vs (rcs_one (hM.read (b := true) (x := v3) (C := R.C) (by simp))) (rcs_one (hM.read (b := true) (x := v2) (C := m.e.C) (by simp))) HW.out
    have HP4 : Hid (ptv (mvl v1 v2 m) 0 (rgl v3 R) = mvl v3 v2 sv) := by show _ = _; rw [q1]; exact ptv_c _ _ _ _ _
    have HL4 : Hid (0 + 606 ≤ (mvl v3 v2 sv).length) := by show _ ≤ _; rw [H4.out.len]; exact Nat.le_refl _
    have HA4 : Hid (cv (mvl v3 v2 sv) 0 606 = mvl v3 v2 sv) := cv_all H4.out.len
    have HS1 : Hid (R.C = sv.c.C ∧ m.e.C = sv.e.C) := by rw [q1]; exact ⟨rfl, rfl⟩
    clear q1
    repeat' (first | (go_big_may; first | (refine v_alloc rfl zer_ring rfl ?_; intro u xg hN; replace hM := hM.new hN (by decide); clear hN) | (refine v_fill rfl rfl row_ring rfl rfl hM.at0 H3.out HZR.out ?_; intro u hv hc; replace hM := hM.put0 hc hv; clear hv hc) | (refine v_load rfl rfl row_ring rfl hM.at0 HL7.out HA7.out ?_) | (refine v_store rfl rfl row_ring rfl rfl hM.at3 H3.out HL6.out HP4.out ?_; intro u hv hc; replace hM := hM.put3 hc hv; clear hv hc) | (refine v_load rfl rfl row_mach rfl hM.at3 HL4.out HA4.out ?_) | (refine v_fill rfl rfl row_mach rfl rfl hM.at1 H4.out HZ.out ?_; intro u hv hc; replace hM := hM.put1 hc hv; clear hv hc)) | go_values | go_skip | go_guarded | go_step | go_upon | (simp only [Int.not_lt, Int.not_le] at *; go_simp))
    exact bodyPost_ret (slots.ret_2 Try.results13 rfl (ld_var row_mach hM.at1 H4.out.len) rfl) rfl ⟨_, _, rfl, by rw [← HS1.out.1]; exact hM.mine (by simp), by rw [← HS1.out.2]; exact hM.mine (by simp), hM.below⟩
end Go.Proofs.Ythjmcopknkemnaa.host
