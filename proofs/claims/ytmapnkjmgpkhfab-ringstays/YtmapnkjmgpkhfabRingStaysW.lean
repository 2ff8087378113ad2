/- RingStays: what is told of a right ring is right; putting leaves Get where it is, getting leaves all cells. -/
import Derived.Test.YtmapnkjmgpkhfabRngL
import Derived.Test.YtmapnkjmgpkhfabRngR
import Derived.Test.YtmapnkjmgpkhfabRngS
namespace Go.Proofs.Ytmapnkjmgpkhfab.ringStays
open Go Go.RowKit Go.Proofs.Ytmapnkjmgpkhfab.ring
set_option linter.unusedVariables false
set_option linter.unusedSimpArgs false
set_option maxRecDepth 100000

set_option maxHeartbeats 8000000 in
theorem walk (v : Value) (r : Rg) (x : Int) (wx : (Lit.int .u64 x).wf = true) (w : World) (hv : Rcs w v r.C) :
    Calls Try.prog 3 #[rgV v r.pa r.pb r.ga r.gb r.sn, .int .u64 x] w fun e w' => e = .returned (.bool true) ∧ Below w.heap.size w w' := by
  clear wx
  obtain ⟨ad, c, rfl, hlc, hcm⟩ := hv.form
  obtain ⟨n, hn⟩ : ∃ n, r.C.length = n := ⟨_, rfl⟩
  rw [hn] at hv hlc ⊢
  obtain ⟨w1, hw1, hX1, hb1⟩ := named w (rgOf (.slice ad n c) r)
  obtain ⟨⟨hz, x0, x1, x2, x3, x4, x5⟩, _⟩ := box6 hX1
  have HW : Hid (∀ u, Below w1.heap.size w1 u → Below w.heap.size w u) := fun u hu => bsq hb1 hu
  have HX : Hid (∀ u, Below w1.heap.size w1 u → u.heap[w.heap.size]? = some (rgOf (.slice ad n c) r) ∧ Rcs u (.slice ad n c) r.C) := fun u hu => ⟨keep hX1 hu, hv.below (bsq hb1 hu)⟩
  have HN : Hid (r.C.length = n) := hn
  have HLI : Hid (∀ u, Calls Try.prog 7 #[] u fun e w' => e = .returned (.bool true) ∧ Below u.heap.size u w') := lives_any
  obtain ⟨k, hk⟩ : ∃ k, chk r = k := ⟨_, rfl⟩
  obtain ⟨V, hV⟩ : ∃ V, ptV r x = V := ⟨_, rfl⟩
  obtain ⟨z, hz'⟩ : ∃ z, ptC r = z := ⟨_, rfl⟩
  obtain ⟨U, hU⟩ : ∃ V, gtV r = V := ⟨_, rfl⟩
  obtain ⟨gw, hgw⟩ : ∃ z, gtW r = z := ⟨_, rfl⟩
  obtain ⟨gk, hgk⟩ : ∃ z, gtB r = z := ⟨_, rfl⟩
  have HK : Hid (chk r = k ∧ ptV r x = V ∧ ptC r = z ∧ gtV r = U) := ⟨hk, hV, hz', hU⟩
  have HP : Hid (∀ u, Below w1.heap.size w1 u → Calls Try.prog 5 #[rgW (.slice ad n c) r, .int .u64 x] u fun e w' => ∃ v', e = .returned (.tuple #[rgW v' V, .int .i64 z]) ∧ Tel u v' V w') := fun u hu => by
    have := Put_any (.slice ad n c) r x u (hv.below (bsq hb1 hu))
    rw [hV, hz'] at this
    exact this
  have HG : Hid (∀ u, Below w1.heap.size w1 u → Calls Try.prog 6 #[rgW (.slice ad n c) r] u fun e w' => ∃ v', e = .returned (.tuple #[rgW v' U, .int .u64 gw, .bool gk, .int .i64 k]) ∧ Tel u v' U w') := fun u hu => by
    have := Get_any (.slice ad n c) r u (hv.below (bsq hb1 hu))
    rw [hU, hgw, hgk, hk] at this
    exact this
  obtain ⟨C, pa, pb, ga, gb, sn⟩ := r
  obtain ⟨VC, vpa, vpb, vga, vgb, vsn⟩ := V
  obtain ⟨UC, upa, upb, uga, ugb, usn⟩ := U
  simp only at x0 x1 x2 x3 x4 x5
  unfold maxLen at hcm
  clear hv hn hX1 hb1 hk hV hz' hU hgw hgk
  go_enter Try.func3, Try.ntmps3
  go_wp2_with fail
  refine (HP.out _ (Below.refl _ _)).mono ?_
  rintro e u1 ⟨v1, rfl, hv1, hb1⟩
  obtain ⟨u1', u2, hu1', hu2, hY1, hY2, hb2⟩ := laid6 u1 26 (.slice none 0 0) (.int .i64 0) (.int .i64 0) (.int .i64 0) (.int .i64 0) (.int .i64 0) v1 (.int .i64 vpa) (.int .i64 vpb) (.int .i64 vga) (.int .i64 vgb) (.int .i64 vsn)
  have HU2 : Hid (Below w1.heap.size w1 u2) := bsq hb1 hb2
  have HV2 : Hid (Rcs u2 v1 VC ∧ u2.heap[u1.heap.size]? = some (rgO v1 vpa vpb vga vgb vsn)) := ⟨hv1.rcs.below hb2, hY2⟩
  obtain ⟨va, vc, hvf, _, hvcm⟩ := hv1.form
  obtain ⟨vn, hvn⟩ : ∃ m, VC.length = m := ⟨_, rfl⟩
  rw [hvn] at hvf
  have HVN : Hid (VC.length = vn) := hvn
  subst hvf
  obtain ⟨⟨hz1, t0, t1, t2, t3, t4, t5⟩, f0, f1, f2, f3, f4, f5⟩ := box6 hY1
  obtain ⟨⟨hz2, a0, a1, a2, a3, a4, a5⟩, _⟩ := box6 (HX.out u2 HU2.out).1
  simp only at a0 a1 a2 a3 a4 a5
  clear hv1 hb1 hY1 hY2 hb2 x0 x1 x2 x3 x4 x5 hw1 hvn
  go_upto_region 2 with (fail)
  try rw [hu2]
  clear hu2 hu1' t0 t1 t2 t3 t4 t5 f0 f1 f2 f3 f4 f5
  go_wp2_with fail
  refine (HG.out _ HU2.out).mono ?_
  rintro e u3 ⟨v3, rfl, hv3, hb3⟩
  obtain ⟨u3', u4, hu3', hu4, hY3, hY4, hb4⟩ := laid6 u3 26 (.slice none 0 0) (.int .i64 0) (.int .i64 0) (.int .i64 0) (.int .i64 0) (.int .i64 0) v3 (.int .i64 upa) (.int .i64 upb) (.int .i64 uga) (.int .i64 ugb) (.int .i64 usn)
  have hb24 := bsq hb3 hb4
  have HU4 : Hid (Below w1.heap.size w1 u4) := bsq HU2.out hb24
  obtain ⟨wa, wn, wc, rfl⟩ : ∃ a n c, v3 = .slice a n c := by obtain ⟨a, c, h, _⟩ := hv3.form; exact ⟨_, _, _, h⟩
  have HV4 : Hid (∀ W, Below u4.heap.size u4 W → (W.heap[u1.heap.size]? = some (rgO (.slice va vn vc) vpa vpb vga vgb vsn) ∧ W.heap[u3.heap.size]? = some (rgO (.slice wa wn wc) upa upb uga ugb usn) ∧ W.heap[w.heap.size]? = some (rgO (.slice ad n c) pa pb ga gb sn)) ∧ Rcs W (.slice va vn vc) VC ∧ Rcs W (.slice wa wn wc) UC ∧ Rcs W (.slice ad n c) C) := fun W hW => ⟨⟨keep (keep HV2.out.2 hb24) hW, keep hY4 hW, (HX.out W (bsq HU4.out hW)).1⟩, HV2.out.1.below (bsq hb24 hW), hv3.rcs.below (bsq hb4 hW), (HX.out W (bsq HU4.out hW)).2⟩
  obtain ⟨⟨hz3, t0, t1, t2, t3, t4, t5⟩, f0, f1, f2, f3, f4, f5⟩ := box6 hY3
  clear hv3 hb3 hY3 hY4 hb4 hb24 a0 a1 a2 a3 a4 a5
  go_upto_region 3 with (fail)
  try rw [hu4]
  clear hu4 hu3' t0 t1 t2 t3 t4 t5 f0 f1 f2 f3 f4 f5
  go_wp2_with fail
  refine (HLI.out _).mono ?_
  rintro e u5 ⟨rfl, hb5⟩
  have HU5 : Hid (Below u4.heap.size u4 u5) := hb5
  clear hb5
  by_cases h0 : ¬ k = 0
  · have e1 : (k != 0) = true := by simpa using h0
    have h1 : ¬ chk ⟨C, pa, pb, ga, gb, sn⟩ = 0 := by rw [HK.out.1]; exact h0
    obtain ⟨_, q1, _, q2⟩ := HK.out
    unfold ptV at q1
    unfold gtV at q2
    rw [if_neg h1] at q1 q2
    unfold zR at q1 q2
    injection q1 with b0 b1 b2 b3 b4 b5
    injection q2 with d0 d1 d2 d3 d4 d5
    subst b0 b1 b2 b3 b4 b5 d0 d1 d2 d3 d4 d5
    have HSM : Hid (∀ W, Below u4.heap.size u4 W → Calls Try.prog 8 #[rgV (.slice va vn vc) 0 0 0 0 0, rgV (.slice none 0 0) 0 0 0 0 0] W fun e w' => e = .returned (.bool true) ∧ Below W.heap.size W w') := fun W hW => by
      have := same_any ⟨[], 0, 0, 0, 0, 0⟩ ⟨[], 0, 0, 0, 0, 0⟩ (.slice va vn vc) (.slice none 0 0) W (HV4.out W hW).2.1 (Rcs.nil _)
      rw [samB_same] at this
      exact this
    have HSN : Hid (∀ W, Below u4.heap.size u4 W → Calls Try.prog 8 #[rgV (.slice wa wn wc) 0 0 0 0 0, rgV (.slice none 0 0) 0 0 0 0 0] W fun e w' => e = .returned (.bool true) ∧ Below W.heap.size W w') := fun W hW => by
      have := same_any ⟨[], 0, 0, 0, 0, 0⟩ ⟨[], 0, 0, 0, 0, 0⟩ (.slice wa wn wc) (.slice none 0 0) W (HV4.out W hW).2.2.1 (Rcs.nil _)
      rw [samB_same] at this
      exact this
    clear h0 h1
    go_wp2_with fail
    refine (HLI.out _).mono ?_
    rintro e u6 ⟨rfl, hb6⟩
    have HU6 : Hid (Below u4.heap.size u4 u6) := bsq HU5.out hb6
    obtain ⟨⟨hz6, b0, b1, b2, b3, b4, b5⟩, _⟩ := box6 (HV4.out u6 HU6.out).1.1
    clear hb6
    go_wp2_with fail
    refine (HSM.out _ HU6.out).mono ?_
    rintro e u7 ⟨rfl, hb7⟩
    have HU7 : Hid (Below u4.heap.size u4 u7) := bsq HU6.out hb7
    obtain ⟨⟨hz7, d0, d1, d2, d3, d4, d5⟩, _⟩ := box6 (HV4.out u7 HU7.out).1.2.1
    clear hb7 b0 b1 b2 b3 b4 b5
    go_wp2_with fail
    refine (HSN.out _ HU7.out).mono ?_
    rintro e u8 ⟨rfl, hb8⟩
    have HU8 : Hid (Below u4.heap.size u4 u8) := bsq HU7.out hb8
    clear hb8
    go_wp2
    go_ret
    exact ⟨rfl, HW.out _ (bsq HU4.out HU8.out)⟩
  have h0 : k = 0 := Classical.not_not.1 h0
  subst h0
  have hrt := chk_ok.1 HK.out.1
  obtain ⟨q0, q1, q2, q3⟩ := HK.out
  unfold ptV at q1
  unfold ptC at q2
  unfold gtV at q3
  rw [if_pos q0] at q1 q2 q3
  have HUR : Hid (chk ⟨UC, upa, upb, uga, ugb, usn⟩ = 0) := by rw [← q3]; exact chk_ok.2 (get_rt hrt)
  have hUs : UC = C ∧ upa = pa ∧ upb = pb := by
    have e1 : UC = (getV ⟨C, pa, pb, ga, gb, sn⟩).C := (congrArg Rg.C q3).symm
    have e2 : upa = (getV ⟨C, pa, pb, ga, gb, sn⟩).pa := (congrArg Rg.pa q3).symm
    have e3 : upb = (getV ⟨C, pa, pb, ga, gb, sn⟩).pb := (congrArg Rg.pb q3).symm
    rw [e1, e2, e3]
    unfold getV
    split
    · exact ⟨rfl, rfl, rfl⟩
    · exact ⟨rfl, rfl, rfl⟩
  obtain ⟨rfl, rfl, rfl⟩ := hUs
  have HRU : Hid (∀ W, Below u4.heap.size u4 W → Calls Try.prog 9 #[rgV (.slice wa wn wc) upa upb uga ugb usn] W fun e w' => e = .returned (.int .i64 0) ∧ Below W.heap.size W w') := fun W hW => by
    have := refRing_any (.slice wa wn wc) ⟨UC, upa, upb, uga, ugb, usn⟩ W (HV4.out W hW).2.2.1
    rw [HUR.out] at this
    exact this
  have HEQ : Hid (∀ W, Below u4.heap.size u4 W → Calls Try.prog 10 #[.slice wa wn wc, .slice ad n c] W fun e w' => e = .returned (.bool true) ∧ Below W.heap.size W w') := fun W hW => by
    have := equalC_any (.slice wa wn wc) (.slice ad n c) UC UC W (HV4.out W hW).2.2.1 (HV4.out W hW).2.2.2
    rw [decide_eq_true rfl] at this
    exact this
  have hmk : ∀ u, (binOp .eql 24 (mkV upa upb) (mkV upa upb)).run Try.prog u = .ok (.bool true) u := fun u => by rw [eql_mk]; simp
  have e00 : ((0 : Int) == 0) = true := rfl
  cases hpb : putB ⟨UC, upa, upb, ga, gb, sn⟩
  · rw [hpb, if_neg (by decide)] at q2
    subst q2
    have e11 : ((11 : Int) == 0) = false := rfl
    have e12 : ((11 : Int) == 11) = true := rfl
    obtain ⟨⟨hz6, d0, d1, d2, d3, d4, d5⟩, _⟩ := box6 (HV4.out u5 HU5.out).1.2.1
    clear hpb hrt q0 q1 q3
    go_wp2_with fail
    refine (HRU.out _ HU5.out).mono ?_
    rintro e u6 ⟨rfl, hb6⟩
    have HU6 : Hid (Below u4.heap.size u4 u6) := bsq HU5.out hb6
    obtain ⟨⟨hz7, b0, b1, b2, b3, b4, b5⟩, _⟩ := box6 (HV4.out u6 HU6.out).1.2.1
    obtain ⟨⟨hz8, a0, a1, a2, a3, a4, a5⟩, _⟩ := box6 (HV4.out u6 HU6.out).1.2.2
    clear hb6 d0 d1 d2 d3 d4 d5
    go_wp2_with fail
    refine (HEQ.out _ HU6.out).mono ?_
    rintro e u7 ⟨rfl, hb7⟩
    have HU7 : Hid (Below u4.heap.size u4 u7) := bsq HU6.out hb7
    clear hb7
    go_wp2
    go_ret
    exact ⟨rfl, HW.out _ (bsq HU4.out HU7.out)⟩
  rw [hpb, if_pos rfl] at q2
  rw [hpb, if_pos rfl] at q1
  subst q2
  have HVR : Hid (chk ⟨VC, vpa, vpb, vga, vgb, vsn⟩ = 0) := by rw [← q1]; exact chk_ok.2 (put_rt hrt x)
  have hVs : vga = ga ∧ vgb = gb ∧ vsn = sn ∧ vn = n := by
    refine ⟨(congrArg Rg.ga q1).symm, (congrArg Rg.gb q1).symm, (congrArg Rg.sn q1).symm, ?_⟩
    have e1 : VC = putL ⟨UC, upa, upb, ga, gb, sn⟩ x := (congrArg Rg.C q1).symm
    rw [← HVN.out, e1, putL_len]
    exact HN.out
  obtain ⟨rfl, rfl, rfl, rfl⟩ := hVs
  have HRV : Hid (∀ W, Below u4.heap.size u4 W → Calls Try.prog 9 #[rgV (.slice va vn vc) vpa vpb vga vgb vsn] W fun e w' => e = .returned (.int .i64 0) ∧ Below W.heap.size W w') := fun W hW => by
    have := refRing_any (.slice va vn vc) ⟨VC, vpa, vpb, vga, vgb, vsn⟩ W (HV4.out W hW).2.1
    rw [HVR.out] at this
    exact this
  have hmk2 : ∀ u, (binOp .neq 24 (mkV vga vgb) (mkV vga vgb)).run Try.prog u = .ok (.bool false) u := fun u => by rw [neq_mk]; simp
  have ess : (vsn != vsn) = false := by simp
  have enn : ((vn : Int) != (vn : Int)) = false := by simp
  obtain ⟨⟨hz6, d0, d1, d2, d3, d4, d5⟩, _⟩ := box6 (HV4.out u5 HU5.out).1.1
  clear hpb hrt q0 q1 q3
  go_wp2_with fail
  refine (HRV.out _ HU5.out).mono ?_
  rintro e u6 ⟨rfl, hb6⟩
  have HU6 : Hid (Below u4.heap.size u4 u6) := bsq HU5.out hb6
  obtain ⟨⟨hz7, b0, b1, b2, b3, b4, b5⟩, _⟩ := box6 (HV4.out u6 HU6.out).1.1
  obtain ⟨⟨hz8, a0, a1, a2, a3, a4, a5⟩, _⟩ := box6 (HV4.out u6 HU6.out).1.2.2
  obtain ⟨⟨hz9, i0, i1, i2, i3, i4, i5⟩, _⟩ := box6 (HV4.out u6 HU6.out).1.2.1
  clear hb6 d0 d1 d2 d3 d4 d5
  go_wp2_with fail
  refine (HRU.out _ HU6.out).mono ?_
  rintro e u7 ⟨rfl, hb7⟩
  have HU7 : Hid (Below u4.heap.size u4 u7) := bsq HU6.out hb7
  obtain ⟨⟨hzA, d0, d1, d2, d3, d4, d5⟩, _⟩ := box6 (HV4.out u7 HU7.out).1.2.1
  obtain ⟨⟨hzB, j0, j1, j2, j3, j4, j5⟩, _⟩ := box6 (HV4.out u7 HU7.out).1.2.2
  clear hb7 b0 b1 b2 b3 b4 b5 a0 a1 a2 a3 a4 a5 i0 i1 i2 i3 i4 i5
  go_wp2_with fail
  refine (HEQ.out _ HU7.out).mono ?_
  rintro e u8 ⟨rfl, hb8⟩
  have HU8 : Hid (Below u4.heap.size u4 u8) := bsq HU7.out hb8
  clear hb8
  go_wp2
  go_ret
  exact ⟨rfl, HW.out _ (bsq HU4.out HU8.out)⟩
end Go.Proofs.Ytmapnkjmgpkhfab.ringStays
