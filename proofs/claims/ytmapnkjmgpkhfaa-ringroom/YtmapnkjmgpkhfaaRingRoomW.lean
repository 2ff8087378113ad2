/- RingRoom: a word is refused just if as many words as there are places, less one, were put since what the putting side knows to be got. -/
import Derived.Test.YtmapnkjmgpkhfaaRngV
namespace Go.Proofs.Ytmapnkjmgpkhfaa.ringRoom
open Go Go.RowKit Go.Proofs.Ytmapnkjmgpkhfaa.ring
set_option linter.unusedVariables false
set_option linter.unusedSimpArgs false
set_option maxRecDepth 100000

theorem putS_room {p : Nat} {s : Sx} (h : rm p s = true) (x : Int) : (putS p s x).all.length = s.all.length + 1 ∧ (putS p s x).got = s.got ∧ (putS p s x).seen = s.seen := by
  unfold rm at h
  unfold putS
  rw [if_pos (by simpa using h)]
  simp
theorem getS_has {s : Sx} (h : hasW s = true) : (getS s).all = s.all ∧ (getS s).got = s.got + 1 ∧ (getS s).seen = s.seen := by
  unfold hasW at h
  unfold getS
  rw [if_pos (by simpa using h)]
  simp
set_option maxHeartbeats 16000000 in
theorem walk (cc : Int) (v : Value) (T : List Tn) (wc : (Lit.int .i64 cc).wf = true) (w : World) (hv : Rtn w v T) :
    Calls Try.prog 7 #[.int .i64 cc, v] w fun e w' => e = .returned (.bool true) ∧ Below w.heap.size w w' := by
  clear wc
  obtain ⟨a, c, rfl, hlc, hcm⟩ := hv.form
  obtain ⟨n, hn⟩ : ∃ n, T.length = n := ⟨_, rfl⟩
  have HN : Hid (T.length = n) := hn
  rw [hn] at hv hlc ⊢
  have HTT : Hid (∀ u, Below w.heap.size w u → Rtn u (.slice a n c) T) := fun u hu => hv.below hu
  have HLI : Hid (∀ u, Calls Try.prog 21 #[] u fun e w' => e = .returned (.bool true) ∧ Below u.heap.size u w') := lives_any
  obtain ⟨V, hV⟩ : ∃ V, nwR cc = V := ⟨_, rfl⟩
  obtain ⟨k, hk⟩ : ∃ k, nwC cc = k := ⟨_, rfl⟩
  have HV : Hid (nwR cc = V ∧ nwC cc = k) := ⟨hV, hk⟩
  have HNW : Hid (Calls Try.prog 19 #[.int .i64 cc] w fun e w' => ∃ v', e = .returned (.tuple #[rgW v' V, .int .i64 k]) ∧ Tel w v' V w') := by
    have := New_any cc w
    rw [hV, hk] at this
    exact this
  obtain ⟨VC, vpa, vpb, vga, vgb, vsn⟩ := V
  unfold maxLen at hcm
  clear hv hn hV hk
  go_enter Try.func7, Try.ntmps7
  go_wp2_with fail
  refine HNW.out.mono ?_
  rintro e u1 ⟨v1, rfl, hv1, hb1⟩
  obtain ⟨u1', u2, hu1', hu2, hY1, hY2, hb2⟩ := laid6 u1 26 (.slice none 0 0) (.int .i64 0) (.int .i64 0) (.int .i64 0) (.int .i64 0) (.int .i64 0) v1 (.int .i64 vpa) (.int .i64 vpb) (.int .i64 vga) (.int .i64 vgb) (.int .i64 vsn)
  have HU2 : Hid (RB w u1.heap.size v1 ⟨VC, vpa, vpb, vga, vgb, vsn⟩ u2) := ⟨hY2, hv1.below hb2, bsq hb1 hb2, hb1.size⟩
  obtain ⟨va, vn, vc, rfl⟩ : ∃ a n c, v1 = .slice a n c := by obtain ⟨a, c, h, _⟩ := hv1.form; exact ⟨_, _, _, h⟩
  obtain ⟨⟨hz1, t0, t1, t2, t3, t4, t5⟩, f0, f1, f2, f3, f4, f5⟩ := box6 hY1
  clear hv1 hb1 hY1 hY2 hb2
  go_upto_region 2 with (fail)
  try rw [hu2]
  clear hu2 hu1' t0 t1 t2 t3 t4 t5 f0 f1 f2 f3 f4 f5
  go_wp2_with fail
  refine (HLI.out _).mono ?_
  rintro e u3 ⟨rfl, hb3⟩
  have HU3 : Hid (RB w u1.heap.size (.slice va vn vc) ⟨VC, vpa, vpb, vga, vgb, vsn⟩ u3) := HU2.out.below hb3
  clear hb3
  cases hcn : cnB cc
  · have hk1 : k = 1 := by rw [← HV.out.2]; unfold nwC; rw [hcn]; rfl
    subst hk1
    clear hcn
    go_wp2_with fail
    refine (HLI.out _).mono ?_
    rintro e u4 ⟨rfl, hb4⟩
    have HB4 : Hid (Below w.heap.size w u4) := bsq HU3.out.2.2.1 hb4
    clear hb4
    go_wp2
    go_ret
    exact ⟨rfl, HB4.out⟩
  have hk1 : k = 0 := by rw [← HV.out.2]; unfold nwC; rw [hcn]; rfl
  subst hk1
  by_cases hl : 500 < n
  · have e1 : decide ((n : Int) > 500) = true := by rw [decide_eq_true_eq]; omega
    clear hcn hl
    go_wp2_with fail
    refine (HLI.out _).mono ?_
    rintro e u4 ⟨rfl, hb4⟩
    have HB4 : Hid (Below w.heap.size w u4) := bsq HU3.out.2.2.1 hb4
    clear hb4
    go_wp2
    go_ret
    exact ⟨rfl, HB4.out⟩
  have e1 : decide ((n : Int) > 500) = false := by rw [decide_eq_false_iff_not]; omega
  have hn5 : n ≤ 500 := by omega
  have hcc := cn_iff.1 hcn
  obtain ⟨p, hp⟩ : ∃ p : Nat, cc.toNat - 1 = p := ⟨_, rfl⟩
  have hVst : (⟨VC, vpa, vpb, vga, vgb, vsn⟩ : Rg) = stS p sx0 := by rw [← HV.out.1]; unfold nwR; rw [hcn, if_pos rfl, hp]; rfl
  have HP0 : Hid (RB w u1.heap.size (.slice va vn vc) (stS p sx0) u3 ∧ InvS p sx0) := ⟨by rw [← hVst]; exact HU3.out, inv_new (by omega) (by omega)⟩
  have hccp : cc = (p : Int) + 1 := by omega
  have hp2 : 2 ≤ p := by omega
  have hp63 : p ≤ 63 := by omega
  have hm2 : cc - 2 = ((p - 1 : Nat) : Int) := by omega
  have hm1 : cc - 1 = (p : Int) := by omega
  have hc3 : 3 ≤ cc := by omega
  have hc64 : cc ≤ 64 := by omega
  clear hl hcn hVst hp hcc HU2 HU3 hccp
  go_wp2
  go_loopw [7, 8, 9, 37] (fun iv ov kv i wr => ∃ (k : Nat), k ≤ n ∧ i = .int .i64 (k : Int) ∧ Hid (∃ (s : Sx) (vr : Value), iv = .int .i64 (s.all.length : Int) ∧ ov = .int .i64 (s.got : Int) ∧ kv = .int .i64 (s.seen : Int) ∧ RB w u1.heap.size vr (stS p s) wr ∧ InvS p s ∧ s.all.length ≤ k)) (fun _ _ _ i _ => n - (intOf i).toNat)
  case atStart => exact ⟨0, Nat.zero_le _, rfl, sx0, _, rfl, rfl, rfl, HP0.out.1, HP0.out.2, Nat.zero_le _⟩
  case round =>
    obtain ⟨k, hk, rfl, HA⟩ := hrel
    obtain ⟨s, vr, hiv, hov, hkv, hR, hI, hlen⟩ := HA.out
    clear HA
    have hsA := hI.sg
    have hgA := hI.ga
    have hrA := hI.room
    obtain ⟨A, hA⟩ : ∃ A, s.all.length = A := ⟨_, rfl⟩
    obtain ⟨G, hG⟩ : ∃ G, s.got = G := ⟨_, rfl⟩
    obtain ⟨N, hN⟩ : ∃ N, s.seen = N := ⟨_, rfl⟩
    rw [hA] at hiv hgA hrA hlen
    rw [hG] at hov hgA hsA
    rw [hN] at hkv hsA hrA
    have HS : Hid (s.all.length = A ∧ s.got = G ∧ s.seen = N ∧ InvS p s) := ⟨hA, hG, hN, hI⟩
    have HR : Hid (RB w u1.heap.size vr (stS p s) wr) := hR
    subst hiv hov hkv
    clear hA hG hN hI hR
    by_cases hlt : ¬ k < n
    · have e2 : decide ((A : Int) - (G : Int) < (p : Int)) = true := by rw [decide_eq_true_eq]; omega
      have e3 : decide ((G : Int) ≤ (A : Int)) = true := by rw [decide_eq_true_eq]; omega
      go_wp2
      go_ret
      exact ⟨rfl, HR.out.2.2.1⟩
    have hlt : k < n := by omega
    obtain ⟨x, hx⟩ : ∃ x, T[k]? = some x := ⟨_, List.getElem?_eq_getElem (by have := HN.out; omega)⟩
    obtain ⟨ga, off, rfl, hcell⟩ := (HTT.out wr HR.out.2.2.1).at k x hx
    obtain ⟨c0, c1⟩ := hcell wr (Below.refl _ _)
    obtain ⟨xk, xw⟩ := x
    simp only at c0 c1
    obtain ⟨v2, v3, hv2, hv3, hY1, hYf, hbf⟩ := laid2 wr 50 (.int .i64 0) (.int .u64 0) (.int .i64 xk) (.int .u64 xw)
    obtain ⟨⟨hy, y0, y1⟩, g0, g1⟩ := box2 hY1
    obtain ⟨⟨hyf, t0, t1⟩, _⟩ := box2 hYf
    have HR3 : Hid (RB w u1.heap.size vr (stS p s) v3 ∧ v3.heap[wr.heap.size]? = some (.cells #[.int .i64 xk, .int .u64 xw] 50)) := ⟨HR.out.below hbf, hYf⟩
    clear hcell hx hY1 hYf hbf HR
    obtain ⟨b, hb⟩ : ∃ b, rm p s = b := ⟨_, rfl⟩
    have HB : Hid (rm p s = b) := hb
    obtain ⟨q, hq⟩ : ∃ q, stS p s = q := ⟨_, rfl⟩
    obtain ⟨qn, hqn⟩ : ∃ q, (if b = true then stS p (putS p s xw) else zR) = q := ⟨_, rfl⟩
    obtain ⟨z, hz⟩ : ∃ z, (if b = true then (0 : Int) else 11) = z := ⟨_, rfl⟩
    have HQ : Hid (stS p s = q ∧ (if b = true then stS p (putS p s xw) else zR) = qn ∧ (if b = true then (0 : Int) else 11) = z) := ⟨hq, hqn, hz⟩
    have HPT : Hid (Calls Try.prog 9 #[rgW vr q, .int .u64 xw] v3 fun e w' => ∃ v', e = .returned (.tuple #[rgW v' qn, .int .i64 z]) ∧ Tel v3 v' qn w') := by
      have := Put_st vr xw v3 (HR3.out.1.2.1.rcs) HS.out.2.2.2
      rw [hb, hqn, hz, hq] at this
      exact this
    have hX3 := HR3.out.1.1
    rw [hq] at hX3
    have ez : (z == 0) = b := by rw [← hz]; cases b <;> rfl
    have hbd : decide ((A : Int) - (N : Int) < ((p - 1 : Nat) : Int)) = b := by
      rw [← hb]
      unfold rm
      rw [HS.out.1, HS.out.2.2.1]
      by_cases q : A - N < p - 1
      · rw [decide_eq_true q, decide_eq_true (by omega)]
      · rw [decide_eq_false q, decide_eq_false (by omega)]
    have ebb : (b != b) = false := by simp
    obtain ⟨qC, qpa, qpb, qga, qgb, qsn⟩ := q
    obtain ⟨nC, npa, npb, nga, ngb, nsn⟩ := qn
    obtain ⟨⟨hzx, x0, x1, x2, x3, x4, x5⟩, _⟩ := box6 hX3
    obtain ⟨ra, rn, rc, hvr⟩ : ∃ a n c, vr = .slice a n c := by obtain ⟨a, c, h, _⟩ := HR3.out.1.2.1.form; exact ⟨_, _, _, h⟩
    subst hvr
    simp only at x0 x1 x2 x3 x4 x5
    clear hb hq hqn hz hX3
    go_upto_region 8 with (fail)
    try rw [hv3]
    clear hv3 hv2 y0 y1 g0 g1 c0 c1
    go_wp2_with fail
    refine HPT.out.mono ?_
    rintro e v4 ⟨v', rfl, hv4, hb4⟩
    obtain ⟨v5', v5, hv5', hv5, hZ1, hZ2, hb5⟩ := laid6 v4 26 (.slice none 0 0) (.int .i64 0) (.int .i64 0) (.int .i64 0) (.int .i64 0) (.int .i64 0) v' (.int .i64 npa) (.int .i64 npb) (.int .i64 nga) (.int .i64 ngb) (.int .i64 nsn)
    have hb35 := bsq hb4 hb5
    have HR5 : Hid (RB w u1.heap.size (.slice ra rn rc) (stS p s) v5 ∧ v5.heap[wr.heap.size]? = some (.cells #[.int .i64 xk, .int .u64 xw] 50) ∧ v5.heap[v4.heap.size]? = some (rgO v' npa npb nga ngb nsn) ∧ Ces v5 w.heap.size v' nC) := ⟨HR3.out.1.below hb35, keep HR3.out.2 hb35, hZ2, (hv4.below hb5).mono (HR3.out.1.2.2.1.size)⟩
    obtain ⟨wa, wn, wc, rfl⟩ : ∃ a n c, v' = .slice a n c := by obtain ⟨a, c, h, _⟩ := hv4.form; exact ⟨_, _, _, h⟩
    obtain ⟨⟨hz4, i0, i1, i2, i3, i4, i5⟩, f0, f1, f2, f3, f4, f5⟩ := box6 hZ1
    clear hv4 hb4 hZ1 hZ2 hb5 hb35 x0 x1 x2 x3 x4 x5 t0 t1 HPT HR3
    go_upto_region 9 with (fail)
    try rw [hv5]
    clear hv5 hv5' i0 i1 i2 i3 i4 i5 f0 f1 f2 f3 f4 f5
    obtain ⟨⟨hyf, t0, t1⟩, _⟩ := box2 HR5.out.2.1
    go_upto_region 12 with (fail)
    by_cases hk1 : xk = 1
    · subst hk1
      cases b
      · have HE : Hid (∃ (s : Sx) (vr : Value), Value.int .i64 (A : Int) = .int .i64 (s.all.length : Int) ∧ Value.int .i64 (G : Int) = .int .i64 (s.got : Int) ∧ Value.int .i64 (N : Int) = .int .i64 (s.seen : Int) ∧ RB w u1.heap.size vr (stS p s) v5 ∧ InvS p s ∧ s.all.length ≤ k + 1) := ⟨s, _, by rw [HS.out.1], by rw [HS.out.2.1], by rw [HS.out.2.2.1], HR5.out.1, HS.out.2.2.2, by rw [HS.out.1]; omega⟩
        clear HR5 HS
        go_wp2
        go_roundw
        case rel => exact ⟨k + 1, by omega, by go_num, HE.out⟩
        case measure => simp [intOf]; omega
      · have hqn : stS p (putS p s xw) = ⟨nC, npa, npb, nga, ngb, nsn⟩ := HQ.out.2.1
        obtain ⟨v6, hv6, hR6, hk6, _⟩ := HR5.out.1.put (.slice wa wn wc) ⟨nC, npa, npb, nga, ngb, nsn⟩ HR5.out.2.2.2
        simp only at hv6
        obtain ⟨l1, l2, l3⟩ := putS_room HB.out xw
        have HE : Hid (∃ (s : Sx) (vr : Value), Value.int .i64 ((A : Int) + 1) = .int .i64 (s.all.length : Int) ∧ Value.int .i64 (G : Int) = .int .i64 (s.got : Int) ∧ Value.int .i64 (N : Int) = .int .i64 (s.seen : Int) ∧ RB w u1.heap.size vr (stS p s) v6 ∧ InvS p s ∧ s.all.length ≤ k + 1) := ⟨putS p s xw, _, by rw [l1, HS.out.1]; rfl, by rw [l2, HS.out.2.1], by rw [l3, HS.out.2.2.1], by rw [hqn]; exact hR6, putS_inv HS.out.2.2.2 xw, by rw [l1, HS.out.1]; omega⟩
        have hXq := HR5.out.1.1
        rw [HQ.out.1] at hXq
        obtain ⟨⟨hzx, x0, x1, x2, x3, x4, x5⟩, f0, f1, f2, f3, f4, f5⟩ := box6 hXq
        obtain ⟨⟨hza, i0, i1, i2, i3, i4, i5⟩, _⟩ := box6 HR5.out.2.2.1
        simp only at x0 x1 x2 x3 x4 x5
        clear HR5 HS hqn hR6 hk6 hXq l1 l2 l3
        go_wp2
        try rw [hv6]
        go_roundw
        case rel => exact ⟨k + 1, by omega, by go_num, HE.out⟩
        case measure => simp [intOf]; omega
    have e2 : (xk == 1) = false := by simpa using hk1
    by_cases hk2 : xk = 2
    · subst hk2
      obtain ⟨h, hh⟩ : ∃ h, hasW s = h := ⟨_, rfl⟩
      obtain ⟨gq, hgq⟩ : ∃ q, stS p (getS s) = q := ⟨_, rfl⟩
      obtain ⟨gw, hgw⟩ : ∃ q, nxW s = q := ⟨_, rfl⟩
      have HG2 : Hid (hasW s = h ∧ stS p (getS s) = gq) := ⟨hh, hgq⟩
      have HGT : Hid (Calls Try.prog 14 #[rgV (.slice ra rn rc) qpa qpb qga qgb qsn] v5 fun e w' => ∃ v', e = .returned (.tuple #[rgW v' gq, .int .u64 gw, .bool h, .int .i64 0]) ∧ Tel v5 v' gq w') := by
        have := Get_st (.slice ra rn rc) v5 (HR5.out.1.2.1.rcs) HS.out.2.2.2
        rw [hgq, hgw, hh, HQ.out.1] at this
        exact this
      have hXq := HR5.out.1.1
      rw [HQ.out.1] at hXq
      obtain ⟨⟨hzx, x0, x1, x2, x3, x4, x5⟩, _⟩ := box6 hXq
      simp only at x0 x1 x2 x3 x4 x5
      obtain ⟨gC, gpa, gpb, gga, ggb, gsn⟩ := gq
      clear hh hgq hgw hXq hk1
      go_wp2_with fail
      refine HGT.out.mono ?_
      rintro e v6 ⟨v7, rfl, hv7, hb6⟩
      obtain ⟨v8', v8, hv8', hv8, hZ1, hZ2, hb8⟩ := laid6 v6 26 (.slice none 0 0) (.int .i64 0) (.int .i64 0) (.int .i64 0) (.int .i64 0) (.int .i64 0) v7 (.int .i64 gpa) (.int .i64 gpb) (.int .i64 gga) (.int .i64 ggb) (.int .i64 gsn)
      have HR8 : Hid (RB w u1.heap.size (.slice ra rn rc) (stS p s) v8 ∧ v8.heap[v6.heap.size]? = some (rgO v7 gpa gpb gga ggb gsn) ∧ Ces v8 w.heap.size v7 gC) := ⟨HR5.out.1.below (bsq hb6 hb8), hZ2, (hv7.below hb8).mono (HR5.out.1.2.2.1.size)⟩
      obtain ⟨da, dn, dc, rfl⟩ : ∃ a n c, v7 = .slice a n c := by obtain ⟨a, c, h, _⟩ := hv7.form; exact ⟨_, _, _, h⟩
      obtain ⟨⟨hz8, i0, i1, i2, i3, i4, i5⟩, f0, f1, f2, f3, f4, f5⟩ := box6 hZ1
      clear hv7 hb6 hZ1 hZ2 hb8 x0 x1 x2 x3 x4 x5 t0 t1 HGT HR5
      go_upto_region 17 with (fail)
      try rw [hv8]
      clear hv8 hv8' i0 i1 i2 i3 i4 i5 f0 f1 f2 f3 f4 f5
      cases h
      · have HE : Hid (∃ (s : Sx) (vr : Value), Value.int .i64 (A : Int) = .int .i64 (s.all.length : Int) ∧ Value.int .i64 (G : Int) = .int .i64 (s.got : Int) ∧ Value.int .i64 (N : Int) = .int .i64 (s.seen : Int) ∧ RB w u1.heap.size vr (stS p s) v8 ∧ InvS p s ∧ s.all.length ≤ k + 1) := ⟨s, _, by rw [HS.out.1], by rw [HS.out.2.1], by rw [HS.out.2.2.1], HR8.out.1, HS.out.2.2.2, by rw [HS.out.1]; omega⟩
        clear HR8 HS
        go_wp2
        go_roundw
        case rel => exact ⟨k + 1, by omega, by go_num, HE.out⟩
        case measure => simp [intOf]; omega
      · obtain ⟨v9, hv9, hR9, hk9, _⟩ := HR8.out.1.put (.slice da dn dc) ⟨gC, gpa, gpb, gga, ggb, gsn⟩ HR8.out.2.2
        simp only at hv9
        obtain ⟨l1, l2, l3⟩ := getS_has HG2.out.1
        have HE : Hid (∃ (s : Sx) (vr : Value), Value.int .i64 (A : Int) = .int .i64 (s.all.length : Int) ∧ Value.int .i64 ((G : Int) + 1) = .int .i64 (s.got : Int) ∧ Value.int .i64 (N : Int) = .int .i64 (s.seen : Int) ∧ RB w u1.heap.size vr (stS p s) v9 ∧ InvS p s ∧ s.all.length ≤ k + 1) := ⟨getS s, _, by rw [l1, HS.out.1], by rw [l2, HS.out.2.1]; rfl, by rw [l3, HS.out.2.2.1], by rw [HG2.out.2]; exact hR9, getS_inv HS.out.2.2.2, by rw [l1, HS.out.1]; omega⟩
        have hXq := HR8.out.1.1
        rw [HQ.out.1] at hXq
        obtain ⟨⟨hzx, x0, x1, x2, x3, x4, x5⟩, f0, f1, f2, f3, f4, f5⟩ := box6 hXq
        obtain ⟨⟨hza, i0, i1, i2, i3, i4, i5⟩, _⟩ := box6 HR8.out.2.1
        simp only at x0 x1 x2 x3 x4 x5
        have hG5 : G ≤ 500 := by omega
        clear HR8 HS hR9 hk9 hXq l1 l2 l3
        go_wp2
        try rw [hv9]
        go_roundw
        case rel => exact ⟨k + 1, by omega, by go_num, HE.out⟩
        case measure => simp [intOf]; omega
    have e3 : (xk == 2) = false := by simpa using hk2
    by_cases hk3 : xk = 3
    · subst hk3
      obtain ⟨gq, hgq⟩ : ∃ q, stS p ⟨s.all, s.got, s.got⟩ = q := ⟨_, rfl⟩
      have HG2 : Hid (stS p ⟨s.all, s.got, s.got⟩ = gq) := hgq
      have HLN : Hid (Calls Try.prog 15 #[rgV (.slice ra rn rc) qpa qpb qga qgb qsn] v5 fun e w' => ∃ v', e = .returned (.tuple #[rgW v' gq, .int .i64 0]) ∧ Tel v5 v' gq w') := by
        have := Learn_st (.slice ra rn rc) v5 (HR5.out.1.2.1.rcs) HS.out.2.2.2
        rw [hgq, HQ.out.1] at this
        exact this
      have hXq := HR5.out.1.1
      rw [HQ.out.1] at hXq
      obtain ⟨⟨hzx, x0, x1, x2, x3, x4, x5⟩, _⟩ := box6 hXq
      simp only at x0 x1 x2 x3 x4 x5
      obtain ⟨gC, gpa, gpb, gga, ggb, gsn⟩ := gq
      clear hgq hXq hk1 hk2
      go_wp2_with fail
      refine HLN.out.mono ?_
      rintro e v6 ⟨v7, rfl, hv7, hb6⟩
      have hR6 := HR5.out.1.below hb6
      obtain ⟨v9, hv9, hR9, hk9, _⟩ := hR6.put v7 ⟨gC, gpa, gpb, gga, ggb, gsn⟩ (hv7.mono (HR5.out.1.2.2.1.size))
      simp only at hv9
      have HE : Hid (∃ (s : Sx) (vr : Value), Value.int .i64 (A : Int) = .int .i64 (s.all.length : Int) ∧ Value.int .i64 (G : Int) = .int .i64 (s.got : Int) ∧ Value.int .i64 (G : Int) = .int .i64 (s.seen : Int) ∧ RB w u1.heap.size vr (stS p s) v9 ∧ InvS p s ∧ s.all.length ≤ k + 1) := ⟨⟨s.all, s.got, s.got⟩, _, by rw [HS.out.1], by rw [HS.out.2.1], by rw [HS.out.2.1], by rw [HG2.out]; exact hR9, lrnS_inv HS.out.2.2.2, by rw [HS.out.1]; omega⟩
      obtain ⟨da, dn, dc, rfl⟩ : ∃ a n c, v7 = .slice a n c := by obtain ⟨a, c, h, _⟩ := hv7.form; exact ⟨_, _, _, h⟩
      have hXq := hR6.1
      rw [HQ.out.1] at hXq
      obtain ⟨⟨hzx, j0, j1, j2, j3, j4, j5⟩, f0, f1, f2, f3, f4, f5⟩ := box6 hXq
      simp only at j0 j1 j2 j3 j4 j5
      clear hv7 hb6 hR6 hR9 hk9 hXq x0 x1 x2 x3 x4 x5 t0 t1 HLN HR5 HS
      go_wp2
      try rw [hv9]
      go_roundw
      case rel => exact ⟨k + 1, by omega, by go_num, HE.out⟩
      case measure => simp [intOf]; omega
    have e4 : (xk == 3) = false := by simpa using hk3
    have HE : Hid (∃ (s : Sx) (vr : Value), Value.int .i64 (A : Int) = .int .i64 (s.all.length : Int) ∧ Value.int .i64 (G : Int) = .int .i64 (s.got : Int) ∧ Value.int .i64 (N : Int) = .int .i64 (s.seen : Int) ∧ RB w u1.heap.size vr (stS p s) v5 ∧ InvS p s ∧ s.all.length ≤ k + 1) := ⟨s, _, by rw [HS.out.1], by rw [HS.out.2.1], by rw [HS.out.2.2.1], HR5.out.1, HS.out.2.2.2, by rw [HS.out.1]; omega⟩
    clear HR5 HS hk1 hk2 hk3
    go_wp2
    go_roundw
    case rel => exact ⟨k + 1, by omega, by go_num, HE.out⟩
    case measure => simp [intOf]; omega
end Go.Proofs.Ytmapnkjmgpkhfaa.ringRoom
