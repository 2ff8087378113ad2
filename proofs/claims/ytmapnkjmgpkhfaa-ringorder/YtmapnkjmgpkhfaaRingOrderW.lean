/- RingOrder: words are got in the order in which they were put, none twice, none left out, and no word is got that was not put. -/
import Derived.Test.YtmapnkjmgpkhfaaRngW
namespace Go.Proofs.Ytmapnkjmgpkhfaa.ringOrder
open Go Go.RowKit Go.Proofs.Ytmapnkjmgpkhfaa.ring
set_option linter.unusedVariables false
set_option linter.unusedSimpArgs false
set_option maxRecDepth 100000

theorem putS_room {p : Nat} {s : Sx} (h : rm p s = true) (x : Int) : (putS p s x).all.length = s.all.length + 1 ∧ (putS p s x).got = s.got ∧ (putS p s x).seen = s.seen := by
  unfold rm at h
  unfold putS
  rw [if_pos (by simpa using h)]
  simp
theorem getS_has {s : Sx} (h : hasW s = true) : (getS s).all = s.all ∧ (getS s).got = s.got + 1 ∧ (getS s).seen = s.seen := by
  unfold hasW at h
  unfold getS
  rw [if_pos (by simpa using h)]
  simp
theorem putS_all {p : Nat} {s : Sx} (h : rm p s = true) (x : Int) : s.all ++ [x] = (putS p s x).all := by
  unfold rm at h
  unfold putS
  rw [if_pos (by simpa using h)]
theorem nx_word {s : Sx} (h : hasW s = true) : s.all.take s.got ++ [nxW s] = (getS s).all.take (getS s).got := by
  have h1 : s.got < s.all.length := by unfold hasW at h; simpa using h
  unfold nxW getS
  rw [if_pos h1, if_pos h1, List.take_succ_eq_append_getElem h1, List.getD_eq_getElem?_getD, List.getElem?_eq_getElem h1]
  rfl
theorem set6_other (u : World) (X k : Nat) (x0 x1 x2 x3 x4 x5 : Value) (h : k ≠ X) : ((((((u.setCell ⟨X, 0, none⟩ x0).setCell ⟨X, 1, none⟩ x1).setCell ⟨X, 2, none⟩ x2).setCell ⟨X, 3, none⟩ x3).setCell ⟨X, 4, none⟩ x4).setCell ⟨X, 5, none⟩ x5).heap[k]? = u.heap[k]? := by
  rw [heap_setCell_other _ _ _ _ h, heap_setCell_other _ _ _ _ h, heap_setCell_other _ _ _ _ h, heap_setCell_other _ _ _ _ h, heap_setCell_other _ _ _ _ h, heap_setCell_other _ _ _ _ h]
set_option maxHeartbeats 16000000 in
theorem walk (cc : Int) (v : Value) (T : List Tn) (wc : (Lit.int .i64 cc).wf = true) (w : World) (hv : Rtn w v T) :
    Calls Try.prog 6 #[.int .i64 cc, v] w fun e w' => e = .returned (.bool true) ∧ Below w.heap.size w w' := by
  clear wc
  obtain ⟨a, c, rfl, hlc, hcm⟩ := hv.form
  obtain ⟨n, hn⟩ : ∃ n, T.length = n := ⟨_, rfl⟩
  have HN : Hid (T.length = n) := hn
  rw [hn] at hv hlc ⊢
  have HTT : Hid (∀ u, Below w.heap.size w u → Rtn u (.slice a n c) T) := fun u hu => hv.below hu
  have HLI : Hid (∀ u, Calls Try.prog 21 #[] u fun e w' => e = .returned (.bool true) ∧ Below u.heap.size u w') := lives_any
  obtain ⟨V, hV⟩ : ∃ V, nwR cc = V := ⟨_, rfl⟩
  obtain ⟨k, hk⟩ : ∃ k, nwC cc = k := ⟨_, rfl⟩
  have HV : Hid (nwR cc = V ∧ nwC cc = k) := ⟨hV, hk⟩
  have HNW : Hid (Calls Try.prog 19 #[.int .i64 cc] w fun e w' => ∃ v', e = .returned (.tuple #[rgW v' V, .int .i64 k]) ∧ Tel w v' V w') := by
    have := New_any cc w
    rw [hV, hk] at this
    exact this
  obtain ⟨VC, vpa, vpb, vga, vgb, vsn⟩ := V
  unfold maxLen at hcm
  clear hv hn hV hk
  go_enter Try.func6, Try.ntmps6
  go_wp2_with fail
  refine HNW.out.mono ?_
  rintro e u1 ⟨v1, rfl, hv1, hb1⟩
  obtain ⟨u1', u2, hu1', hu2, hY1, hY2, hb2⟩ := laid6 u1 26 (.slice none 0 0) (.int .i64 0) (.int .i64 0) (.int .i64 0) (.int .i64 0) (.int .i64 0) v1 (.int .i64 vpa) (.int .i64 vpb) (.int .i64 vga) (.int .i64 vgb) (.int .i64 vsn)
  have HU2 : Hid (RB w u1.heap.size v1 ⟨VC, vpa, vpb, vga, vgb, vsn⟩ u2) := ⟨hY2, hv1.below hb2, bsq hb1 hb2, hb1.size⟩
  obtain ⟨va, vn, vc, rfl⟩ : ∃ a n c, v1 = .slice a n c := by obtain ⟨a, c, h, _⟩ := hv1.form; exact ⟨_, _, _, h⟩
  obtain ⟨⟨hz1, t0, t1, t2, t3, t4, t5⟩, f0, f1, f2, f3, f4, f5⟩ := box6 hY1
  clear hv1 hb1 hY1 hY2 hb2
  go_upto_region 2 with (fail)
  try rw [hu2]
  clear hu2 hu1' t0 t1 t2 t3 t4 t5 f0 f1 f2 f3 f4 f5
  go_wp2_with fail
  refine (HLI.out _).mono ?_
  rintro e u3 ⟨rfl, hb3⟩
  have HU3 : Hid (RB w u1.heap.size (.slice va vn vc) ⟨VC, vpa, vpb, vga, vgb, vsn⟩ u3) := HU2.out.below hb3
  clear hb3
  cases hcn : cnB cc
  · have hk1 : k = 1 := by rw [← HV.out.2]; unfold nwC; rw [hcn]; rfl
    subst hk1
    clear hcn
    go_wp2_with fail
    refine (HLI.out _).mono ?_
    rintro e u4 ⟨rfl, hb4⟩
    have HB4 : Hid (Below w.heap.size w u4) := bsq HU3.out.2.2.1 hb4
    clear hb4
    go_wp2
    go_ret
    exact ⟨rfl, HB4.out⟩
  have hk1 : k = 0 := by rw [← HV.out.2]; unfold nwC; rw [hcn]; rfl
  subst hk1
  by_cases hl : 500 < n
  · have e1 : decide ((n : Int) > 500) = true := by rw [decide_eq_true_eq]; omega
    clear hcn hl
    go_wp2_with fail
    refine (HLI.out _).mono ?_
    rintro e u4 ⟨rfl, hb4⟩
    have HB4 : Hid (Below w.heap.size w u4) := bsq HU3.out.2.2.1 hb4
    clear hb4
    go_wp2
    go_ret
    exact ⟨rfl, HB4.out⟩
  have e1 : decide ((n : Int) > 500) = false := by rw [decide_eq_false_iff_not]; omega
  have hn5 : n ≤ 500 := by omega
  have hcc := cn_iff.1 hcn
  obtain ⟨p, hp⟩ : ∃ p : Nat, cc.toNat - 1 = p := ⟨_, rfl⟩
  have hVst : (⟨VC, vpa, vpb, vga, vgb, vsn⟩ : Rg) = stS p sx0 := by rw [← HV.out.1]; unfold nwR; rw [hcn, if_pos rfl, hp]; rfl
  have HP0 : Hid (RO w u1.heap.size (.slice va vn vc) (.slice none 0 0) (.slice none 0 0) p sx0 u3) := ⟨by rw [← hVst]; exact HU3.out, ⟨rfl, .inl ⟨rfl, rfl⟩⟩, ⟨rfl, .inl ⟨rfl, rfl⟩⟩, (fun k hk => by cases hk), inv_new (by omega) (by omega)⟩
  clear hl hcn hVst hp hcc HU2 HU3
  go_wp2
  go_loopw [7, 8, 36] (fun iv ov i wr => ∃ (k : Nat), k ≤ n ∧ i = .int .i64 (k : Int) ∧ Hid (∃ (s : Sx) (vr : Value), RO w u1.heap.size vr iv ov p s wr ∧ s.all.length ≤ k)) (fun _ _ i _ => n - (intOf i).toNat)
  case atStart => exact ⟨0, Nat.zero_le _, rfl, sx0, _, HP0.out, Nat.zero_le _⟩
  case round =>
    obtain ⟨k, hk, rfl, HA⟩ := hrel
    obtain ⟨s, vr, hR, hlen⟩ := HA.out
    clear HA
    have hgA := hR.inv.ga
    obtain ⟨A, hA⟩ : ∃ A, s.all.length = A := ⟨_, rfl⟩
    obtain ⟨G, hG⟩ : ∃ G, s.got = G := ⟨_, rfl⟩
    have hol : (s.all.take s.got).length = G := by rw [List.length_take, hG, hA]; omega
    rw [hA] at hgA hlen
    rw [hG] at hgA
    have HS : Hid (s.all.length = A ∧ s.got = G ∧ InvS p s) := ⟨hA, hG, hR.inv⟩
    obtain ⟨ia, ic, hiv, hic, hicm⟩ := hR.iw.form
    obtain ⟨oa, oc, hov, hoc, hocm⟩ := hR.ow.form
    rw [hA] at hiv hic
    rw [hol] at hov hoc
    subst hiv hov
    have HR : Hid (RO w u1.heap.size vr (.slice ia A ic) (.slice oa G oc) p s wr) := hR
    have HXL : Hid (u1.heap.size < wr.heap.size) := (Array.getElem?_eq_some_iff.1 hR.rb.1).1
    unfold maxLen at hicm hocm
    clear hA hG hR hol
    by_cases hlt : ¬ k < n
    · have hmin : (if (G : Int) < (A : Int) then (G : Int) else (A : Int)) = (G : Int) := by split <;> omega
      have hmin4 : (if G < A then (G : Int) else (A : Int)) = (G : Int) := by split <;> omega
      have hmin2 : min A G = G := Nat.min_eq_right hgA
      have hmin3 : min (A : Int) (G : Int) = (G : Int) := by omega
      obtain ⟨hrun, hup⟩ := HR.out.iw.rws.upto G hgA
      have HEQ : Hid (Calls Try.prog 20 #[.slice ia G ic, .slice oa G oc] wr fun e w' => e = .returned (.bool true) ∧ Below wr.heap.size wr w') := by
        have := equalW_any (.slice ia G ic) (.slice oa G oc) (s.all.take G) (s.all.take s.got) wr hup HR.out.ow.rws
        rw [HS.out.2.1, decide_eq_true rfl] at this
        exact this
      clear hup
      go_wp2_with fail
      refine HEQ.out.mono ?_
      rintro e u4 ⟨rfl, hb4⟩
      have HB4 : Hid (Below w.heap.size w u4) := bsq HR.out.rb.2.2.1 hb4
      clear hb4
      go_wp2
      go_ret
      exact ⟨rfl, HB4.out⟩
    have hlt : k < n := by omega
    obtain ⟨x, hx⟩ : ∃ x, T[k]? = some x := ⟨_, List.getElem?_eq_getElem (by have := HN.out; omega)⟩
    obtain ⟨ga, off, rfl, hcell⟩ := (HTT.out wr HR.out.rb.2.2.1).at k x hx
    obtain ⟨c0, c1⟩ := hcell wr (Below.refl _ _)
    obtain ⟨xk, xw⟩ := x
    simp only at c0 c1
    obtain ⟨v2, v3, hv2, hv3, hY1, hYf, hbf⟩ := laid2 wr 50 (.int .i64 0) (.int .u64 0) (.int .i64 xk) (.int .u64 xw)
    obtain ⟨⟨hy, y0, y1⟩, g0, g1⟩ := box2 hY1
    obtain ⟨⟨hyf, t0, t1⟩, _⟩ := box2 hYf
    have HR3 : Hid (RO w u1.heap.size vr (.slice ia A ic) (.slice oa G oc) p s v3 ∧ v3.heap[wr.heap.size]? = some (.cells #[.int .i64 xk, .int .u64 xw] 50)) := ⟨HR.out.below hbf, hYf⟩
    obtain ⟨q, hq⟩ : ∃ q, stS p s = q := ⟨_, rfl⟩
    have HQ : Hid (stS p s = q) := hq
    have hX3 := HR3.out.1.rb.1
    rw [hq] at hX3
    obtain ⟨qC, qpa, qpb, qga, qgb, qsn⟩ := q
    obtain ⟨⟨hzx, x0, x1, x2, x3, x4, x5⟩, fx0, fx1, fx2, fx3, fx4, fx5⟩ := box6 hX3
    obtain ⟨ra, rn, rc, hvr⟩ : ∃ a n c, vr = .slice a n c := by obtain ⟨a, c, h, _⟩ := HR3.out.1.rb.2.1.form; exact ⟨_, _, _, h⟩
    subst hvr
    simp only at x0 x1 x2 x3 x4 x5
    clear hcell hx hY1 hYf hbf HR hq hX3
    go_upto_region 8 with (fail)
    try rw [hv3]
    clear hv3 hv2 y0 y1 g0 g1 c0 c1
    by_cases hk1 : xk = 1
    · subst hk1
      obtain ⟨b, hb⟩ : ∃ b, rm p s = b := ⟨_, rfl⟩
      have HB : Hid (rm p s = b) := hb
      obtain ⟨qn, hqn⟩ : ∃ q, (if b = true then stS p (putS p s xw) else zR) = q := ⟨_, rfl⟩
      obtain ⟨z, hz⟩ : ∃ z, (if b = true then (0 : Int) else 11) = z := ⟨_, rfl⟩
      have HQN : Hid ((if b = true then stS p (putS p s xw) else zR) = qn ∧ (if b = true then (0 : Int) else 11) = z) := ⟨hqn, hz⟩
      have HPT : Hid (Calls Try.prog 9 #[rgV (.slice ra rn rc) qpa qpb qga qgb qsn, .int .u64 xw] v3 fun e w' => ∃ v', e = .returned (.tuple #[rgW v' qn, .int .i64 z]) ∧ Tel v3 v' qn w') := by
        have := Put_st (.slice ra rn rc) xw v3 (HR3.out.1.rb.2.1.rcs) HS.out.2.2
        rw [hb, hqn, hz, HQ.out] at this
        exact this
      have ez : (z == 0) = b := by rw [← hz]; cases b <;> rfl
      obtain ⟨nC, npa, npb, nga, ngb, nsn⟩ := qn
      clear hb hqn
      go_wp2_with fail
      refine HPT.out.mono ?_
      rintro e v4 ⟨v', rfl, hv4, hb4⟩
      obtain ⟨v5', v5, hv5', hv5, hZ1, hZ2, hb5⟩ := laid6 v4 26 (.slice none 0 0) (.int .i64 0) (.int .i64 0) (.int .i64 0) (.int .i64 0) (.int .i64 0) v' (.int .i64 npa) (.int .i64 npb) (.int .i64 nga) (.int .i64 ngb) (.int .i64 nsn)
      have hb35 := bsq hb4 hb5
      have HWV : Hid (wr.heap.size < v4.heap.size) := Nat.lt_of_lt_of_le (Array.getElem?_eq_some_iff.1 HR3.out.2).1 hb4.size
      have HR5 : Hid (RO w u1.heap.size (.slice ra rn rc) (.slice ia A ic) (.slice oa G oc) p s v5 ∧ v5.heap[wr.heap.size]? = some (.cells #[.int .i64 1, .int .u64 xw] 50) ∧ v5.heap[v4.heap.size]? = some (rgO v' npa npb nga ngb nsn) ∧ Ces v5 w.heap.size v' nC) := ⟨HR3.out.1.below hb35, keep HR3.out.2 hb35, hZ2, (hv4.below hb5).mono (HR3.out.1.rb.2.2.1.size)⟩
      obtain ⟨wa, wn, wc, rfl⟩ : ∃ a n c, v' = .slice a n c := by obtain ⟨a, c, h, _⟩ := hv4.form; exact ⟨_, _, _, h⟩
      obtain ⟨⟨hz4, i0, i1, i2, i3, i4, i5⟩, f0, f1, f2, f3, f4, f5⟩ := box6 hZ1
      clear hv4 hb4 hZ1 hZ2 hb5 hb35 x0 x1 x2 x3 x4 x5 fx0 fx1 fx2 fx3 fx4 fx5 t0 t1 HPT HR3
      go_upto_region 11 with (fail)
      try rw [hv5]
      clear hv5 hv5' i0 i1 i2 i3 i4 i5 f0 f1 f2 f3 f4 f5
      cases b
      · have hz11 : z = 11 := hz.symm
        subst hz11
        have HE : Hid (∃ (s : Sx) (vr : Value), RO w u1.heap.size vr (.slice ia A ic) (.slice oa G oc) p s v5 ∧ s.all.length ≤ k + 1) := ⟨s, _, HR5.out.1, by rw [HS.out.1]; omega⟩
        clear HR5 HS hz ez
        go_wp2
        go_roundw
        case rel => exact ⟨k + 1, by omega, by go_num, HE.out⟩
        case measure => simp [intOf]; omega
      · have hqn : stS p (putS p s xw) = ⟨nC, npa, npb, nga, ngb, nsn⟩ := HQN.out.1
        have hz0 : z = 0 := hz.symm
        subst hz0
        clear hz
        go_upto_region 12 with (fail)
        obtain ⟨v6, hv6⟩ : ∃ v6, v5.drew.alloc (.cells #[.int .u64 xw] 27) = v6 := ⟨_, rfl⟩
        have hb56 : Below v5.heap.size v5 v6 := by rw [← hv6]; exact (Below.refl _ _).drew.alloc (Nat.le_refl _) _
        have hc6 : v6.cell? ((⟨v5.heap.size, 0, none⟩ : Addr).add 0) = some (.int .u64 xw) := by rw [← hv6, Addr.add_lit]; exact (cell_of_row _ _ _ _ _ (0, 0) (MapKept.heap_alloc v5.drew _).1).trans rfl
        have hR6 := HR5.out.1.below hb56
        obtain ⟨iv', v7, hrun, hw7, hg7, hB7, hk7⟩ := run_wds v6 w.heap.size (.slice ia A ic) s.all hR6.iw ⟨v5.heap.size, 0, none⟩ 1 xw hc6 (by rw [HS.out.1]; omega) (Nat.le_trans hR6.rb.2.2.1.size (Nat.le_refl _)) 42
        rw [putS_all HB.out xw] at hw7
        obtain ⟨hX7, v8, hv8, hR8⟩ := HR5.out.1.inn (s' := putS p s xw) (by rw [hqn]; exact HR5.out.2.2.2) hb56 hg7 hB7 hw7 hk7 (putS_take HS.out.2.2 xw) (putS_inv HS.out.2.2 xw)
        rw [hqn] at hv8
        rw [HQ.out] at hX7
        simp only at hv8
        obtain ⟨⟨hz7, j0, j1, j2, j3, j4, j5⟩, f0, f1, f2, f3, f4, f5⟩ := box6 hX7
        obtain ⟨iva, ivn, ivc, rfl⟩ : ∃ a n c, iv' = .slice a n c := by obtain ⟨a, c, h, _⟩ := hw7.form; exact ⟨_, _, _, h⟩
        have HE : Hid (∃ (s : Sx) (vr : Value), RO w u1.heap.size vr (.slice iva ivn ivc) (.slice oa G oc) p s v8 ∧ s.all.length ≤ k + 1) := ⟨putS p s xw, _, hR8, by have := putS_len p s xw; rw [HS.out.1] at this; omega⟩
        refine wp_abs (fun a0 => a0.tmps.size = 106 ∧ (∀ h, a0.tmps[5]'h = .pointer (some ⟨u1.heap.size, 0, none⟩)) ∧ (∀ h, a0.tmps[7]'h = .slice ia A ic) ∧ (∀ h, a0.tmps[10]'h = .pointer (some ⟨wr.heap.size, 0, none⟩)) ∧ (∀ h, a0.tmps[11]'h = .pointer (some ⟨v4.heap.size, 0, none⟩))) ⟨rfl, fun _ => rfl, fun _ => rfl, fun _ => rfl, fun _ => rfl⟩ ?_
        rintro a0 ⟨hsz, s5, s7, s10, s11⟩ ha0
        have hS5 : v5.heap[v4.heap.size]? = some (rgO (.slice wa wn wc) npa npb nga ngb nsn) ∧ v5.heap[wr.heap.size]? = some (.cells #[.int .i64 1, .int .u64 xw] 50) := ⟨HR5.out.2.2.1, HR5.out.2.1⟩
        have hS0 : v5.drew.heap[v4.heap.size]? = some (rgO (.slice wa wn wc) npa npb nga ngb nsn) ∧ v5.drew.heap[wr.heap.size]? = some (.cells #[.int .i64 1, .int .u64 xw] 50) := hS5
        have hS6 := And.intro (keep hS5.1 hb56) (keep hS5.2 hb56)
        have hS7 := And.intro (grown_keep hS6.1 hg7 (box_ne hR6.iw hS6.1 (by decide))) (grown_keep hS6.2 hg7 (box_ne hR6.iw hS6.2 (by decide)))
        have hS8 : v8.heap[v4.heap.size]? = some (rgO (.slice wa wn wc) npa npb nga ngb nsn) ∧ v8.heap[wr.heap.size]? = some (.cells #[.int .i64 1, .int .u64 xw] 50) := by
          have h1 := HXL.out
          have h2 := HWV.out
          rw [← hv8]
          exact ⟨(set6_other _ _ _ _ _ _ _ _ _ (by omega)).trans hS7.1, (set6_other _ _ _ _ _ _ _ _ _ (by omega)).trans hS7.2⟩
        refine wp_region_held (S := fun W => W.heap[v4.heap.size]? = some (rgO (.slice wa wn wc) npa npb nga ngb nsn) ∧ W.heap[wr.heap.size]? = some (.cells #[.int .i64 1, .int .u64 xw] 50)) (by kernel_rfl) ?_
        refine h_take (i := 0) (rgV (.slice wa wn wc) npa npb nga ngb nsn) rfl (by kernel_rfl) (by kernel_rfl) (by kernel_rfl) (fun _ _ _ h => h) rfl hS0 (fun W hW => by obtain ⟨⟨zb, x0, x1, x2, x3, x4, x5⟩, _⟩ := box6 (hW.1); simp [execOp, go_sem, Act.put, hsz, s5, s7, s10, s11, x0, x1, x2, x3, x4, x5]) ?_
        refine h_take (i := 1) (.slice ia A ic) rfl (by kernel_rfl) (by kernel_rfl) (by kernel_rfl) (fun _ _ _ h => h) rfl hS0 (fun W hW => by simp [execOp, go_sem, Act.put, hsz, s5, s7, s10, s11]) ?_
        refine h_take (i := 2) (.pointer (some ⟨wr.heap.size, 1, none⟩)) rfl (by kernel_rfl) (by kernel_rfl) (by kernel_rfl) (fun _ _ _ h => h) rfl hS0 (fun W hW => by simp [execOp, go_sem, Act.put, hsz, s5, s7, s10, s11]) ?_
        refine h_take (i := 3) (.int .u64 xw) rfl (by kernel_rfl) (by kernel_rfl) (by kernel_rfl) (fun _ _ _ h => h) rfl hS0 (fun W hW => by obtain ⟨⟨zb, x0, x1⟩, _⟩ := box2 (hW.2); simp [execOp, go_sem, Act.put, hsz, s5, s7, s10, s11, x0, x1]) ?_
        refine h_value (i := 4) (w' := v6) (.slice (some ⟨v5.heap.size, 0, none⟩) 1 1) rfl (by kernel_rfl) rfl (by rw [← hv6]; simp [execOp, go_sem, Act.put, hsz, s5, s7, s10, s11]) hS6 ?_
        refine h_value (i := 5) (w' := v7) (.slice iva ivn ivc) rfl (by kernel_rfl) rfl (run_append_op _ _ _ rfl (.slice ia A ic) (.slice (some ⟨v5.heap.size, 0, none⟩) 1 1) _ (by simp [go_sem, Act.put, hsz, s5, s7, s10, s11]) (by simp [go_sem, Act.put, hsz, s5, s7, s10, s11]) hrun) hS7 ?_
        refine h_skip (i := 6) (w' := v8) rfl (by kernel_rfl) rfl (by rw [← hv8]; simp [execOp, go_sem, Act.put, hsz, s5, s7, s10, s11, hz7, j0, j1, j2, j3, j4, j5, f0, f1, f2, f3, f4, f5]) hS8 ?_
        refine h_take (i := 7) (.slice iva ivn ivc) rfl (by kernel_rfl) (by kernel_rfl) (by kernel_rfl) (fun _ _ _ h => h) rfl hS8 (fun W hW => by simp [execOp, go_sem, Act.put, hsz, s5, s7, s10, s11]) ?_
        refine wpAnyH_done (by kernel_rfl) ?_ _
        clear hv8 j0 j1 j2 j3 j4 j5 f0 f1 f2 f3 f4 f5 hS0 hS5 hS6 hS7 hS8 hrun hw7 hg7 hB7 hk7 hR6 hc6 hb56 hv6 hX7 hR8 HR5 hqn
        subst ha0
        clear hsz s5 s7 s10 s11
        go_simp
        go_wp2
        go_roundw
        case rel => exact ⟨k + 1, by omega, by go_num, HE.out⟩
        case measure => simp [intOf]; omega
    have e2 : (xk == 1) = false := by simpa using hk1
    by_cases hk2 : xk = 2
    · subst hk2
      obtain ⟨h, hh⟩ : ∃ h, hasW s = h := ⟨_, rfl⟩
      obtain ⟨gq, hgq⟩ : ∃ q, stS p (getS s) = q := ⟨_, rfl⟩
      obtain ⟨gw, hgw⟩ : ∃ q, nxW s = q := ⟨_, rfl⟩
      have HG2 : Hid (hasW s = h ∧ stS p (getS s) = gq ∧ nxW s = gw) := ⟨hh, hgq, hgw⟩
      have HGT : Hid (Calls Try.prog 14 #[rgV (.slice ra rn rc) qpa qpb qga qgb qsn] v3 fun e w' => ∃ v', e = .returned (.tuple #[rgW v' gq, .int .u64 gw, .bool h, .int .i64 0]) ∧ Tel v3 v' gq w') := by
        have := Get_st (.slice ra rn rc) v3 (HR3.out.1.rb.2.1.rcs) HS.out.2.2
        rw [hgq, hgw, hh, HQ.out] at this
        exact this
      have hdec : decide ((G : Int) < (A : Int)) = h := by
        rw [← hh]; unfold hasW; rw [HS.out.1, HS.out.2.1]
        by_cases q : G < A
        · rw [decide_eq_true q, decide_eq_true (by omega)]
        · rw [decide_eq_false q, decide_eq_false (by omega)]
      have hdec2 : decide (G < A) = h := by rw [← hh]; unfold hasW; rw [HS.out.1, HS.out.2.1]
      have ehh : (h != h) = false := by simp
      obtain ⟨gC, gpa, gpb, gga, ggb, gsn⟩ := gq
      clear hh hgq hgw hk1
      go_wp2_with fail
      refine HGT.out.mono ?_
      rintro e v4 ⟨v', rfl, hv4, hb4⟩
      obtain ⟨v5', v5, hv5', hv5, hZ1, hZ2, hb5⟩ := laid6 v4 26 (.slice none 0 0) (.int .i64 0) (.int .i64 0) (.int .i64 0) (.int .i64 0) (.int .i64 0) v' (.int .i64 gpa) (.int .i64 gpb) (.int .i64 gga) (.int .i64 ggb) (.int .i64 gsn)
      have hb35 := bsq hb4 hb5
      have HWV : Hid (wr.heap.size < v4.heap.size) := Nat.lt_of_lt_of_le (Array.getElem?_eq_some_iff.1 HR3.out.2).1 hb4.size
      have HR5 : Hid (RO w u1.heap.size (.slice ra rn rc) (.slice ia A ic) (.slice oa G oc) p s v5 ∧ v5.heap[v4.heap.size]? = some (rgO v' gpa gpb gga ggb gsn) ∧ Ces v5 w.heap.size v' gC) := ⟨HR3.out.1.below hb35, hZ2, (hv4.below hb5).mono (HR3.out.1.rb.2.2.1.size)⟩
      obtain ⟨wa, wn, wc, rfl⟩ : ∃ a n c, v' = .slice a n c := by obtain ⟨a, c, h, _⟩ := hv4.form; exact ⟨_, _, _, h⟩
      obtain ⟨⟨hz4, i0, i1, i2, i3, i4, i5⟩, f0, f1, f2, f3, f4, f5⟩ := box6 hZ1
      clear hv4 hb4 hZ1 hZ2 hb5 hb35 x0 x1 x2 x3 x4 x5 fx0 fx1 fx2 fx3 fx4 fx5 t0 t1 HGT HR3
      go_upto_region 17 with (fail)
      try rw [hv5]
      clear hv5 hv5' i0 i1 i2 i3 i4 i5 f0 f1 f2 f3 f4 f5
      go_upto_region 19 with (fail)
      cases h
      · have HE : Hid (∃ (s : Sx) (vr : Value), RO w u1.heap.size vr (.slice ia A ic) (.slice oa G oc) p s v5 ∧ s.all.length ≤ k + 1) := ⟨s, _, HR5.out.1, by rw [HS.out.1]; omega⟩
        clear HR5 HS
        go_wp2
        go_roundw
        case rel => exact ⟨k + 1, by omega, by go_num, HE.out⟩
        case measure => simp [intOf]; omega
      · have hqn : stS p (getS s) = ⟨gC, gpa, gpb, gga, ggb, gsn⟩ := HG2.out.2.1
        go_upto_region 20 with (fail)
        obtain ⟨v6, hv6⟩ : ∃ v6, v5.drew.alloc (.cells #[.int .u64 gw] 27) = v6 := ⟨_, rfl⟩
        have hb56 : Below v5.heap.size v5 v6 := by rw [← hv6]; exact (Below.refl _ _).drew.alloc (Nat.le_refl _) _
        have hc6 : v6.cell? ((⟨v5.heap.size, 0, none⟩ : Addr).add 0) = some (.int .u64 gw) := by rw [← hv6, Addr.add_lit]; exact (cell_of_row _ _ _ _ _ (0, 0) (MapKept.heap_alloc v5.drew _).1).trans rfl
        have hR6 := HR5.out.1.below hb56
        obtain ⟨ov', v7, hrun, hw7, hg7, hB7, hk7⟩ := run_wds v6 w.heap.size (.slice oa G oc) (s.all.take s.got) hR6.ow ⟨v5.heap.size, 0, none⟩ 1 gw hc6 (by have := HS.out.1; rw [List.length_take]; omega) (Nat.le_trans hR6.rb.2.2.1.size (Nat.le_refl _)) 42
        rw [← HG2.out.2.2, nx_word HG2.out.1] at hw7
        obtain ⟨hX7, v8, hv8, hR8⟩ := HR5.out.1.outt (s' := getS s) (by rw [hqn]; exact HR5.out.2.2) hb56 hg7 hB7 hw7 hk7 rfl (getS_inv HS.out.2.2)
        rw [hqn] at hv8
        rw [HQ.out] at hX7
        simp only at hv8
        obtain ⟨⟨hz7, j0, j1, j2, j3, j4, j5⟩, f0, f1, f2, f3, f4, f5⟩ := box6 hX7
        obtain ⟨iva, ivn, ivc, rfl⟩ : ∃ a n c, ov' = .slice a n c := by obtain ⟨a, c, h, _⟩ := hw7.form; exact ⟨_, _, _, h⟩
        have HE : Hid (∃ (s : Sx) (vr : Value), RO w u1.heap.size vr (.slice ia A ic) (.slice iva ivn ivc) p s v8 ∧ s.all.length ≤ k + 1) := ⟨getS s, _, hR8, by show s.all.length ≤ k + 1; rw [HS.out.1]; omega⟩
        refine wp_abs (fun a0 => a0.tmps.size = 106 ∧ (∀ h, a0.tmps[5]'h = .pointer (some ⟨u1.heap.size, 0, none⟩)) ∧ (∀ h, a0.tmps[8]'h = .slice oa G oc) ∧ (∀ h, a0.tmps[13]'h = .pointer (some ⟨v4.heap.size, 0, none⟩)) ∧ (∀ h, a0.tmps[14]'h = .int .u64 gw)) ⟨rfl, fun _ => rfl, fun _ => rfl, fun _ => rfl, fun _ => rfl⟩ ?_
        rintro a0 ⟨hsz, s5, s8, s13, s14⟩ ha0
        have hS5 : v5.heap[v4.heap.size]? = some (rgO (.slice wa wn wc) gpa gpb gga ggb gsn) := HR5.out.2.1
        have hS0 : v5.drew.heap[v4.heap.size]? = some (rgO (.slice wa wn wc) gpa gpb gga ggb gsn) := hS5
        have hS6 := keep hS5 hb56
        have hS7 := grown_keep hS6 hg7 (box_ne hR6.ow hS6 (by decide))
        have hS8 : v8.heap[v4.heap.size]? = some (rgO (.slice wa wn wc) gpa gpb gga ggb gsn) := by
          have h1 := HXL.out
          have h2 := HWV.out
          rw [← hv8]
          exact (set6_other _ _ _ _ _ _ _ _ _ (by omega)).trans hS7
        refine wp_region_held (S := fun W => W.heap[v4.heap.size]? = some (rgO (.slice wa wn wc) gpa gpb gga ggb gsn)) (by kernel_rfl) ?_
        refine h_take (i := 0) (rgV (.slice wa wn wc) gpa gpb gga ggb gsn) rfl (by kernel_rfl) (by kernel_rfl) (by kernel_rfl) (fun _ _ _ h => h) rfl hS0 (fun W hW => by obtain ⟨⟨zb, x0, x1, x2, x3, x4, x5⟩, _⟩ := box6 (hW); simp [execOp, go_sem, Act.put, hsz, s5, s8, s13, s14, x0, x1, x2, x3, x4, x5]) ?_
        refine h_take (i := 1) (.slice oa G oc) rfl (by kernel_rfl) (by kernel_rfl) (by kernel_rfl) (fun _ _ _ h => h) rfl hS0 (fun W hW => by simp [execOp, go_sem, Act.put, hsz, s5, s8, s13, s14]) ?_
        refine h_take (i := 2) (.int .u64 gw) rfl (by kernel_rfl) (by kernel_rfl) (by kernel_rfl) (fun _ _ _ h => h) rfl hS0 (fun W hW => by simp [execOp, go_sem, Act.put, hsz, s5, s8, s13, s14]) ?_
        refine h_value (i := 3) (w' := v6) (.slice (some ⟨v5.heap.size, 0, none⟩) 1 1) rfl (by kernel_rfl) rfl (by rw [← hv6]; simp [execOp, go_sem, Act.put, hsz, s5, s8, s13, s14]) hS6 ?_
        refine h_value (i := 4) (w' := v7) (.slice iva ivn ivc) rfl (by kernel_rfl) rfl (run_append_op _ _ _ rfl (.slice oa G oc) (.slice (some ⟨v5.heap.size, 0, none⟩) 1 1) _ (by simp [go_sem, Act.put, hsz, s5, s8, s13, s14]) (by simp [go_sem, Act.put, hsz, s5, s8, s13, s14]) hrun) hS7 ?_
        refine h_skip (i := 5) (w' := v8) rfl (by kernel_rfl) rfl (by rw [← hv8]; simp [execOp, go_sem, Act.put, hsz, s5, s8, s13, s14, hz7, j0, j1, j2, j3, j4, j5, f0, f1, f2, f3, f4, f5]) hS8 ?_
        refine h_take (i := 6) (.slice iva ivn ivc) rfl (by kernel_rfl) (by kernel_rfl) (by kernel_rfl) (fun _ _ _ h => h) rfl hS8 (fun W hW => by simp [execOp, go_sem, Act.put, hsz, s5, s8, s13, s14]) ?_
        refine wpAnyH_done (by kernel_rfl) ?_ _
        clear hv8 j0 j1 j2 j3 j4 j5 f0 f1 f2 f3 f4 f5 hS0 hS5 hS6 hS7 hS8 hrun hw7 hg7 hB7 hk7 hR6 hc6 hb56 hv6 hX7 hR8 HR5 hqn
        subst ha0
        clear hsz s5 s8 s13 s14
        go_simp
        go_wp2
        go_roundw
        case rel => exact ⟨k + 1, by omega, by go_num, HE.out⟩
        case measure => simp [intOf]; omega
    have e3 : (xk == 2) = false := by simpa using hk2
    by_cases hk3 : xk = 3
    · subst hk3
      obtain ⟨gq, hgq⟩ : ∃ q, stS p ⟨s.all, s.got, s.got⟩ = q := ⟨_, rfl⟩
      have HG2 : Hid (stS p ⟨s.all, s.got, s.got⟩ = gq) := hgq
      have HLN : Hid (Calls Try.prog 15 #[rgV (.slice ra rn rc) qpa qpb qga qgb qsn] v3 fun e w' => ∃ v', e = .returned (.tuple #[rgW v' gq, .int .i64 0]) ∧ Tel v3 v' gq w') := by
        have := Learn_st (.slice ra rn rc) v3 (HR3.out.1.rb.2.1.rcs) HS.out.2.2
        rw [hgq, HQ.out] at this
        exact this
      obtain ⟨gC, gpa, gpb, gga, ggb, gsn⟩ := gq
      clear hgq hk1 hk2
      go_wp2_with fail
      refine HLN.out.mono ?_
      rintro e v6 ⟨v7, rfl, hv7, hb6⟩
      have hR6 := HR3.out.1.below hb6
      obtain ⟨v9, hv9, hR9⟩ := hR6.put (s' := ⟨s.all, s.got, s.got⟩) (v' := v7) (by rw [HG2.out]; exact hv7.mono (HR3.out.1.rb.2.2.1.size)) (lrnS_inv HS.out.2.2) rfl rfl
      rw [HG2.out] at hv9
      simp only at hv9
      have HE : Hid (∃ (s : Sx) (vr : Value), RO w u1.heap.size vr (.slice ia A ic) (.slice oa G oc) p s v9 ∧ s.all.length ≤ k + 1) := ⟨⟨s.all, s.got, s.got⟩, _, hR9, by show s.all.length ≤ k + 1; rw [HS.out.1]; omega⟩
      obtain ⟨da, dn, dc, rfl⟩ : ∃ a n c, v7 = .slice a n c := by obtain ⟨a, c, h, _⟩ := hv7.form; exact ⟨_, _, _, h⟩
      have hXq := hR6.rb.1
      rw [HQ.out] at hXq
      obtain ⟨⟨hzx, j0, j1, j2, j3, j4, j5⟩, f0, f1, f2, f3, f4, f5⟩ := box6 hXq
      simp only at j0 j1 j2 j3 j4 j5
      clear hv7 hb6 hR6 hR9 hXq x0 x1 x2 x3 x4 x5 fx0 fx1 fx2 fx3 fx4 fx5 t0 t1 HLN HR3 HS
      go_wp2
      try rw [hv9]
      go_roundw
      case rel => exact ⟨k + 1, by omega, by go_num, HE.out⟩
      case measure => simp [intOf]; omega
    have e4 : (xk == 3) = false := by simpa using hk3
    have HE : Hid (∃ (s : Sx) (vr : Value), RO w u1.heap.size vr (.slice ia A ic) (.slice oa G oc) p s v3 ∧ s.all.length ≤ k + 1) := ⟨s, _, HR3.out.1, by rw [HS.out.1]; omega⟩
    clear HR3 HS hk1 hk2 hk3
    go_wp2
    go_roundw
    case rel => exact ⟨k + 1, by omega, by go_num, HE.out⟩
    case measure => simp [intOf]; omega
end Go.Proofs.Ytmapnkjmgpkhfaa.ringOrder
