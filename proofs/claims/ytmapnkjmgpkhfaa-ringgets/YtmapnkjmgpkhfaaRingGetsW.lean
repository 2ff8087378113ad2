/- RingGets: whatever is handed in, Get and Learn answer what the document says. -/
import Derived.Test.YtmapnkjmgpkhfaaRngR
import Derived.Test.YtmapnkjmgpkhfaaRngS
import Derived.Test.YtmapnkjmgpkhfaaRngK
namespace Go.Proofs.Ytmapnkjmgpkhfaa.ringGets
open Go Go.RowKit Go.Proofs.Ytmapnkjmgpkhfaa.ring
set_option linter.unusedVariables false
set_option linter.unusedSimpArgs false
set_option maxRecDepth 100000

theorem on_ne {n : Nat} {a b : Int} (hn : 3 ≤ n) (h0 : 0 ≤ a) : ((on n a b).1 == a && (on n a b).2 == b) = false := by
  unfold on
  rw [Bool.and_eq_false_iff]
  left
  rw [beq_eq_false_iff_ne]
  split
  · simp only; omega
  · simp only; omega
set_option maxHeartbeats 8000000 in
theorem walk (v : Value) (r : Rg) (w : World) (hv : Rcs w v r.C) :
    Calls Try.prog 4 #[rgV v r.pa r.pb r.ga r.gb r.sn] w fun e w' => e = .returned (.bool true) ∧ Below w.heap.size w w' := by
  obtain ⟨ad, c, rfl, hlc, hcm⟩ := hv.form
  obtain ⟨n, hn⟩ : ∃ n, r.C.length = n := ⟨_, rfl⟩
  rw [hn] at hv hlc ⊢
  obtain ⟨w1, hw1, hX1, hb1⟩ := named w (rgOf (.slice ad n c) r)
  obtain ⟨⟨hz, x0, x1, x2, x3, x4, x5⟩, _⟩ := box6 hX1
  have HW : Hid (∀ u, Below w1.heap.size w1 u → Below w.heap.size w u) := fun u hu => bsq hb1 hu
  have HX : Hid (∀ u, Below w1.heap.size w1 u → u.heap[w.heap.size]? = some (rgOf (.slice ad n c) r)) := fun u hu => keep hX1 hu
  have HV : Hid (∀ u, Below w1.heap.size w1 u → Rcs u (.slice ad n c) r.C) := fun u hu => hv.below (bsq hb1 hu)
  have HN : Hid (r.C.length = n) := hn
  obtain ⟨k, hk⟩ : ∃ k, chk r = k := ⟨_, rfl⟩
  have HK : Hid (chk r = k) := hk
  obtain ⟨V, hV⟩ : ∃ V, gtV r = V := ⟨_, rfl⟩
  obtain ⟨gw, hgw⟩ : ∃ z, gtW r = z := ⟨_, rfl⟩
  obtain ⟨gk, hgk⟩ : ∃ z, gtB r = z := ⟨_, rfl⟩
  obtain ⟨U, hU⟩ : ∃ V, lnV r = V := ⟨_, rfl⟩
  have HE : Hid (gtV r = V ∧ gtW r = gw ∧ gtB r = gk ∧ lnV r = U) := ⟨hV, hgw, hgk, hU⟩
  have HRK : Hid (∀ u, Below w1.heap.size w1 u → Calls Try.prog 12 #[rgW (.slice ad n c) r] u fun e w' => e = .returned (.int .i64 k) ∧ Below u.heap.size u w') := fun u hu => by
    have := refRing_any (.slice ad n c) r u (hv.below (bsq hb1 hu))
    rw [hk] at this
    exact this
  have HP : Hid (∀ u, Below w1.heap.size w1 u → Calls Try.prog 14 #[rgW (.slice ad n c) r] u fun e w' => ∃ v', e = .returned (.tuple #[rgW v' V, .int .u64 gw, .bool gk, .int .i64 k]) ∧ Tel u v' V w') := fun u hu => by
    have := Get_any (.slice ad n c) r u (hv.below (bsq hb1 hu))
    rw [hV, hgw, hgk, hk] at this
    exact this
  have HQ : Hid (∀ u, Below w1.heap.size w1 u → Calls Try.prog 15 #[rgW (.slice ad n c) r] u fun e w' => ∃ v', e = .returned (.tuple #[rgW v' U, .int .i64 k]) ∧ Tel u v' U w') := fun u hu => by
    have := Learn_any (.slice ad n c) r u (hv.below (bsq hb1 hu))
    rw [hU, hk] at this
    exact this
  obtain ⟨C, pa, pb, ga, gb, sn⟩ := r
  obtain ⟨VC, vpa, vpb, vga, vgb, vsn⟩ := V
  obtain ⟨UC, upa, upb, uga, ugb, usn⟩ := U
  simp only at x0 x1 x2 x3 x4 x5
  unfold maxLen at hcm
  clear hv hn hX1 hb1 hk hV hgw hgk hU
  go_enter Try.func4, Try.ntmps4
  go_wp2_with fail
  refine (HP.out _ (Below.refl _ _)).mono ?_
  rintro e u1 ⟨v1, rfl, hv1, hb1⟩
  obtain ⟨u1', u2, hu1', hu2, hY1, hY2, hb2⟩ := laid6 u1 26 (.slice none 0 0) (.int .i64 0) (.int .i64 0) (.int .i64 0) (.int .i64 0) (.int .i64 0) v1 (.int .i64 vpa) (.int .i64 vpb) (.int .i64 vga) (.int .i64 vgb) (.int .i64 vsn)
  have HU2 : Hid (Below w1.heap.size w1 u2) := bsq hb1 hb2
  have HV2 : Hid (Rcs u2 v1 VC ∧ u2.heap[u1.heap.size]? = some (rgO v1 vpa vpb vga vgb vsn)) := ⟨hv1.rcs.below hb2, hY2⟩
  obtain ⟨va, vn, vc, rfl⟩ : ∃ a n c, v1 = .slice a n c := by obtain ⟨a, c, h, _⟩ := hv1.form; exact ⟨_, _, _, h⟩
  obtain ⟨⟨hz1, t0, t1, t2, t3, t4, t5⟩, f0, f1, f2, f3, f4, f5⟩ := box6 hY1
  obtain ⟨⟨hz2, a0, a1, a2, a3, a4, a5⟩, _⟩ := box6 (HX.out u2 HU2.out)
  simp only at a0 a1 a2 a3 a4 a5
  clear hv1 hb1 hY1 hY2 hb2 x0 x1 x2 x3 x4 x5 hw1
  go_upto_region 2 with (fail)
  try rw [hu2]
  clear hu2 hu1' t0 t1 t2 t3 t4 t5 f0 f1 f2 f3 f4 f5
  go_wp2_with fail
  refine (HQ.out _ HU2.out).mono ?_
  rintro e u3 ⟨v3, rfl, hv3, hb3⟩
  obtain ⟨u3', u4, hu3', hu4, hY3, hY4, hb4⟩ := laid6 u3 26 (.slice none 0 0) (.int .i64 0) (.int .i64 0) (.int .i64 0) (.int .i64 0) (.int .i64 0) v3 (.int .i64 upa) (.int .i64 upb) (.int .i64 uga) (.int .i64 ugb) (.int .i64 usn)
  have hb24 := bsq hb3 hb4
  have HU4 : Hid (Below w1.heap.size w1 u4) := bsq HU2.out hb24
  obtain ⟨wa, wn, wc, rfl⟩ : ∃ a n c, v3 = .slice a n c := by obtain ⟨a, c, h, _⟩ := hv3.form; exact ⟨_, _, _, h⟩
  have HV4 : Hid (∀ W, Below u4.heap.size u4 W → (W.heap[u1.heap.size]? = some (rgO (.slice va vn vc) vpa vpb vga vgb vsn) ∧ W.heap[u3.heap.size]? = some (rgO (.slice wa wn wc) upa upb uga ugb usn) ∧ W.heap[w.heap.size]? = some (rgO (.slice ad n c) pa pb ga gb sn)) ∧ Rcs W (.slice va vn vc) VC ∧ Rcs W (.slice wa wn wc) UC ∧ Rcs W (.slice ad n c) C) := fun W hW => ⟨⟨keep (keep HV2.out.2 hb24) hW, keep hY4 hW, HX.out W (bsq HU4.out hW)⟩, HV2.out.1.below (bsq hb24 hW), hv3.rcs.below (bsq hb4 hW), HV.out W (bsq HU4.out hW)⟩
  obtain ⟨⟨hz3, t0, t1, t2, t3, t4, t5⟩, f0, f1, f2, f3, f4, f5⟩ := box6 hY3
  clear hv3 hb3 hY3 hY4 hb4 hb24 a0 a1 a2 a3 a4 a5
  go_upto_region 3 with (fail)
  try rw [hu4]
  clear hu4 hu3' t0 t1 t2 t3 t4 t5 f0 f1 f2 f3 f4 f5
  obtain ⟨⟨hz4, a0, a1, a2, a3, a4, a5⟩, _⟩ := box6 (HV4.out u4 (Below.refl _ _)).1.2.2
  go_wp2_with fail
  refine (HRK.out _ HU4.out).mono ?_
  rintro e u5 ⟨rfl, hb5⟩
  have HU5 : Hid (Below u4.heap.size u4 u5) := hb5
  have ekk : (k == k) = true := by simp
  clear hb5 a0 a1 a2 a3 a4 a5
  by_cases h0 : ¬ k = 0
  · have e1 : (k != 0) = true := by simpa using h0
    have hE := HE.out
    unfold gtV gtW gtB lnV at hE
    have h1 : ¬ chk ⟨C, pa, pb, ga, gb, sn⟩ = 0 := by rw [HK.out]; exact h0
    simp only [if_neg h1] at hE
    obtain ⟨hE1, hE2, hE3, hE4⟩ := hE
    unfold zR at hE1 hE4
    injection hE1 with b0 b1 b2 b3 b4 b5
    injection hE4 with d0 d1 d2 d3 d4 d5
    subst b0 b1 b2 b3 b4 b5 d0 d1 d2 d3 d4 d5 hE2 hE3
    have HSM : Hid (∀ W, Below u4.heap.size u4 W → Calls Try.prog 13 #[rgV (.slice va vn vc) 0 0 0 0 0, rgV (.slice none 0 0) 0 0 0 0 0] W fun e w' => e = .returned (.bool true) ∧ Below W.heap.size W w') := fun W hW => by
      have := same_any ⟨[], 0, 0, 0, 0, 0⟩ ⟨[], 0, 0, 0, 0, 0⟩ (.slice va vn vc) (.slice none 0 0) W (HV4.out W hW).2.1 (Rcs.nil _)
      rw [samB_same] at this
      exact this
    have HSN : Hid (∀ W, Below u4.heap.size u4 W → Calls Try.prog 13 #[rgV (.slice wa wn wc) 0 0 0 0 0, rgV (.slice none 0 0) 0 0 0 0 0] W fun e w' => e = .returned (.bool true) ∧ Below W.heap.size W w') := fun W hW => by
      have := same_any ⟨[], 0, 0, 0, 0, 0⟩ ⟨[], 0, 0, 0, 0, 0⟩ (.slice wa wn wc) (.slice none 0 0) W (HV4.out W hW).2.2.1 (Rcs.nil _)
      rw [samB_same] at this
      exact this
    obtain ⟨⟨hz5, a0, a1, a2, a3, a4, a5⟩, _⟩ := box6 (HV4.out u5 HU5.out).1.1
    clear h0 h1
    go_wp2_with fail
    refine (HSM.out _ HU5.out).mono ?_
    rintro e u6 ⟨rfl, hb6⟩
    have HU6 : Hid (Below u4.heap.size u4 u6) := bsq HU5.out hb6
    obtain ⟨⟨hz6, b0, b1, b2, b3, b4, b5⟩, _⟩ := box6 (HV4.out u6 HU6.out).1.2.1
    clear hb6 a0 a1 a2 a3 a4 a5
    go_wp2_with fail
    refine (HSN.out _ HU6.out).mono ?_
    rintro e u7 ⟨rfl, hb7⟩
    have HU7 : Hid (Below u4.heap.size u4 u7) := bsq HU6.out hb7
    clear hb7
    go_wp2
    go_ret
    exact ⟨rfl, HW.out _ (bsq HU4.out HU7.out)⟩
  have h0 : k = 0 := Classical.not_not.1 h0
  subst h0
  have e1 : ((0 : Int) != 0) = false := rfl
  have hr := chk_ok.1 HK.out
  have HRT : Hid (Rt ⟨C, pa, pb, ga, gb, sn⟩) := hr
  have h64 : n ≤ 64 := by have := hr.n64; rw [HN.out] at this; exact this
  have h3 : 3 ≤ n := by have := hr.n3; rw [HN.out] at this; exact this
  obtain ⟨p, hp⟩ : ∃ p : Nat, ga = (p : Int) := ⟨ga.toNat, by have : 0 ≤ ga := hr.ga0; omega⟩
  subst hp
  have hpn : p + 1 < n := by have : ((p : Nat) : Int) < (C.length : Int) - 1 := hr.ga1; rw [show C.length = n from HN.out] at this; omega
  obtain ⟨o1, ho1⟩ : ∃ o, (on n (p : Int) gb).1 = o := ⟨_, rfl⟩
  obtain ⟨o2, ho2⟩ : ∃ o, (on n (p : Int) gb).2 = o := ⟨_, rfl⟩
  have HGO : Hid (∀ u, Calls Try.prog 16 #[mkV (p : Int) gb, .int .i64 ((n : Int) - 1)] u fun e w' => e = .returned (mkV o1 o2) ∧ Below u.heap.size u w') := fun u => by
    have := goneOn_any n (p : Int) gb u h3 h64 (by omega) (by omega) hr.gb
    rw [ho1, ho2] at this
    exact this
  have HNE : Hid ((o1 == (p : Int) && o2 == gb) = false) := by have := on_ne (n := n) (a := (p : Int)) (b := gb) h3 (by omega); rw [ho1, ho2] at this; exact this
  obtain ⟨cw, cb, cl, hC⟩ : ∃ cw cb cl, C[p]? = some (cw, cb, cl) := by
    have hl : C.length = n := HN.out
    exact ⟨_, _, _, List.getElem?_eq_getElem (by omega)⟩
  have hat : atG ⟨C, pa, pb, (p : Int), gb, sn⟩ = (cw, cb, cl) := by
    unfold atG
    rw [Int.toNat_natCast, List.getD_eq_getElem?_getD, hC]
    rfl
  have HGB : Hid (getB ⟨C, pa, pb, (p : Int), gb, sn⟩ = (cb == gb)) := by show _ = _; unfold getB; rw [hat]
  have HE2 : Hid ((if (cb == gb) = true then ⟨C, pa, pb, o1, o2, sn⟩ else ⟨C, pa, pb, (p : Int), gb, sn⟩ : Rg) = ⟨VC, vpa, vpb, vga, vgb, vsn⟩ ∧ (if (cb == gb) = true then cw else 0) = gw ∧ (cb == gb) = gk ∧ (⟨C, pa, pb, (p : Int), gb, (p : Int)⟩ : Rg) = ⟨UC, upa, upb, uga, ugb, usn⟩) := by
    have hE := HE.out
    unfold gtV gtW gtB lnV at hE
    simp only [if_pos HK.out] at hE
    obtain ⟨q1, q2, q3, q4⟩ := hE
    rw [HGB.out] at q3
    refine ⟨?_, ?_, q3, q4⟩
    · rw [← q1]; unfold getV onG; rw [HGB.out]; simp only; rw [show C.length = n from HN.out, ho1, ho2]
    · rw [← q2]; unfold getW; rw [HGB.out, hat]
  obtain ⟨g, off, hadd⟩ : ∃ g off, ad = some ⟨g, off, none⟩ := by
    obtain ⟨g, off, hq, _⟩ := (HV.out u4 HU4.out).at p (cw, cb, cl) hC
    exact ⟨g, off, hq⟩
  subst hadd
  have HCE : Hid (∀ W, Below u4.heap.size u4 W → W.cell? ⟨g, off + p * 3, none⟩ = some (.int .u64 cw) ∧ W.cell? ⟨g, off + p * 3 + 1, none⟩ = some (.int .i64 cb) ∧ W.cell? ⟨g, off + p * 3 + 2, none⟩ = some (.bool cl)) := fun W hW => by
    obtain ⟨g', off', hq, hc⟩ := (HV4.out W hW).2.2.2.at p (cw, cb, cl) hC
    injection hq with hq
    injection hq with q1 q2 _
    subst q1 q2
    exact hc W (Below.refl _ _)
  obtain ⟨c0, c1, c2⟩ := HCE.out u5 HU5.out
  obtain ⟨⟨hz5, a0, a1, a2, a3, a4, a5⟩, _⟩ := box6 (HV4.out u5 HU5.out).1.2.2
  obtain ⟨v1, v2, hv1, hv2, hc1, hc2, hbc⟩ := laid3 u5 38 (.int .u64 0) (.int .i64 0) (.bool false) (.int .u64 cw) (.int .i64 cb) (.bool cl)
  obtain ⟨⟨hzc, y0, y1, y2⟩, g0, g1, g2⟩ := box3 hc1
  have HV2' : Hid (Below u4.heap.size u4 v2 ∧ v2.heap[u5.heap.size]? = some (ceO cw cb cl)) := ⟨bsq HU5.out hbc, hc2⟩
  clear hr hat hC hc1 hc2 hbc ho1 ho2 HE
  go_upto_region 7 with (fail)
  try rw [hv2]
  clear hv1 hv2 y0 y1 y2 g0 g1 g2 a0 a1 a2 a3 a4 a5 c0 c1 c2
  obtain ⟨⟨hz6, a0, a1, a2, a3, a4, a5⟩, _⟩ := box6 (HV4.out v2 HV2'.out.1).1.2.2
  obtain ⟨v3, v4, hv3, hv4, hd3, hd4, hbd⟩ := laid6 v2 26 (.slice none 0 0) (.int .i64 0) (.int .i64 0) (.int .i64 0) (.int .i64 0) (.int .i64 0) (.slice (some ⟨g, off, none⟩) n c) (.int .i64 pa) (.int .i64 pb) (.int .i64 (p : Int)) (.int .i64 gb) (.int .i64 sn)
  obtain ⟨⟨hzd, y0, y1, y2, y3, y4, y5⟩, g0, g1, g2, g3, g4, g5⟩ := box6 hd3
  have HV4' : Hid (Below u4.heap.size u4 v4 ∧ v4.heap[u5.heap.size]? = some (ceO cw cb cl) ∧ v4.heap[v2.heap.size]? = some (rgO (.slice (some ⟨g, off, none⟩) n c) pa pb (p : Int) gb sn) ∧ u5.heap.size < v2.heap.size ∧ u4.heap.size ≤ u5.heap.size) := ⟨bsq HV2'.out.1 hbd, keep HV2'.out.2 hbd, hd4, (Array.getElem?_eq_some_iff.1 HV2'.out.2).1, HU5.out.size⟩
  clear hd3 hd4 hbd HV2'
  go_upto_region 8 with (fail)
  try rw [hv4]
  clear hv3 hv4 y0 y1 y2 y3 y4 y5 g0 g1 g2 g3 g4 g5 a0 a1 a2 a3 a4 a5
  obtain ⟨⟨hz6, a0, a1, a2, a3, a4, a5⟩, _⟩ := box6 (HV4.out v4 HV4'.out.1).1.2.2
  obtain ⟨⟨hz7, y0, y1, y2⟩, g0, g1, g2⟩ := box3 HV4'.out.2.1
  obtain ⟨⟨hz8, d0, d1, d2, d3, d4, d5⟩, gd0, gd1, gd2, gd3, gd4, gd5⟩ := box6 HV4'.out.2.2.1
  cases hcg : (cb == gb)
  · obtain ⟨q1, q2, q3, q4⟩ := HE2.out
    rw [hcg] at q1 q2 q3
    rw [if_neg (by decide)] at q1 q2
    injection q1 with b0 b1 b2 b3 b4 b5
    injection q4 with d0' d1' d2' d3' d4' d5'
    subst b0 b1 b2 b3 b4 b5 d0' d1' d2' d3' d4' d5' q2 q3
    obtain ⟨v6, hv6⟩ : ∃ v6, v4.setCell ⟨u5.heap.size, 0, none⟩ (.int .u64 0) = v6 := ⟨_, rfl⟩
    have HV6 : Hid (Below u4.heap.size u4 v6 ∧ v6.heap[u5.heap.size]? = some (ceO 0 cb cl) ∧ v6.heap[v2.heap.size]? = some (rgO (.slice (some ⟨g, off, none⟩) n c) pa pb (p : Int) gb sn)) := by
      rw [← hv6]
      have hlt := HV4'.out.2.2.2
      refine ⟨HV4'.out.1.setCell (by simp; omega) _, csetX 0 _ HV4'.out.2.1 rfl, ?_⟩
      rw [heap_setCell_other _ _ _ _ (by simp; omega)]; exact HV4'.out.2.2.1
    go_upto_region 11 with (fail)
    try rw [hv6]
    clear hv6 a0 a1 a2 a3 a4 a5 y0 y1 y2 g0 g1 g2 d0 d1 d2 d3 d4 d5 gd0 gd1 gd2 gd3 gd4 gd5
    obtain ⟨⟨hzA, a0, a1, a2, a3, a4, a5⟩, _⟩ := box6 (HV4.out v6 HV6.out.1).1.2.2
    obtain ⟨v7, v8, hv7, hv8, hk7, hk8, hbk⟩ := laid6 v6 26 (.slice none 0 0) (.int .i64 0) (.int .i64 0) (.int .i64 0) (.int .i64 0) (.int .i64 0) (.slice (some ⟨g, off, none⟩) n c) (.int .i64 pa) (.int .i64 pb) (.int .i64 (p : Int)) (.int .i64 gb) (.int .i64 sn)
    obtain ⟨⟨hzB, y0, y1, y2, y3, y4, y5⟩, g0, g1, g2, g3, g4, g5⟩ := box6 hk7
    have HV8 : Hid (Below u4.heap.size u4 v8 ∧ v8.heap[u5.heap.size]? = some (ceO 0 cb cl) ∧ v8.heap[v2.heap.size]? = some (rgO (.slice (some ⟨g, off, none⟩) n c) pa pb (p : Int) gb sn) ∧ v8.heap[v6.heap.size]? = some (rgO (.slice (some ⟨g, off, none⟩) n c) pa pb (p : Int) gb sn) ∧ u5.heap.size < v6.heap.size ∧ v2.heap.size < v6.heap.size ∧ u4.heap.size ≤ v6.heap.size) := ⟨bsq HV6.out.1 hbk, keep HV6.out.2.1 hbk, keep HV6.out.2.2 hbk, hk8, (Array.getElem?_eq_some_iff.1 HV6.out.2.1).1, (Array.getElem?_eq_some_iff.1 HV6.out.2.2).1, HV6.out.1.size⟩
    clear hk7 hk8 hbk
    go_upto_region 12 with (fail)
    try rw [hv8]
    clear hv7 hv8 y0 y1 y2 y3 y4 y5 g0 g1 g2 g3 g4 g5 a0 a1 a2 a3 a4 a5
    obtain ⟨⟨hzC, a0, a1, a2, a3, a4, a5⟩, _⟩ := box6 (HV4.out v8 HV8.out.1).1.2.2
    obtain ⟨⟨hzD, y0, y1, y2, y3, y4, y5⟩, g0, g1, g2, g3, g4, g5⟩ := box6 HV8.out.2.2.2.1
    obtain ⟨v9, hv9⟩ : ∃ v9, v8.setCell ⟨v6.heap.size, 5, none⟩ (.int .i64 (p : Int)) = v9 := ⟨_, rfl⟩
    have HV9 : Hid (Below u4.heap.size u4 v9 ∧ v9.heap[u5.heap.size]? = some (ceO 0 cb cl) ∧ v9.heap[v2.heap.size]? = some (rgO (.slice (some ⟨g, off, none⟩) n c) pa pb (p : Int) gb sn) ∧ v9.heap[v6.heap.size]? = some (rgO (.slice (some ⟨g, off, none⟩) n c) pa pb (p : Int) gb (p : Int))) := by
      rw [← hv9]
      obtain ⟨q1, q2, q3, q4, q5, q6, q7⟩ := HV8.out
      refine ⟨q1.setCell q7 _, ?_, ?_, csetX 5 _ q4 rfl⟩
      · rw [heap_setCell_other _ _ _ _ (by simp; omega)]; exact q2
      · rw [heap_setCell_other _ _ _ _ (by simp; omega)]; exact q3
    clear HV8
    go_upto_region 13 with (fail)
    try rw [hv9]
    clear hv9 y0 y1 y2 y3 y4 y5 g0 g1 g2 g3 g4 g5 a0 a1 a2 a3 a4 a5
    obtain ⟨⟨hzE, a0, a1, a2, a3, a4, a5⟩, _⟩ := box6 (HV4.out v9 HV9.out.1).1.2.2
    obtain ⟨⟨hzF, b0, b1, b2, b3, b4, b5⟩, _⟩ := box6 (HV4.out v9 HV9.out.1).1.1
    obtain ⟨⟨hzG, y0, y1, y2⟩, _⟩ := box3 HV9.out.2.1
    obtain ⟨⟨hzH, d0, d1, d2, d3, d4, d5⟩, _⟩ := box6 HV9.out.2.2.1
    have hneq : ∀ u, (binOp .neq 24 (mkV (p : Int) gb) (mkV (p : Int) gb)).run Try.prog u = .ok (.bool false) u := fun u => by rw [neq_mk]; simp
    have eww : ((0 : Int) == 0) = true := by simp
    have ezz : ((0 : Int) == 0) = true := rfl
    have HSM : Hid (Calls Try.prog 13 #[rgV (.slice va vn vc) pa pb (p : Int) gb sn, rgV (.slice (some ⟨g, off, none⟩) n c) pa pb (p : Int) gb sn] v9 fun e w' => e = .returned (.bool true) ∧ Below v9.heap.size v9 w') := by
      have := same_any ⟨C, pa, pb, (p : Int), gb, sn⟩ ⟨C, pa, pb, (p : Int), gb, sn⟩ (.slice va vn vc) (.slice (some ⟨g, off, none⟩) n c) v9 (HV4.out v9 HV9.out.1).2.1 (HV4.out v9 HV9.out.1).2.2.2
      rw [samB_same] at this
      exact this
    go_wp2_with fail
    refine HSM.out.mono ?_
    rintro e vA ⟨rfl, hbA⟩
    have HBA : Hid (Below u4.heap.size u4 vA) := bsq HV9.out.1 hbA
    have HSN : Hid (Calls Try.prog 13 #[rgV (.slice wa wn wc) pa pb (p : Int) gb (p : Int), rgV (.slice (some ⟨g, off, none⟩) n c) pa pb (p : Int) gb (p : Int)] vA fun e w' => e = .returned (.bool true) ∧ Below vA.heap.size vA w') := by
      have := same_any ⟨C, pa, pb, (p : Int), gb, (p : Int)⟩ ⟨C, pa, pb, (p : Int), gb, (p : Int)⟩ (.slice wa wn wc) (.slice (some ⟨g, off, none⟩) n c) vA (HV4.out vA HBA.out).2.2.1 (HV4.out vA HBA.out).2.2.2
      rw [samB_same] at this
      exact this
    obtain ⟨⟨hzI, i0, i1, i2, i3, i4, i5⟩, _⟩ := box6 (HV4.out vA HBA.out).1.2.1
    obtain ⟨⟨hzJ, j0, j1, j2, j3, j4, j5⟩, _⟩ := box6 (keep HV9.out.2.2.2 hbA)
    clear hbA a0 a1 a2 a3 a4 a5 b0 b1 b2 b3 b4 b5 y0 y1 y2 d0 d1 d2 d3 d4 d5
    go_wp2_with fail
    refine HSN.out.mono ?_
    rintro e vB ⟨rfl, hbB⟩
    have HBB : Hid (Below u4.heap.size u4 vB) := bsq HBA.out hbB
    clear hbB
    go_wp2
    go_ret
    exact ⟨rfl, HW.out _ (bsq HU4.out HBB.out)⟩
  · obtain ⟨q1, q2, q3, q4⟩ := HE2.out
    rw [hcg] at q1 q2 q3
    simp only [if_pos] at q1 q2
    injection q1 with b0 b1 b2 b3 b4 b5
    injection q4 with d0' d1' d2' d3' d4' d5'
    subst b0 b1 b2 b3 b4 b5 d0' d1' d2' d3' d4' d5' q2 q3
    go_wp2_with fail
    refine (HGO.out _).mono ?_
    rintro e v5 ⟨rfl, hb5⟩
    have hbv5 : Below u4.heap.size u4 v5 := bsq HV4'.out.1 hb5
    have hc5 := keep HV4'.out.2.1 hb5
    have hd5 := keep HV4'.out.2.2.1 hb5
    obtain ⟨⟨hz9, i0, i1, i2, i3, i4, i5⟩, gi0, gi1, gi2, gi3, gi4, gi5⟩ := box6 hd5
    obtain ⟨v6, hv6⟩ : ∃ v6, (v5.setCell ⟨v2.heap.size, 3, none⟩ (.int .i64 o1)).setCell ⟨v2.heap.size, 4, none⟩ (.int .i64 o2) = v6 := ⟨_, rfl⟩
    have HV6 : Hid (Below u4.heap.size u4 v6 ∧ v6.heap[u5.heap.size]? = some (ceO cw cb cl) ∧ v6.heap[v2.heap.size]? = some (rgO (.slice (some ⟨g, off, none⟩) n c) pa pb o1 o2 sn)) := by
      rw [← hv6]
      have hlt := HV4'.out.2.2.2
      refine ⟨(hbv5.setCell (by simp; omega) _).setCell (by simp; omega) _, ?_, csetX 4 _ (csetX 3 _ hd5 rfl) rfl⟩
      rw [heap_setCell_other _ _ _ _ (by simp; omega), heap_setCell_other _ _ _ _ (by simp; omega)]; exact hc5
    clear hb5 hbv5 hc5 hd5 a0 a1 a2 a3 a4 a5 y0 y1 y2 g0 g1 g2 d0 d1 d2 d3 d4 d5 gd0 gd1 gd2 gd3 gd4 gd5
    go_upto_region 11 with (fail)
    try rw [hv6]
    clear hv6 i0 i1 i2 i3 i4 i5 gi0 gi1 gi2 gi3 gi4 gi5
    obtain ⟨⟨hzA, a0, a1, a2, a3, a4, a5⟩, _⟩ := box6 (HV4.out v6 HV6.out.1).1.2.2
    obtain ⟨v7, v8, hv7, hv8, hk7, hk8, hbk⟩ := laid6 v6 26 (.slice none 0 0) (.int .i64 0) (.int .i64 0) (.int .i64 0) (.int .i64 0) (.int .i64 0) (.slice (some ⟨g, off, none⟩) n c) (.int .i64 pa) (.int .i64 pb) (.int .i64 (p : Int)) (.int .i64 gb) (.int .i64 sn)
    obtain ⟨⟨hzB, y0, y1, y2, y3, y4, y5⟩, g0, g1, g2, g3, g4, g5⟩ := box6 hk7
    have HV8 : Hid (Below u4.heap.size u4 v8 ∧ v8.heap[u5.heap.size]? = some (ceO cw cb cl) ∧ v8.heap[v2.heap.size]? = some (rgO (.slice (some ⟨g, off, none⟩) n c) pa pb o1 o2 sn) ∧ v8.heap[v6.heap.size]? = some (rgO (.slice (some ⟨g, off, none⟩) n c) pa pb (p : Int) gb sn) ∧ u5.heap.size < v6.heap.size ∧ v2.heap.size < v6.heap.size ∧ u4.heap.size ≤ v6.heap.size) := ⟨bsq HV6.out.1 hbk, keep HV6.out.2.1 hbk, keep HV6.out.2.2 hbk, hk8, (Array.getElem?_eq_some_iff.1 HV6.out.2.1).1, (Array.getElem?_eq_some_iff.1 HV6.out.2.2).1, HV6.out.1.size⟩
    clear hk7 hk8 hbk
    go_upto_region 12 with (fail)
    try rw [hv8]
    clear hv7 hv8 y0 y1 y2 y3 y4 y5 g0 g1 g2 g3 g4 g5 a0 a1 a2 a3 a4 a5
    obtain ⟨⟨hzC, a0, a1, a2, a3, a4, a5⟩, _⟩ := box6 (HV4.out v8 HV8.out.1).1.2.2
    obtain ⟨⟨hzD, y0, y1, y2, y3, y4, y5⟩, g0, g1, g2, g3, g4, g5⟩ := box6 HV8.out.2.2.2.1
    obtain ⟨v9, hv9⟩ : ∃ v9, v8.setCell ⟨v6.heap.size, 5, none⟩ (.int .i64 (p : Int)) = v9 := ⟨_, rfl⟩
    have HV9 : Hid (Below u4.heap.size u4 v9 ∧ v9.heap[u5.heap.size]? = some (ceO cw cb cl) ∧ v9.heap[v2.heap.size]? = some (rgO (.slice (some ⟨g, off, none⟩) n c) pa pb o1 o2 sn) ∧ v9.heap[v6.heap.size]? = some (rgO (.slice (some ⟨g, off, none⟩) n c) pa pb (p : Int) gb (p : Int))) := by
      rw [← hv9]
      obtain ⟨q1, q2, q3, q4, q5, q6, q7⟩ := HV8.out
      refine ⟨q1.setCell q7 _, ?_, ?_, csetX 5 _ q4 rfl⟩
      · rw [heap_setCell_other _ _ _ _ (by simp; omega)]; exact q2
      · rw [heap_setCell_other _ _ _ _ (by simp; omega)]; exact q3
    clear HV8
    go_upto_region 13 with (fail)
    try rw [hv9]
    clear hv9 y0 y1 y2 y3 y4 y5 g0 g1 g2 g3 g4 g5 a0 a1 a2 a3 a4 a5
    obtain ⟨⟨hzE, a0, a1, a2, a3, a4, a5⟩, _⟩ := box6 (HV4.out v9 HV9.out.1).1.2.2
    obtain ⟨⟨hzF, b0, b1, b2, b3, b4, b5⟩, _⟩ := box6 (HV4.out v9 HV9.out.1).1.1
    obtain ⟨⟨hzG, y0, y1, y2⟩, _⟩ := box3 HV9.out.2.1
    obtain ⟨⟨hzH, d0, d1, d2, d3, d4, d5⟩, _⟩ := box6 HV9.out.2.2.1
    have hneq : ∀ u, (binOp .neq 24 (mkV o1 o2) (mkV (p : Int) gb)).run Try.prog u = .ok (.bool true) u := fun u => by rw [neq_mk, HNE.out]; rfl
    have eww : ((cw : Int) == cw) = true := by simp
    have ezz : ((0 : Int) == 0) = true := rfl
    have HSM : Hid (Calls Try.prog 13 #[rgV (.slice va vn vc) pa pb o1 o2 sn, rgV (.slice (some ⟨g, off, none⟩) n c) pa pb o1 o2 sn] v9 fun e w' => e = .returned (.bool true) ∧ Below v9.heap.size v9 w') := by
      have := same_any ⟨C, pa, pb, o1, o2, sn⟩ ⟨C, pa, pb, o1, o2, sn⟩ (.slice va vn vc) (.slice (some ⟨g, off, none⟩) n c) v9 (HV4.out v9 HV9.out.1).2.1 (HV4.out v9 HV9.out.1).2.2.2
      rw [samB_same] at this
      exact this
    go_wp2_with fail
    refine HSM.out.mono ?_
    rintro e vA ⟨rfl, hbA⟩
    have HBA : Hid (Below u4.heap.size u4 vA) := bsq HV9.out.1 hbA
    have HSN : Hid (Calls Try.prog 13 #[rgV (.slice wa wn wc) pa pb (p : Int) gb (p : Int), rgV (.slice (some ⟨g, off, none⟩) n c) pa pb (p : Int) gb (p : Int)] vA fun e w' => e = .returned (.bool true) ∧ Below vA.heap.size vA w') := by
      have := same_any ⟨C, pa, pb, (p : Int), gb, (p : Int)⟩ ⟨C, pa, pb, (p : Int), gb, (p : Int)⟩ (.slice wa wn wc) (.slice (some ⟨g, off, none⟩) n c) vA (HV4.out vA HBA.out).2.2.1 (HV4.out vA HBA.out).2.2.2
      rw [samB_same] at this
      exact this
    obtain ⟨⟨hzI, i0, i1, i2, i3, i4, i5⟩, _⟩ := box6 (HV4.out vA HBA.out).1.2.1
    obtain ⟨⟨hzJ, j0, j1, j2, j3, j4, j5⟩, _⟩ := box6 (keep HV9.out.2.2.2 hbA)
    clear hbA a0 a1 a2 a3 a4 a5 b0 b1 b2 b3 b4 b5 y0 y1 y2 d0 d1 d2 d3 d4 d5
    go_wp2_with fail
    refine HSN.out.mono ?_
    rintro e vB ⟨rfl, hbB⟩
    have HBB : Hid (Below u4.heap.size u4 vB) := bsq HBA.out hbB
    clear hbB
    go_wp2
    go_ret
    exact ⟨rfl, HW.out _ (bsq HU4.out HBB.out)⟩
end Go.Proofs.Ytmapnkjmgpkhfaa.ringGets
