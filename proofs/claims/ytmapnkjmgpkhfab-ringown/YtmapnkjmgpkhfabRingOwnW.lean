/- RingOwn: a ring that is handed in stays as it was, and what is told shares nothing with it. -/
import Derived.Test.YtmapnkjmgpkhfabRngX
import Derived.Test.YtmapnkjmgpkhfabRngL
import Derived.Test.YtmapnkjmgpkhfabRngS
import Derived.SizedLaws
namespace Go.Proofs.Ytmapnkjmgpkhfab.ringOwn
open Go Go.RowKit Go.Proofs.Ytmapnkjmgpkhfab.ring
set_option linter.unusedVariables false
set_option linter.unusedSimpArgs false
set_option maxRecDepth 100000

theorem trip_at {v1 v2 v3 v : Value} {k : Nat} (h : (#[v1, v2, v3] : Array Value)[k]? = some v) : v = v1 ∨ v = v2 ∨ v = v3 := by
  match k, h with
  | 0, h => left; simpa using h.symm
  | 1, h => right; left; simpa using h.symm
  | 2, h => right; right; simpa using h.symm
  | k + 3, h => simp at h
set_option maxHeartbeats 8000000 in
theorem walk (v : Value) (r : Rg) (x : Int) (wx0 : (Lit.int .u64 x).wf = true) (w : World) (hv : Rcs w v r.C) (hk : r.C.length * 24 ≤ reachBytes) :
    Calls Try.prog 4 #[rgV v r.pa r.pb r.ga r.gb r.sn, .int .u64 x] w fun e w' => e = .returned (.bool true) ∧ Below w.heap.size w w' := by
  clear wx0
  unfold reachBytes at hk
  obtain ⟨ad, c, rfl, hlc, hcm⟩ := hv.form
  have HCL0 : ∀ u, Below w.heap.size w u → Calls Try.prog 11 #[.slice ad r.C.length c] u fun e w' => ∃ v', e = .returned v' ∧ Ces w' u.heap.size v' r.C ∧ Below u.heap.size u w' := fun u hu => cloneC_any _ r.C u (hv.below hu) (by omega)
  obtain ⟨n, hn⟩ : ∃ n, r.C.length = n := ⟨_, rfl⟩
  rw [hn] at hv hlc hk HCL0 ⊢
  obtain ⟨w1, hw1, hX1, hb1⟩ := named w (rgOf (.slice ad n c) r)
  have HW : Hid (∀ u, Below w1.heap.size w1 u → Below w.heap.size w u) := fun u hu => bsq hb1 hu
  have HX : Hid (∀ u, Below w1.heap.size w1 u → u.heap[w.heap.size]? = some (rgOf (.slice ad n c) r) ∧ Rcs u (.slice ad n c) r.C) := fun u hu => ⟨keep hX1 hu, hv.below (bsq hb1 hu)⟩
  have HCL : Hid (∀ u, Below w1.heap.size w1 u → Calls Try.prog 11 #[.slice ad n c] u fun e w' => ∃ v', e = .returned v' ∧ Ces w' u.heap.size v' r.C ∧ Below u.heap.size u w') := fun u hu => HCL0 u (bsq hb1 hu)
  have HLI : Hid (∀ u, Calls Try.prog 7 #[] u fun e w' => e = .returned (.bool true) ∧ Below u.heap.size u w') := lives_any
  have HXL : Hid (w.heap.size < w1.heap.size) := (Array.getElem?_eq_some_iff.1 hX1).1
  obtain ⟨k, hk'⟩ : ∃ k, chk r = k := ⟨_, rfl⟩
  obtain ⟨V, hV⟩ : ∃ V, ptV r x = V := ⟨_, rfl⟩
  obtain ⟨z, hz'⟩ : ∃ z, ptC r = z := ⟨_, rfl⟩
  obtain ⟨U, hU⟩ : ∃ V, gtV r = V := ⟨_, rfl⟩
  obtain ⟨gw, hgw⟩ : ∃ z, gtW r = z := ⟨_, rfl⟩
  obtain ⟨gk, hgk⟩ : ∃ z, gtB r = z := ⟨_, rfl⟩
  obtain ⟨L, hL⟩ : ∃ V, lnV r = V := ⟨_, rfl⟩
  have HP : Hid (∀ u, Below w1.heap.size w1 u → Calls Try.prog 5 #[rgW (.slice ad n c) r, .int .u64 x] u fun e w' => ∃ v', e = .returned (.tuple #[rgW v' V, .int .i64 z]) ∧ Tel u v' V w') := fun u hu => by
    have := Put_any (.slice ad n c) r x u (hv.below (bsq hb1 hu))
    rw [hV, hz'] at this
    exact this
  have HG : Hid (∀ u, Below w1.heap.size w1 u → Calls Try.prog 6 #[rgW (.slice ad n c) r] u fun e w' => ∃ v', e = .returned (.tuple #[rgW v' U, .int .u64 gw, .bool gk, .int .i64 k]) ∧ Tel u v' U w') := fun u hu => by
    have := Get_any (.slice ad n c) r u (hv.below (bsq hb1 hu))
    rw [hU, hgw, hgk, hk'] at this
    exact this
  have HLN : Hid (∀ u, Below w1.heap.size w1 u → Calls Try.prog 12 #[rgW (.slice ad n c) r] u fun e w' => ∃ v', e = .returned (.tuple #[rgW v' L, .int .i64 k]) ∧ Tel u v' L w') := fun u hu => by
    have := Learn_any (.slice ad n c) r u (hv.below (bsq hb1 hu))
    rw [hL, hk'] at this
    exact this
  obtain ⟨C, pa, pb, ga, gb, sn⟩ := r
  obtain ⟨VC, vpa, vpb, vga, vgb, vsn⟩ := V
  obtain ⟨UC, upa, upb, uga, ugb, usn⟩ := U
  obtain ⟨LC, lpa, lpb, lga, lgb, lsn⟩ := L
  obtain ⟨w2, w3, hw2, hw3, hO2, hO3, hb3⟩ := laid6 w1 26 (.slice none 0 0) (.int .i64 0) (.int .i64 0) (.int .i64 0) (.int .i64 0) (.int .i64 0) (.slice ad n c) (.int .i64 pa) (.int .i64 pb) (.int .i64 ga) (.int .i64 gb) (.int .i64 sn)
  obtain ⟨⟨hzo, o0, o1, o2, o3, o4, o5⟩, of0, of1, of2, of3, of4, of5⟩ := box6 hO2
  obtain ⟨⟨hz1, x0, x1, x2, x3, x4, x5⟩, _⟩ := box6 hX1
  simp only at x0 x1 x2 x3 x4 x5
  have HO3 : Hid (w3.heap[w1.heap.size]? = some (rgO (.slice ad n c) pa pb ga gb sn) ∧ Below w1.heap.size w1 w3) := ⟨hO3, hb3⟩
  clear hv hn hX1 hb1 hk' hV hz' hU hgw hgk hL hO2 hO3 hb3 HCL0 hk
  go_enter Try.func4, Try.ntmps4
  go_upto_region 2 with (fail)
  try rw [hw3]
  clear hw2 hw3 hw1 x0 x1 x2 x3 x4 x5 o0 o1 o2 o3 o4 o5 of0 of1 of2 of3 of4 of5
  obtain ⟨⟨hz3, x0, x1, x2, x3, x4, x5⟩, _⟩ := box6 (HX.out w3 HO3.out.2).1
  simp only at x0 x1 x2 x3 x4 x5
  go_wp2_with fail
  refine (HCL.out _ HO3.out.2).mono ?_
  rintro e w4 ⟨bv, rfl, hbv, hb4⟩
  have hO4 := keep HO3.out.1 hb4
  obtain ⟨ba, bn, bc, rfl⟩ : ∃ a n c, bv = .slice a n c := by obtain ⟨a, c, h, _⟩ := hbv.form; exact ⟨_, _, _, h⟩
  obtain ⟨wx, hwx⟩ : ∃ wx, w4.setCell ⟨w1.heap.size, 0, none⟩ (.slice ba bn bc) = wx := ⟨_, rfl⟩
  have hOx : wx.heap[w1.heap.size]? = some (rgO (.slice ba bn bc) pa pb ga gb sn) := by rw [← hwx]; exact csetX 0 _ hO4 rfl
  have hbx : Below w1.heap.size w1 wx := by rw [← hwx]; exact (bsq HO3.out.2 hb4).setCell (Nat.le_refl _) _
  have hRx : Rcs wx (.slice ba bn bc) C := by rw [← hwx]; exact Ces.rcs (B := _) (ownsRow_setCell_other hbv (box_ne hbv hO4 (by decide)) _)
  have HO : Hid (∀ u, Below wx.heap.size wx u → u.heap[w1.heap.size]? = some (rgO (.slice ba bn bc) pa pb ga gb sn) ∧ Rcs u (.slice ba bn bc) C ∧ Below w1.heap.size w1 u) := fun u hu => ⟨keep hOx hu, hRx.below hu, bsq hbx hu⟩
  obtain ⟨⟨hz4, o0, o1, o2, o3, o4, o5⟩, of0, _⟩ := box6 hO4
  clear hbv hb4 hO4 hOx hbx hRx x0 x1 x2 x3 x4 x5 HCL HO3
  go_upto_region 3 with (fail)
  try rw [hwx]
  clear hwx o0 o1 o2 o3 o4 o5 of0
  obtain ⟨⟨hz3, x0, x1, x2, x3, x4, x5⟩, _⟩ := box6 (HX.out wx (HO.out wx (Below.refl _ _)).2.2).1
  simp only at x0 x1 x2 x3 x4 x5
  go_wp2_with fail
  refine (HP.out _ (HO.out wx (Below.refl _ _)).2.2).mono ?_
  rintro e u1 ⟨v1, rfl, hv1, hb1⟩
  obtain ⟨u1', u2, hu1', hu2, hY1, hY2, hb2⟩ := laid6 u1 26 (.slice none 0 0) (.int .i64 0) (.int .i64 0) (.int .i64 0) (.int .i64 0) (.int .i64 0) v1 (.int .i64 vpa) (.int .i64 vpb) (.int .i64 vga) (.int .i64 vgb) (.int .i64 vsn)
  have HU2 : Hid (Below wx.heap.size wx u2 ∧ u2.heap[u1.heap.size]? = some (rgO v1 vpa vpb vga vgb vsn) ∧ Rm (fun g => wx.heap.size ≤ g) u2 v1) := ⟨bsq hb1 hb2, hY2, hv1.rm.below hb2⟩
  obtain ⟨ta, tn, tc, rfl⟩ : ∃ a n c, v1 = .slice a n c := by obtain ⟨a, c, h, _⟩ := hv1.form; exact ⟨_, _, _, h⟩
  obtain ⟨⟨hz5, t0, t1, t2, t3, t4, t5⟩, f0, f1, f2, f3, f4, f5⟩ := box6 hY1
  clear hv1 hb1 hY1 hY2 hb2 x0 x1 x2 x3 x4 x5 HP
  go_upto_region 4 with (fail)
  try rw [hu2]
  clear hu2 hu1' t0 t1 t2 t3 t4 t5 f0 f1 f2 f3 f4 f5
  obtain ⟨⟨hz3, x0, x1, x2, x3, x4, x5⟩, _⟩ := box6 (HX.out u2 (HO.out u2 HU2.out.1).2.2).1
  simp only at x0 x1 x2 x3 x4 x5
  go_wp2_with fail
  refine (HG.out _ (HO.out u2 HU2.out.1).2.2).mono ?_
  rintro e u3 ⟨v3, rfl, hv3, hb3⟩
  obtain ⟨u3', u4, hu3', hu4, hY3, hY4, hb4⟩ := laid6 u3 26 (.slice none 0 0) (.int .i64 0) (.int .i64 0) (.int .i64 0) (.int .i64 0) (.int .i64 0) v3 (.int .i64 upa) (.int .i64 upb) (.int .i64 uga) (.int .i64 ugb) (.int .i64 usn)
  have hb24 := bsq hb3 hb4
  have HU4 : Hid (Below wx.heap.size wx u4 ∧ u4.heap[u1.heap.size]? = some (rgO (.slice ta tn tc) vpa vpb vga vgb vsn) ∧ Rm (fun g => wx.heap.size ≤ g) u4 (.slice ta tn tc) ∧ u4.heap[u3.heap.size]? = some (rgO v3 upa upb uga ugb usn) ∧ Rm (fun g => wx.heap.size ≤ g) u4 v3) := ⟨bsq HU2.out.1 hb24, keep HU2.out.2.1 hb24, HU2.out.2.2.below hb24, hY4, (hv3.rm.below hb4).mono fun g hg _ => Nat.le_trans HU2.out.1.size hg⟩
  obtain ⟨da, dn, dc, rfl⟩ : ∃ a n c, v3 = .slice a n c := by obtain ⟨a, c, h, _⟩ := hv3.form; exact ⟨_, _, _, h⟩
  obtain ⟨⟨hz5, t0, t1, t2, t3, t4, t5⟩, f0, f1, f2, f3, f4, f5⟩ := box6 hY3
  clear hv3 hb3 hY3 hY4 hb4 hb24 x0 x1 x2 x3 x4 x5 HG HU2
  go_upto_region 5 with (fail)
  try rw [hu4]
  clear hu4 hu3' t0 t1 t2 t3 t4 t5 f0 f1 f2 f3 f4 f5
  obtain ⟨⟨hz3, x0, x1, x2, x3, x4, x5⟩, _⟩ := box6 (HX.out u4 (HO.out u4 HU4.out.1).2.2).1
  simp only at x0 x1 x2 x3 x4 x5
  go_wp2_with fail
  refine (HLN.out _ (HO.out u4 HU4.out.1).2.2).mono ?_
  rintro e u5 ⟨v5, rfl, hv5, hb5⟩
  obtain ⟨u5', u6, hu5', hu6, hY5, hY6, hb6⟩ := laid6 u5 26 (.slice none 0 0) (.int .i64 0) (.int .i64 0) (.int .i64 0) (.int .i64 0) (.int .i64 0) v5 (.int .i64 lpa) (.int .i64 lpb) (.int .i64 lga) (.int .i64 lgb) (.int .i64 lsn)
  have hb46 := bsq hb5 hb6
  have HU6 : Hid (Below wx.heap.size wx u6 ∧ (u6.heap[u1.heap.size]? = some (rgO (.slice ta tn tc) vpa vpb vga vgb vsn) ∧ Rm (fun g => wx.heap.size ≤ g) u6 (.slice ta tn tc)) ∧ (u6.heap[u3.heap.size]? = some (rgO (.slice da dn dc) upa upb uga ugb usn) ∧ Rm (fun g => wx.heap.size ≤ g) u6 (.slice da dn dc)) ∧ u6.heap[u5.heap.size]? = some (rgO v5 lpa lpb lga lgb lsn) ∧ Rm (fun g => wx.heap.size ≤ g) u6 v5) := ⟨bsq HU4.out.1 hb46, ⟨keep HU4.out.2.1 hb46, HU4.out.2.2.1.below hb46⟩, ⟨keep HU4.out.2.2.2.1 hb46, HU4.out.2.2.2.2.below hb46⟩, hY6, (hv5.rm.below hb6).mono fun g hg _ => Nat.le_trans HU4.out.1.size hg⟩
  obtain ⟨ea, en, ec, rfl⟩ : ∃ a n c, v5 = .slice a n c := by obtain ⟨a, c, h, _⟩ := hv5.form; exact ⟨_, _, _, h⟩
  obtain ⟨⟨hz5, t0, t1, t2, t3, t4, t5⟩, f0, f1, f2, f3, f4, f5⟩ := box6 hY5
  have HSA : Hid (∀ u, Below wx.heap.size wx u → Calls Try.prog 8 #[rgV (.slice ad n c) pa pb ga gb sn, rgV (.slice ba bn bc) pa pb ga gb sn] u fun e w' => e = .returned (.bool true) ∧ Below u.heap.size u w') := fun u hu => by
    obtain ⟨_, o2, o3⟩ := HO.out u hu
    have := same_any ⟨C, pa, pb, ga, gb, sn⟩ ⟨C, pa, pb, ga, gb, sn⟩ (.slice ad n c) (.slice ba bn bc) u (HX.out u o3).2 o2
    rw [samB_same] at this
    exact this
  clear hv5 hb5 hY5 hY6 hb6 hb46 x0 x1 x2 x3 x4 x5 HLN HU4
  go_upto_region 6 with (fail)
  try rw [hu6]
  clear hu6 hu5' t0 t1 t2 t3 t4 t5 f0 f1 f2 f3 f4 f5
  obtain ⟨⟨hz3, x0, x1, x2, x3, x4, x5⟩, _⟩ := box6 (HX.out u6 (HO.out u6 HU6.out.1).2.2).1
  obtain ⟨⟨hz4, o0, o1, o2, o3, o4, o5⟩, _⟩ := box6 (HO.out u6 HU6.out.1).1
  simp only at x0 x1 x2 x3 x4 x5
  go_wp2_with fail
  refine (HSA.out _ HU6.out.1).mono ?_
  rintro e u7 ⟨rfl, hb7⟩
  have HR7 : Hid (Below wx.heap.size wx u7) := bsq HU6.out.1 hb7
  obtain ⟨⟨_, k0, _⟩, _⟩ := box6 (keep HU6.out.2.1.1 hb7)
  obtain ⟨⟨_, l0, _⟩, _⟩ := box6 (keep HU6.out.2.2.1.1 hb7)
  obtain ⟨⟨_, m0, _⟩, _⟩ := box6 (keep HU6.out.2.2.2.1 hb7)
  have hkl : u1.heap.size < u7.heap.size ∧ u3.heap.size < u7.heap.size ∧ u5.heap.size < u7.heap.size := ⟨(Array.getElem?_eq_some_iff.1 (keep HU6.out.2.1.1 hb7)).1, (Array.getElem?_eq_some_iff.1 (keep HU6.out.2.2.1.1 hb7)).1, (Array.getElem?_eq_some_iff.1 (keep HU6.out.2.2.2.1 hb7)).1⟩
  obtain ⟨hk1, hk2, hk3⟩ := hkl
  obtain ⟨u8, hu8, hX8, hb8⟩ := named u7 (.cells #[.slice ta tn tc, .slice da dn dc, .slice ea en ec] 22)
  have HR8 : Hid (Below wx.heap.size wx u8) := bsq HR7.out hb8
  have HX8 : Hid (u8.heap[u7.heap.size]? = some (.cells #[.slice ta tn tc, .slice da dn dc, .slice ea en ec] 22) ∧ wx.heap.size ≤ u7.heap.size) := ⟨hX8, HR7.out.size⟩
  have HM8 : Hid (∀ k v, (#[Value.slice ta tn tc, .slice da dn dc, .slice ea en ec] : Array Value)[k]? = some v → Rm (fun g => wx.heap.size ≤ g ∧ g < u7.heap.size) u8 v) := fun k v hk => by
    rcases trip_at hk with rfl | rfl | rfl
    · exact ((HU6.out.2.1.2.below hb7).mono fun g hg hl => ⟨hg, hl⟩).below hb8
    · exact ((HU6.out.2.2.1.2.below hb7).mono fun g hg hl => ⟨hg, hl⟩).below hb8
    · exact ((HU6.out.2.2.2.2.below hb7).mono fun g hg hl => ⟨hg, hl⟩).below hb8
  clear hb7 hX8 hb8 HU6 HR7 x0 x1 x2 x3 x4 x5 o0 o1 o2 o3 o4 o5
  go_wp2_with fail
  try rw [hu8]
  clear hu8 k0 l0 m0 hk1 hk2 hk3
  go_loopw [52] (fun i wr => ∃ (k : Nat), k ≤ 3 ∧ i = .int .i64 (k : Int) ∧ Hid (Spl (fun g => wx.heap.size ≤ g ∧ g < u7.heap.size) u8 wr)) (fun i _ => 3 - (intOf i).toNat)
  case atStart => exact ⟨0, Nat.zero_le _, rfl, Spl.refl _ _⟩
  case round =>
    obtain ⟨k, hk, rfl, HA⟩ := hrel
    by_cases hlt : ¬ k < 3
    · have HBr : Hid (Below wx.heap.size wx wr) := HR8.out.trans (HA.out.below fun q hq => by omega)
      clear HA
      go_wp2_with fail
      refine (HLI.out _).mono ?_
      rintro e u9 ⟨rfl, hb9⟩
      have HR9 : Hid (Below wx.heap.size wx u9) := HBr.out.trans (hb9.mono HBr.out.size)
      obtain ⟨⟨hz3, x0, x1, x2, x3, x4, x5⟩, _⟩ := box6 (HX.out u9 (HO.out u9 HR9.out).2.2).1
      obtain ⟨⟨hz4, o0, o1, o2, o3, o4, o5⟩, _⟩ := box6 (HO.out u9 HR9.out).1
      simp only at x0 x1 x2 x3 x4 x5
      clear hb9
      go_wp2_with fail
      refine (HSA.out _ HR9.out).mono ?_
      rintro e uA ⟨rfl, hbA⟩
      have HRA : Hid (Below wx.heap.size wx uA) := HR9.out.trans (hbA.mono HR9.out.size)
      clear hbA
      go_wp2
      go_ret
      exact ⟨rfl, HW.out _ (HO.out _ HRA.out).2.2⟩
    have hlt : k < 3 := by omega
    obtain ⟨v, hvk⟩ : ∃ v, (#[Value.slice ta tn tc, .slice da dn dc, .slice ea en ec] : Array Value)[k]? = some v := ⟨_, Array.getElem?_eq_getElem (by simpa using hlt)⟩
    have hX8r : wr.heap[u7.heap.size]? = some (.cells #[.slice ta tn tc, .slice da dn dc, .slice ea en ec] 22) := (HA.out.block _ (by omega)).trans HX8.out.1
    have c0 : wr.cell? ⟨u7.heap.size, k, none⟩ = some v := by rw [cell_of_row _ _ _ _ _ (0, 0) hX8r]; exact hvk
    obtain ⟨oa, on, oc, rfl, ho1, ho2, ho4⟩ := HM8.out k v hvk
    have HRo : Hid (0 < oc → ∃ g, oa = some ⟨g, 0, none⟩ ∧ (wx.heap.size ≤ g ∧ g < u7.heap.size) ∧ ∀ j, j < oc * 3 → (∃ x, u8.cell? ⟨g, j, none⟩ = some x) ∧ u8.frozen? ⟨g, j, none⟩ = false) := ho4
    have hw := whole_run oa on oc
    unfold maxLen at ho2
    clear hvk hX8r ho4
    rename World => wo
    go_wp2
    go_loopw [62] (fun i wr => ∃ (j : Nat), j ≤ oc ∧ i = .int .i64 (j : Int) ∧ Hid (Spl (fun g => wx.heap.size ≤ g ∧ g < u7.heap.size) u8 wr)) (fun i _ => oc - (intOf i).toNat)
    case atStart => exact ⟨0, Nat.zero_le _, rfl, HA.out⟩
    case round =>
      obtain ⟨j, hj, rfl, HA2⟩ := hrel
      by_cases hlj : ¬ j < oc
      · clear hw HRo
        go_wp2
        go_roundw
        case rel => exact ⟨k + 1, by omega, by go_num, HA2.out⟩
        case measure => simp [intOf]; omega
      have hlj : j < oc := by omega
      obtain ⟨gq, rfl, hpg, hc⟩ := HRo.out (by omega)
      obtain ⟨⟨z1, hx1⟩, hf1⟩ := hc (j * 3) (by omega)
      obtain ⟨⟨z2, hx2⟩, hf2⟩ := hc (j * 3 + 1) (by omega)
      obtain ⟨⟨z3, hx3⟩, hf3⟩ := hc (j * 3 + 2) (by omega)
      obtain ⟨y1, hy1⟩ := HA2.out.cell _ z1 hx1
      obtain ⟨y2, hy2⟩ := HA2.out.cell _ z2 hx2
      obtain ⟨y3, hy3⟩ := HA2.out.cell _ z3 hx3
      have hg1 : wr.frozen? ⟨gq, j * 3, none⟩ = false := (HA2.out.frozen _).trans hf1
      have hg2 : wr.frozen? ⟨gq, j * 3 + 1, none⟩ = false := (HA2.out.frozen _).trans hf2
      have hg3 : wr.frozen? ⟨gq, j * 3 + 2, none⟩ = false := (HA2.out.frozen _).trans hf3
      have HE : Hid (Spl (fun g => wx.heap.size ≤ g ∧ g < u7.heap.size) u8 (((wr.setCell ⟨gq, j * 3, none⟩ (.int .u64 77)).setCell ⟨gq, j * 3 + 1, none⟩ (.int .i64 0)).setCell ⟨gq, j * 3 + 2, none⟩ (.bool false))) := ((HA2.out.set hpg _).set hpg _).set hpg _
      clear hw HRo hpg hc hx1 hx2 hx3 hf1 hf2 hf3 HA2
      go_wp2
      go_roundw
      case rel => exact ⟨j + 1, by omega, by go_num, HE.out⟩
      case measure => simp [intOf]; omega
end Go.Proofs.Ytmapnkjmgpkhfab.ringOwn
