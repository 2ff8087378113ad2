/- ring: what Play answers. -/
import Derived.Test.YtmapnkjmgpkhfaaRngP
namespace Go.Proofs.Ytmapnkjmgpkhfaa.ring
open Go Go.RowKit
set_option linter.unusedVariables false
set_option linter.unusedSimpArgs false
set_option maxRecDepth 100000

/-- a word was got, and is written down behind the others -/
theorem Ply.mid {w u v : World} {X g n c R p : Nat} {gv : Value} {s : Sx} (h : Ply w X g n c R p gv s u) (hk : Kq X g u v) : Wds v w.heap.size gv (s.all.take s.got) ∧ w.heap.size ≤ v.heap.size := ⟨own_kq h.wd hk h.neX h.neG, Nat.le_trans h.bl.size hk.size⟩
theorem Ply.got {w u v x y : World} {X g n c R p : Nat} {gv gv' : Value} {s : Sx} (h : Ply w X g n c R p gv s u) (hk : Kq X g u v) (hb : Bx X g n c (stS p (getS s)) v) (h1 : Below v.heap.size v x) (h2 : x.grownBy y gv.ownBlock) (h3 : Below w.heap.size x y) (hw : Wds y w.heap.size gv' ((getS s).all.take (getS s).got)) : Ply w X g n c R p gv' (getS s) y :=
  have hbx := hb.below h1
  have hr := keep (hk.keep h.rb h.rx h.rg) h1
  ⟨⟨grown_keep hbx.1 h2 h.neX, World.ownsRow.kept hbx.2.1 h2 (.inr (fun q => h.neG q.symm)), hbx.2.2⟩, hw, grown_keep hr h2 h.neR, h.rx, h.rg, h.lx, h.lg, ((h.bl.trans (hk.below h.lx h.lg h.bl.size)).trans (h1.mono (Nat.le_trans h.bl.size hk.size))).trans h3, getS_inv h.inv⟩
set_option maxHeartbeats 8000000 in
theorem Play_any (cc : Int) (v : Value) (T : List Tn) (w : World) (hv : Rtn w v T) :
    Calls Try.prog 17 #[.int .i64 cc, v] w fun e w' => ∃ v' gv, e = .returned (.tuple #[rgW v' (plR cc T), gv, .int .i64 (plC cc T)]) ∧ Ces w' w.heap.size v' (plR cc T).C ∧ Wds w' w.heap.size gv (plL cc T) ∧ Below w.heap.size w w' := by
  obtain ⟨a, c, rfl, hlc, hcm⟩ := hv.form
  obtain ⟨n, hn⟩ : ∃ n, T.length = n := ⟨_, rfl⟩
  have HN : Hid (T.length = n) := hn
  obtain ⟨Z, hZ⟩ : ∃ Z : Ending → World → Prop, (fun e w' => ∃ v' gv, e = .returned (.tuple #[rgW v' (plR cc T), gv, .int .i64 (plC cc T)]) ∧ Ces w' w.heap.size v' (plR cc T).C ∧ Wds w' w.heap.size gv (plL cc T) ∧ Below w.heap.size w w') = Z := ⟨_, rfl⟩
  rw [hn] at hv hlc ⊢
  rw [hZ]
  have HZ : Hid (∀ e w', (∃ v' gv, e = .returned (.tuple #[rgW v' (plR cc T), gv, .int .i64 (plC cc T)]) ∧ Ces w' w.heap.size v' (plR cc T).C ∧ Wds w' w.heap.size gv (plL cc T) ∧ Below w.heap.size w w') → Z e w') := fun e w' h => by rw [← hZ]; exact h
  obtain ⟨w1, hw1, hX1, hb1⟩ := named w (rgO (.slice none 0 0) 0 0 0 0 0)
  have HR : Hid (∀ u, Below w1.heap.size w1 u → u.heap[w.heap.size]? = some (rgO (.slice none 0 0) 0 0 0 0 0) ∧ Below w.heap.size w u ∧ Rtn u (.slice a n c) T) := fun u hu => ⟨keep hX1 hu, bsq hb1 hu, hv.below (bsq hb1 hu)⟩
  have HSZ : Hid (w.heap.size < w1.heap.size) := (Array.getElem?_eq_some_iff.1 hX1).1
  obtain ⟨V, hV⟩ : ∃ V, nwR cc = V := ⟨_, rfl⟩
  obtain ⟨k, hk⟩ : ∃ k, nwC cc = k := ⟨_, rfl⟩
  have HV : Hid (nwR cc = V ∧ nwC cc = k) := ⟨hV, hk⟩
  have HNW : Hid (Calls Try.prog 19 #[.int .i64 cc] w1 fun e w' => ∃ v', e = .returned (.tuple #[rgW v' V, .int .i64 k]) ∧ Tel w1 v' V w') := by
    have := New_any cc w1
    rw [hV, hk] at this
    exact this
  obtain ⟨VC, vpa, vpb, vga, vgb, vsn⟩ := V
  have HTT : Hid (∀ u, Below w.heap.size w u → Rtn u (.slice a n c) T) := fun u hu => hv.below hu
  unfold maxLen at hcm
  clear hv hn hX1 hb1 hV hk hZ
  go_enter Try.func17, Try.ntmps17
  go_wp2_with fail
  refine HNW.out.mono ?_
  rintro e u1 ⟨v1, rfl, hv1, hb1⟩
  obtain ⟨u1', u2, hu1', hu2, hY1, hY2, hb2⟩ := laid6 u1 26 (.slice none 0 0) (.int .i64 0) (.int .i64 0) (.int .i64 0) (.int .i64 0) (.int .i64 0) v1 (.int .i64 vpa) (.int .i64 vpb) (.int .i64 vga) (.int .i64 vgb) (.int .i64 vsn)
  have HU2 : Hid (Below w1.heap.size w1 u2 ∧ w1.heap.size ≤ u1.heap.size) := ⟨bsq hb1 hb2, hb1.size⟩
  have HV2 : Hid (Ces u2 w1.heap.size v1 VC ∧ u2.heap[u1.heap.size]? = some (rgO v1 vpa vpb vga vgb vsn)) := ⟨hv1.below hb2, hY2⟩
  obtain ⟨va, vn, vc, rfl⟩ : ∃ a n c, v1 = .slice a n c := by obtain ⟨a, c, h, _⟩ := hv1.form; exact ⟨_, _, _, h⟩
  obtain ⟨⟨hz1, t0, t1, t2, t3, t4, t5⟩, f0, f1, f2, f3, f4, f5⟩ := box6 hY1
  clear hv1 hb1 hY1 hY2 hb2 hw1
  go_upto_region 2 with (fail)
  try rw [hu2]
  clear hu2 hu1' t0 t1 t2 t3 t4 t5 f0 f1 f2 f3 f4 f5
  have HERR : Hid (∀ (W : World) (z : Int), Below w1.heap.size w1 W → plC cc T = z → ¬ z = 0 → ∃ uf, (((((W.setCell ⟨w.heap.size, 0, none⟩ (.slice none 0 0)).setCell ⟨w.heap.size, 1, none⟩ (.int .i64 0)).setCell ⟨w.heap.size, 2, none⟩ (.int .i64 0)).setCell ⟨w.heap.size, 3, none⟩ (.int .i64 0)).setCell ⟨w.heap.size, 4, none⟩ (.int .i64 0)).setCell ⟨w.heap.size, 5, none⟩ (.int .i64 0) = uf ∧ uf.heap[w.heap.size]? = some (rgO (.slice none 0 0) 0 0 0 0 0) ∧ Z (.returned (.tuple #[rgV (.slice none 0 0) 0 0 0 0 0, .slice none 0 0, .int .i64 z])) uf) := fun W z hW hz h0 => by
    obtain ⟨uf, huf, hXf, hBf, _, _⟩ := put6 W w.heap.size (.slice none 0 0) (.int .i64 0) (.int .i64 0) (.int .i64 0) (.int .i64 0) (.int .i64 0) (HR.out W hW).1
    refine ⟨uf, huf, hXf, HZ.out _ _ ?_⟩
    unfold plR plL
    rw [hz, if_neg h0, if_neg h0]
    exact ⟨_, _, rfl, Ces.nil _ _, ⟨rfl, .inl ⟨rfl, rfl⟩⟩, hBf _ _ (Nat.le_refl _) (HR.out W hW).2.1⟩
  cases hcn : cnB cc
  · have hk1 : k = 1 := by rw [← HV.out.2]; unfold nwC; rw [hcn]; rfl
    subst hk1
    obtain ⟨uf, huf, hXf, hE⟩ := HERR.out u2 1 HU2.out.1 (by unfold plC; rw [hcn]; rfl) (by decide)
    have HE : Hid (Z (.returned (.tuple #[rgV (.slice none 0 0) 0 0 0 0 0, .slice none 0 0, .int .i64 1])) uf) := hE
    obtain ⟨⟨hzr, r0, r1, r2, r3, r4, r5⟩, g0, g1, g2, g3, g4, g5⟩ := box6 (HR.out u2 HU2.out.1).1
    obtain ⟨⟨hzf, y0, y1, y2, y3, y4, y5⟩, _⟩ := box6 hXf
    clear hXf hE hcn
    go_wp2
    try rw [huf]
    exact bodyPost_ret (v := .tuple #[rgV (.slice none 0 0) 0 0 0 0 0, .slice none 0 0, .int .i64 1]) (by simp [results, Try.results17, go_sem, hzf, y0, y1, y2, y3, y4, y5]) rfl HE.out
  have hk1 : k = 0 := by rw [← HV.out.2]; unfold nwC; rw [hcn]; rfl
  subst hk1
  obtain ⟨z, hz⟩ : ∃ z, tcC T = z := ⟨_, rfl⟩
  have HPC : Hid (plC cc T = z) := by show _ = _; unfold plC; rw [hcn, if_neg (by decide), hz]
  have HCT : Hid (Calls Try.prog 32 #[.slice a n c] u2 fun e w' => e = .returned (.int .i64 z) ∧ Below u2.heap.size u2 w') := by
    have := checkTurns_any (.slice a n c) T u2 (HR.out u2 HU2.out.1).2.2
    rw [hz] at this
    exact this
  have HTC : Hid (tcC T = z) := hz
  have HCN : Hid (cnB cc = true) := hcn
  clear hz hcn
  go_wp2_with fail
  refine HCT.out.mono ?_
  rintro e u3 ⟨rfl, hb3⟩
  have HU3 : Hid (Below w1.heap.size w1 u3) := bsq HU2.out.1 hb3
  have HV3 : Hid (Ces u3 w1.heap.size (.slice va vn vc) VC ∧ u3.heap[u1.heap.size]? = some (rgO (.slice va vn vc) vpa vpb vga vgb vsn)) := ⟨HV2.out.1.below hb3, keep HV2.out.2 hb3⟩
  clear hb3
  by_cases h0 : ¬ z = 0
  · have e1 : (z != 0) = true := by simpa using h0
    obtain ⟨uf, huf, hXf, hE⟩ := HERR.out u3 z HU3.out HPC.out h0
    have HE : Hid (Z (.returned (.tuple #[rgV (.slice none 0 0) 0 0 0 0 0, .slice none 0 0, .int .i64 z])) uf) := hE
    obtain ⟨⟨hzr, r0, r1, r2, r3, r4, r5⟩, g0, g1, g2, g3, g4, g5⟩ := box6 (HR.out u3 HU3.out).1
    obtain ⟨⟨hzf, y0, y1, y2, y3, y4, y5⟩, _⟩ := box6 hXf
    clear hXf hE h0
    go_wp2
    try rw [huf]
    exact bodyPost_ret (v := .tuple #[rgV (.slice none 0 0) 0 0 0 0 0, .slice none 0 0, .int .i64 z]) (by simp [results, Try.results17, go_sem, hzf, y0, y1, y2, y3, y4, y5]) rfl HE.out
  have h0 : z = 0 := Classical.not_not.1 h0
  subst h0
  have e1 : ((0 : Int) != 0) = false := rfl
  obtain ⟨hn2, hall⟩ : n ≤ 1000 ∧ T.all (fun t => turnB t.1) = true := by
    have h1 := HTC.out
    unfold tcC at h1
    rw [HN.out] at h1
    split at h1
    · omega
    · split at h1
      · omega
      · rename_i q1 q2
        exact ⟨by omega, by simpa using q2⟩
  have HALL : Hid (∀ t ∈ T, turnB t.1 = true) := fun t ht => List.all_eq_true.1 hall t ht
  have hcc := cn_iff.1 HCN.out
  obtain ⟨p, hp⟩ : ∃ p : Nat, cc.toNat - 1 = p := ⟨_, rfl⟩
  have hVst : (⟨VC, vpa, vpb, vga, vgb, vsn⟩ : Rg) = stS p sx0 := by rw [← HV.out.1]; unfold nwR; rw [HCN.out, if_pos rfl, hp]; rfl
  obtain ⟨g, c7, hs7, hBX, hgB⟩ := Bx.of (r := ⟨VC, vpa, vpb, vga, vgb, vsn⟩) HV3.out.1 (by have := stL_len p []; have h2 : VC = stL p [] := congrArg Rg.C hVst; rw [h2]; show 0 < (stL p []).length; omega) HV3.out.2
  have hVn : VC.length = p + 1 := by have := stL_len p []; have h2 : VC = stL p [] := congrArg Rg.C hVst; rw [h2]; exact this
  simp only at hs7 hBX
  injection hs7 with e1' e2' e3'
  subst e1' e2' e3'
  rw [hVst] at hBX
  obtain ⟨m, hm⟩ : ∃ m, VC.length = m := ⟨_, rfl⟩
  rw [hm] at hBX ⊢
  have HP0 : Hid (Ply w u1.heap.size g m vc w.heap.size p (.slice none 0 0) sx0 u3) := by
    have h1 := HSZ.out
    have h2 := HU2.out.2
    exact ⟨hBX, ⟨rfl, .inl ⟨rfl, rfl⟩⟩, (HR.out u3 HU3.out).1, by omega, by omega, by omega, by omega, (HR.out u3 HU3.out).2.1, inv_new (by omega) (by omega)⟩
  obtain ⟨q, hq⟩ : ∃ q, plS cc T = q := ⟨_, rfl⟩
  have HQ : Hid (runT p sx0 T = q) := by show _ = _; rw [← hq]; unfold plS; rw [hp]
  have HRES : Hid (plR cc T = stS p q ∧ plL cc T = q.all.take q.got) := by
    unfold plR plL
    rw [HPC.out, if_pos rfl, if_pos rfl, hq, hp]
    exact ⟨rfl, rfl⟩
  clear hall hVst hBX hgB hVn hm hq hcc hp HERR
  go_wp2
  go_loopw [9, 29] (fun gv i wr => ∃ (k : Nat), k ≤ n ∧ i = .int .i64 (k : Int) ∧ Hid (∃ s, Ply w u1.heap.size g m vc w.heap.size p gv s wr ∧ runT p s (T.drop k) = q ∧ s.all.length ≤ k)) (fun _ i _ => n - (intOf i).toNat)
  case atStart => exact ⟨0, Nat.zero_le _, rfl, sx0, HP0.out, HQ.out, Nat.zero_le _⟩
  case round =>
    obtain ⟨k, hk, rfl, HA⟩ := hrel
    by_cases hlt : ¬ k < n
    · obtain ⟨s, hP, hr, _⟩ := HA.out
      rw [List.drop_eq_nil_of_le (by have := HN.out; omega)] at hr
      have hr : s = q := hr
      subst hr
      obtain ⟨qq, hqq⟩ : ∃ qq, stS p s = qq := ⟨_, rfl⟩
      have hBX := hP.bx
      rw [hqq] at hBX
      rw [HRES.out.1, HRES.out.2, HPC.out, hqq] at HZ
      obtain ⟨qC, qpa, qpb, qga, qgb, qsn⟩ := qq
      obtain ⟨hX5, hC5, hl5⟩ := hBX
      simp only at hX5 hC5 hl5
      obtain ⟨uf, huf, hXf, hBf, _, _⟩ := put6 wr w.heap.size (.slice (some ⟨g, 0, none⟩) m vc) (.int .i64 qpa) (.int .i64 qpb) (.int .i64 qga) (.int .i64 qgb) (.int .i64 qsn) hP.rb
      obtain ⟨ua, un, uc, hu9⟩ : ∃ a n c, u9 = .slice a n c := by obtain ⟨a, c, h, _⟩ := hP.wd.form; exact ⟨_, _, _, h⟩
      subst hu9
      have hne := hP.neR
      have HE : Hid (Z (.returned (.tuple #[rgV (.slice (some ⟨g, 0, none⟩) m vc) qpa qpb qga qgb qsn, .slice ua un uc, .int .i64 0])) uf) := by
        refine HZ.out _ _ ⟨_, _, rfl, ?_, ?_, hBf _ _ (Nat.le_refl _) hP.bl⟩
        · rw [← huf]
          exact Ces.mono (own6 hC5 hP.rb _ _ _ _ _ _) hP.lg
        · rw [← huf]
          exact ownsRow_setCell_other (ownsRow_setCell_other (ownsRow_setCell_other (ownsRow_setCell_other (ownsRow_setCell_other (ownsRow_setCell_other hP.wd hne _) hne _) hne _) hne _) hne _) hne _
      obtain ⟨⟨hzr, r0, r1, r2, r3, r4, r5⟩, f0, f1, f2, f3, f4, f5⟩ := box6 hP.rb
      obtain ⟨⟨hzx, a0, a1, a2, a3, a4, a5⟩, _⟩ := box6 hX5
      obtain ⟨⟨hzf, y0, y1, y2, y3, y4, y5⟩, _⟩ := box6 hXf
      clear hXf hBf hX5 hC5 hl5 hP hne hqq HA
      go_wp2
      try rw [huf]
      exact bodyPost_ret (v := .tuple #[rgV (.slice (some ⟨g, 0, none⟩) m vc) qpa qpb qga qgb qsn, .slice ua un uc, .int .i64 0]) (by simp [results, Try.results17, go_sem, hzf, y0, y1, y2, y3, y4, y5]) rfl HE.out
    have hlt : k < n := by omega
    obtain ⟨x, hx⟩ : ∃ x, T[k]? = some x := ⟨_, List.getElem?_eq_getElem (by have := HN.out; omega)⟩
    have hxt := HALL.out x (List.mem_of_getElem? hx)
    obtain ⟨s, hs⟩ : ∃ s, Hid (Ply w u1.heap.size g m vc w.heap.size p u9 s wr ∧ runT p (stepT p s x) (T.drop (k + 1)) = q ∧ s.all.length ≤ k) := by
      obtain ⟨s, h1, h2, h3⟩ := HA.out
      rw [runT_at hx] at h2
      exact ⟨s, h1, h2, h3⟩
    obtain ⟨ga, off, rfl, hcell⟩ := (HTT.out wr hs.out.1.bl).at k x hx
    obtain ⟨c0, c1⟩ := hcell wr (Below.refl _ _)
    obtain ⟨xk, xw⟩ := x
    simp only at c0 c1 hxt
    obtain ⟨v2, v3, hv2, hv3, hY1, hYf, hbf⟩ := laid2 wr 50 (.int .i64 0) (.int .u64 0) (.int .i64 xk) (.int .u64 xw)
    obtain ⟨⟨hy, y0, y1⟩, g0, g1⟩ := box2 hY1
    obtain ⟨⟨hyf, t0, t1⟩, _⟩ := box2 hYf
    have HP3 : Hid (Ply w u1.heap.size g m vc w.heap.size p u9 s v3 ∧ runT p (stepT p s (xk, xw)) (T.drop (k + 1)) = q ∧ s.all.length ≤ k) := ⟨hs.out.1.below hbf, hs.out.2.1, hs.out.2.2⟩
    clear hcell hx hY1 hYf hbf HA hs
    have hx3 : xk = 1 ∨ xk = 2 ∨ xk = 3 := by simpa [turnB] using hxt
    go_upto_region 10 with (fail)
    try rw [hv3]
    clear hv3 hv2 y0 y1 g0 g1 c0 c1 hxt
    rcases hx3 with rfl | rfl | rfl
    · have HPT : Hid (Calls Try.prog 23 #[.pointer (some ⟨u1.heap.size, 0, none⟩), .int .u64 xw] v3 fun e w' => e = .returned (.bool (putB (stS p s))) ∧ Bx u1.heap.size g m vc (if putB (stS p s) = true then putV (stS p s) xw else stS p s) w' ∧ Kq u1.heap.size g v3 w') := put_any _ g m vc _ xw v3 HP3.out.1.bx (st_rt HP3.out.1.inv)
      go_wp2_with fail
      refine HPT.out.mono ?_
      rintro e v4 ⟨rfl, hB, hK⟩
      rw [putS_st HP3.out.1.inv] at hB
      have HE : Hid (∃ s', Ply w u1.heap.size g m vc w.heap.size p u9 s' v4 ∧ runT p s' (T.drop (k + 1)) = q ∧ s'.all.length ≤ k + 1) := ⟨putS p s xw, HP3.out.1.to hK hB (putS_take HP3.out.1.inv xw) (putS_inv HP3.out.1.inv xw), HP3.out.2.1, by have := putS_len p s xw; have := HP3.out.2.2; omega⟩
      clear hB hK HPT HP3
      go_wp2
      go_roundw
      case rel => exact ⟨k + 1, by omega, by go_num, HE.out⟩
      case measure => simp [intOf]; omega
    · have HGT : Hid (Calls Try.prog 30 #[.pointer (some ⟨u1.heap.size, 0, none⟩)] v3 fun e w' => e = .returned (.tuple #[.int .u64 (getW (stS p s)), .bool (getB (stS p s))]) ∧ Bx u1.heap.size g m vc (getV (stS p s)) w' ∧ Kq u1.heap.size g v3 w') := get_any _ g m vc _ v3 HP3.out.1.bx (st_rt HP3.out.1.inv)
      obtain ⟨gw, hgw⟩ : ∃ gw, getW (stS p s) = gw := ⟨_, rfl⟩
      have HGW : Hid (getW (stS p s) = gw) := hgw
      rw [hgw] at HGT
      clear hgw
      go_wp2_with fail
      refine HGT.out.mono ?_
      rintro e v4 ⟨rfl, hB, hK⟩
      rw [getS_st HP3.out.1.inv] at hB
      cases hgb : getB (stS p s)
      · have hsame := getS_none HP3.out.1.inv hgb
        have HE : Hid (∃ s', Ply w u1.heap.size g m vc w.heap.size p u9 s' v4 ∧ runT p s' (T.drop (k + 1)) = q ∧ s'.all.length ≤ k + 1) := ⟨getS s, HP3.out.1.to hK hB (by rw [hsame]) (getS_inv HP3.out.1.inv), HP3.out.2.1, by rw [hsame]; have := HP3.out.2.2; omega⟩
        clear hB hK HGT HP3 hsame hgb
        go_wp2
        go_roundw
        case rel => exact ⟨k + 1, by omega, by go_num, HE.out⟩
        case measure => simp [intOf]; omega
      · have hword := getS_word HP3.out.1.inv hgb
        rw [HGW.out] at hword
        have HWD : Hid (s.all.take s.got ++ [gw] = (getS s).all.take (getS s).got) := hword
        have HB4 : Hid (Bx u1.heap.size g m vc (stS p (getS s)) v4 ∧ Kq u1.heap.size g v3 v4) := ⟨hB, hK⟩
        have HM4 : Hid (Wds v4 w.heap.size u9 (s.all.take s.got) ∧ w.heap.size ≤ v4.heap.size) := HP3.out.1.mid hK
        obtain ⟨vd, hvd⟩ : ∃ vd, v4.alloc (.cells #[.int .u64 gw] 27) = vd := ⟨_, rfl⟩
        have hbd : Below v4.heap.size v4 vd := by rw [← hvd]; exact balloc _ _
        have HD : Hid (Rws vd (.slice (some ⟨v4.heap.size, 0, none⟩) 1 1) [gw] ∧ Wds vd w.heap.size u9 (s.all.take s.got) ∧ w.heap.size ≤ vd.heap.size ∧ Below v4.heap.size v4 vd) := ⟨by rw [← hvd]; exact rws_laid v4 [gw] (by simp), HM4.out.1.below hbd, Nat.le_trans HM4.out.2 hbd.size, hbd⟩
        obtain ⟨ua, un, uc, hu9⟩ : ∃ a n c, u9 = .slice a n c := by obtain ⟨a, c, h, _⟩ := HM4.out.1.form; exact ⟨_, _, _, h⟩
        subst hu9
        clear hB hK hword hgb hbd HGT
        go_wp2_with
          (at_builtin
           refine wpList_wds _ rfl _ _ rfl w.heap.size _ (s.all.take s.got) rfl HD.out.2.1 _ [gw] rfl HD.out.1 (by have := HP3.out.2.2; simp; omega) HD.out.2.2.1 ?_
           intro v' w' z1 z2 z3
           have HE : Hid (∃ s', Ply w u1.heap.size g m vc w.heap.size p v' s' w' ∧ runT p s' (T.drop (k + 1)) = q ∧ s'.all.length ≤ k + 1) := ⟨getS s, HP3.out.1.got HB4.out.2 HB4.out.1 HD.out.2.2.2 z2 z3 (by rw [← HWD.out]; exact z1), HP3.out.2.1, by show s.all.length ≤ k + 1; have := HP3.out.2.2; omega⟩
           clear z1 z2 z3)
        go_wp2
        go_roundw
        case rel => exact ⟨k + 1, by omega, by go_num, HE.out⟩
        case measure => simp [intOf]; omega
    · have HLN : Hid (Calls Try.prog 31 #[.pointer (some ⟨u1.heap.size, 0, none⟩)] v3 fun e w' => e = .returned (.tuple #[]) ∧ Bx u1.heap.size g m vc (lrn (stS p s)) w' ∧ Kq u1.heap.size g v3 w') := learn_any _ g m vc _ v3 HP3.out.1.bx
      go_wp2_with fail
      refine HLN.out.mono ?_
      rintro e v4 ⟨rfl, hB, hK⟩
      rw [lrnS_st] at hB
      have HE : Hid (∃ s', Ply w u1.heap.size g m vc w.heap.size p u9 s' v4 ∧ runT p s' (T.drop (k + 1)) = q ∧ s'.all.length ≤ k + 1) := ⟨⟨s.all, s.got, s.got⟩, HP3.out.1.to hK hB rfl (lrnS_inv HP3.out.1.inv), HP3.out.2.1, by show s.all.length ≤ k + 1; have := HP3.out.2.2; omega⟩
      clear hB hK HLN HP3
      go_wp2
      go_roundw
      case rel => exact ⟨k + 1, by omega, by go_num, HE.out⟩
      case measure => simp [intOf]; omega
end Go.Proofs.Ytmapnkjmgpkhfaa.ring
