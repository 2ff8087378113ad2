/- plugref: what RingPut answers. -/
import Derived.Test.YtmapnkjmgpkhfaaRngR
import Derived.Test.YtmapnkjmgpkhfaaRngJ
namespace Go.Proofs.Ytmapnkjmgpkhfaa.ring
open Go Go.RowKit
set_option linter.unusedVariables false
set_option linter.unusedSimpArgs false
set_option maxRecDepth 100000

/-- cell by cell -/
def eA (p k : Nat) (x pb : Int) (c : Ce) : Ce := if k = p then (x, pb, false) else c
def eB (n p k : Nat) (x pb : Int) (c : Ce) : Ce := if k + 1 = n ∧ p + 2 = n then ((eA p k x pb c).1, pb, (eA p k x pb c).2.2) else eA p k x pb c
theorem putL_at {r : Rg} (h : Rt r) (x : Int) {n p k : Nat} (hn : r.C.length = n) (hp : r.pa = (p : Int)) {c : Ce} (hc : r.C[k]? = some c) : (putL r x)[k]? = some (eB n p k x r.pb c) := by
  have hk := (List.getElem?_eq_some_iff.1 hc).1
  have h3 := h.n3
  have hp1 := h.pa1
  rw [hn] at h3 hk hp1
  have hset : (r.C.set p (x, r.pb, false))[k]? = some (eA p k x r.pb c) := by
    unfold eA
    by_cases q : k = p
    · subst q
      rw [if_pos rfl, List.getElem?_set_self (by omega)]
    · rw [if_neg q, List.getElem?_set_ne (by omega)]; exact hc
  unfold putL
  rw [hn, hp, Int.toNat_natCast]
  unfold on eB
  by_cases q : ((p : Int) + 1 = (n : Int) - 1)
  · rw [if_pos q, if_pos rfl]
    by_cases q2 : k + 1 = n
    · rw [if_pos ⟨q2, by omega⟩, show n - 1 = k by omega, List.getElem?_set_self (by rw [List.length_set]; omega)]
      unfold eA
      rw [if_neg (by omega)]
      obtain ⟨_, q4, q5⟩ := h.cell hc
      rw [hn] at q4 q5
      obtain ⟨c1, c2, c3⟩ := c
      simp only at q4 q5 ⊢
      rw [decide_eq_true q2] at q4
      rw [q4]
      rcases q5 with q5 | q5
      · omega
      · rw [q5]
    · rw [if_neg (fun q' => q2 q'.1), List.getElem?_set_ne (by omega)]
      exact hset
  · rw [if_neg q, if_neg (by simp only; omega), if_neg (by omega)]
    exact hset
theorem take_at {α : Type} {L : List α} {k : Nat} {x : α} (h : L[k]? = some x) : L.take k ++ [x] = L.take (k + 1) := by
  have hk := (List.getElem?_eq_some_iff.1 h).1
  have hx := (List.getElem?_eq_some_iff.1 h).2
  rw [List.take_succ_eq_append_getElem hk, hx]
set_option maxHeartbeats 8000000 in
theorem refPut_any (v : Value) (r : Rg) (x : Int) (w : World) (hv : Rcs w v r.C) :
    Calls Try.prog 10 #[rgW v r, .int .u64 x] w fun e w' => ∃ v', e = .returned (.tuple #[rgW v' (ptV r x), .int .i64 (ptC r)]) ∧ Tel w v' (ptV r x) w' := by
  obtain ⟨ad, c, rfl, hlc, hcm⟩ := hv.form
  obtain ⟨n, hn⟩ : ∃ n, r.C.length = n := ⟨_, rfl⟩
  obtain ⟨Z, hZ⟩ : ∃ Z : Ending → World → Prop, (fun e w' => ∃ v', e = .returned (.tuple #[rgW v' (ptV r x), .int .i64 (ptC r)]) ∧ Tel w v' (ptV r x) w') = Z := ⟨_, rfl⟩
  rw [hn] at hv hlc ⊢
  rw [hZ]
  have HZ : Hid (∀ e w', (∃ v', e = .returned (.tuple #[rgW v' (ptV r x), .int .i64 (ptC r)]) ∧ Tel w v' (ptV r x) w') → Z e w') := fun e w' h => by rw [← hZ]; exact h
  obtain ⟨k, hk⟩ : ∃ k, chk r = k := ⟨_, rfl⟩
  have HK : Hid (chk r = k) := hk
  obtain ⟨w1, hw1, hX1, hb1⟩ := named w (rgOf (.slice ad n c) r)
  obtain ⟨w2, hw2, hX2, hb2⟩ := named w1 (rgO (.slice none 0 0) 0 0 0 0 0)
  have hX12 := keep hX1 hb2
  obtain ⟨⟨hz, x0, x1, x2, x3, x4, x5⟩, _⟩ := box6 hX12
  have HB : Hid (Below w.heap.size w w2) := bsq hb1 hb2
  have HX : Hid (∀ u, Below w2.heap.size w2 u → u.heap[w.heap.size]? = some (rgOf (.slice ad n c) r) ∧ u.heap[w1.heap.size]? = some (rgO (.slice none 0 0) 0 0 0 0 0)) := fun u hu => ⟨keep hX12 hu, keep hX2 hu⟩
  have HS : Hid (w.heap.size < w1.heap.size ∧ w1.heap.size < w2.heap.size) := ⟨(Array.getElem?_eq_some_iff.1 hX1).1, (Array.getElem?_eq_some_iff.1 hX2).1⟩
  have HV : Hid (∀ u, Below w2.heap.size w2 u → Rcs u (.slice ad n c) r.C) := fun u hu => hv.below (bsq hb1 (bsq hb2 hu))
  have HC : Hid (Calls Try.prog 12 #[rgW (.slice ad n c) r] w2 fun e w' => e = .returned (.int .i64 k) ∧ Below w2.heap.size w2 w') := by
    have := refRing_any (.slice ad n c) r w2 (hv.below (bsq hb1 hb2))
    rw [hk] at this
    exact this
  have HN : Hid (r.C.length = n) := hn
  obtain ⟨C, pa, pb, ga, gb, sn⟩ := r
  simp only at x0 x1 x2 x3 x4 x5
  unfold maxLen at hcm
  clear hv hn hX1 hX2 hb1 hb2 hX12 hk hZ
  go_enter Try.func10, Try.ntmps10
  go_wp2_with fail
  refine HC.out.mono ?_
  rintro e u ⟨rfl, hb⟩
  have HU : Hid (Below w2.heap.size w2 u) := hb
  obtain ⟨hXu, hRu⟩ := HX.out u hb
  clear x0 x1 x2 x3 x4 x5 hw1 hw2 hb
  have HERR : Hid (∀ W : World, Below w2.heap.size w2 W → ∃ uf, (((((W.setCell ⟨w1.heap.size, 0, none⟩ (.slice none 0 0)).setCell ⟨w1.heap.size, 1, none⟩ (.int .i64 0)).setCell ⟨w1.heap.size, 2, none⟩ (.int .i64 0)).setCell ⟨w1.heap.size, 3, none⟩ (.int .i64 0)).setCell ⟨w1.heap.size, 4, none⟩ (.int .i64 0)).setCell ⟨w1.heap.size, 5, none⟩ (.int .i64 0) = uf ∧ uf.heap[w1.heap.size]? = some (rgO (.slice none 0 0) 0 0 0 0 0) ∧ Below w.heap.size w uf) := fun W hW => by
    obtain ⟨uf, huf, hXf, hBf, _, _⟩ := put6 W w1.heap.size (.slice none 0 0) (.int .i64 0) (.int .i64 0) (.int .i64 0) (.int .i64 0) (.int .i64 0) (HX.out W hW).2
    exact ⟨uf, huf, hXf, hBf _ _ (by have := HS.out; omega) (bsq HB.out hW)⟩
  by_cases h0 : ¬ k = 0
  · have e1 : (k != 0) = true := by simpa using h0
    obtain ⟨uf, huf, hXf, hBf⟩ := HERR.out u HU.out
    have HE : Hid (Z (.returned (.tuple #[rgV (.slice none 0 0) 0 0 0 0 0, .int .i64 k])) uf) := by
      refine HZ.out _ _ ?_
      have h1 : ¬ chk ⟨C, pa, pb, ga, gb, sn⟩ = 0 := by rw [HK.out]; exact h0
      unfold ptV ptC
      rw [if_neg h1, if_neg h1, HK.out]
      exact ⟨_, rfl, Ces.nil _ _, hBf⟩
    obtain ⟨⟨hzr, r0, r1, r2, r3, r4, r5⟩, f0, f1, f2, f3, f4, f5⟩ := box6 hRu
    obtain ⟨⟨hzf, y0, y1, y2, y3, y4, y5⟩, _⟩ := box6 hXf
    clear hXu hRu hXf hBf h0
    go_wp2
    try rw [huf]
    exact bodyPost_ret (v := .tuple #[rgV (.slice none 0 0) 0 0 0 0 0, .int .i64 k]) (by simp [results, Try.results10, go_sem, hzf, y0, y1, y2, y3, y4, y5]) rfl HE.out
  have h0 : k = 0 := Classical.not_not.1 h0
  subst h0
  have e1 : ((0 : Int) != 0) = false := rfl
  have hr := chk_ok.1 HK.out
  have HRT : Hid (Rt ⟨C, pa, pb, ga, gb, sn⟩) := hr
  have h64 : n ≤ 64 := by have := hr.n64; rw [HN.out] at this; exact this
  have h3 : 3 ≤ n := by have := hr.n3; rw [HN.out] at this; exact this
  obtain ⟨p, hp⟩ : ∃ p : Nat, pa = (p : Int) := ⟨pa.toNat, by have : 0 ≤ pa := hr.pa0; omega⟩
  subst hp
  have hpn : p + 1 < n := by have : ((p : Nat) : Int) < (C.length : Int) - 1 := hr.pa1; rw [show C.length = n from HN.out] at this; omega
  obtain ⟨o1, ho1⟩ : ∃ o, (on n (p : Int) pb).1 = o := ⟨_, rfl⟩
  obtain ⟨o2, ho2⟩ : ∃ o, (on n (p : Int) pb).2 = o := ⟨_, rfl⟩
  have HGO : Hid (Calls Try.prog 16 #[mkV (p : Int) pb, .int .i64 ((n : Int) - 1)] u fun e w' => e = .returned (mkV o1 o2) ∧ Below u.heap.size u w') := by
    have := goneOn_any n (p : Int) pb u h3 h64 (by omega) (by omega) hr.pb
    rw [ho1, ho2] at this
    exact this
  have HPB : Hid (putB ⟨C, (p : Int), pb, ga, gb, sn⟩ = !(o1 == sn)) := by show _ = _; unfold putB; rw [show C.length = n from HN.out, ← ho1]
  have HPV : Hid (putV ⟨C, (p : Int), pb, ga, gb, sn⟩ x = ⟨putL ⟨C, (p : Int), pb, ga, gb, sn⟩ x, o1, o2, ga, gb, sn⟩) := by show _ = _; unfold putV; rw [show C.length = n from HN.out, ← ho1, ← ho2]
  obtain ⟨⟨hzu, x0, x1, x2, x3, x4, x5⟩, _⟩ := box6 hXu
  simp only at x0 x1 x2 x3 x4 x5
  clear hr hXu hRu ho1 ho2
  go_wp2_with fail
  refine HGO.out.mono ?_
  rintro e u2 ⟨rfl, hb2⟩
  obtain ⟨u2', u3, hu2', hu3, hM2, hM3, hb3⟩ := laid2 u2 24 (.int .i64 0) (.int .i64 0) (.int .i64 o1) (.int .i64 o2)
  have HU3 : Hid (Below w2.heap.size w2 u3) := bsq HU.out (bsq hb2 hb3)
  have HM : Hid (∀ W, Below u3.heap.size u3 W → W.heap[u2.heap.size]? = some (mkO o1 o2)) := fun W hW => keep hM3 hW
  obtain ⟨hX3, hR3⟩ := HX.out u3 HU3.out
  obtain ⟨⟨hzm, m0, m1⟩, mf0, mf1⟩ := box2 hM2
  obtain ⟨⟨hzm3, n0, n1⟩, _⟩ := box2 hM3
  obtain ⟨⟨hzx3, b0, b1, b2, b3, b4, b5⟩, _⟩ := box6 hX3
  simp only at b0 b1 b2 b3 b4 b5
  clear x0 x1 x2 x3 x4 x5 hb2 hb3 hM2 hM3
  go_upto_region 6 with (fail)
  try rw [hu3]
  clear hu3 hu2' m0 m1 mf0 mf1
  by_cases hq : o1 = sn
  · have e2 : (o1 == sn) = true := by simpa using hq
    obtain ⟨uf, huf, hXf, hBf⟩ := HERR.out u3 HU3.out
    have HE : Hid (Z (.returned (.tuple #[rgV (.slice none 0 0) 0 0 0 0 0, .int .i64 11])) uf) := by
      refine HZ.out _ _ ?_
      unfold ptV ptC
      rw [if_pos HK.out, if_pos HK.out, HPB.out, e2]
      exact ⟨_, rfl, Ces.nil _ _, hBf⟩
    obtain ⟨⟨hzr, r0, r1, r2, r3, r4, r5⟩, f0, f1, f2, f3, f4, f5⟩ := box6 hR3
    obtain ⟨⟨hzf, y0, y1, y2, y3, y4, y5⟩, _⟩ := box6 hXf
    clear hX3 hR3 hXf hBf hq
    go_wp2
    try rw [huf]
    exact bodyPost_ret (v := .tuple #[rgV (.slice none 0 0) 0 0 0 0 0, .int .i64 11]) (by simp [results, Try.results10, go_sem, hzf, y0, y1, y2, y3, y4, y5]) rfl HE.out
  have e2 : (o1 == sn) = false := by simpa using hq
  obtain ⟨PL, hPL⟩ : ∃ PL, putL ⟨C, (p : Int), pb, ga, gb, sn⟩ x = PL := ⟨_, rfl⟩
  have HPT : Hid (ptV ⟨C, (p : Int), pb, ga, gb, sn⟩ x = ⟨PL, o1, o2, ga, gb, sn⟩ ∧ ptC ⟨C, (p : Int), pb, ga, gb, sn⟩ = 0) := by
    unfold ptV ptC
    rw [if_pos HK.out, if_pos HK.out, HPB.out, e2, HPV.out, hPL]
    exact ⟨rfl, rfl⟩
  have HPA : Hid (∀ k c, C[k]? = some c → PL[k]? = some (eB n p k x pb c)) := fun k c hc => by rw [← hPL]; exact putL_at HRT.out x HN.out rfl hc
  have HPLl : Hid (PL.length = n) := by show _ = _; rw [← hPL, putL_len]; exact HN.out
  rw [HPT.out.1, HPT.out.2] at HZ
  obtain ⟨u4', u4, hu4', hu4, hO4, hO5, hb4⟩ := laid6 u3 26 (.slice none 0 0) (.int .i64 0) (.int .i64 0) (.int .i64 0) (.int .i64 0) (.int .i64 0) (.slice none 0 0) (.int .i64 o1) (.int .i64 o2) (.int .i64 ga) (.int .i64 gb) (.int .i64 sn)
  have HU4 : Hid (Below w2.heap.size w2 u4 ∧ Below u3.heap.size u3 u4) := ⟨bsq HU3.out hb4, hb4⟩
  have HO : Hid (u4.heap[u3.heap.size]? = some (rgO (.slice none 0 0) o1 o2 ga gb sn)) := hO5
  obtain ⟨hX4, hR4⟩ := HX.out u4 HU4.out.1
  obtain ⟨⟨hzo, q0, q1, q2, q3, q4, q5⟩, of0, of1, of2, of3, of4, of5⟩ := box6 hO4
  obtain ⟨⟨hzx4, d0, d1, d2, d3, d4, d5⟩, _⟩ := box6 hX4
  simp only at d0 d1 d2 d3 d4 d5
  have HXa : Hid (∀ W, Below u3.heap.size u3 W → W.heap[w.heap.size]? = some (rgO (.slice ad n c) (p : Int) pb ga gb sn) ∧ Rcs W (.slice ad n c) C) := fun W hW => ⟨(HX.out W (bsq HU3.out hW)).1, HV.out W (bsq HU3.out hW)⟩
  clear hX3 hR3 hO4 hO5 hb4 hX4 hR4 hq hPL
  go_upto_region 9 with (fail)
  try rw [hu4]
  clear hu4 hu4' q0 q1 q2 q3 q4 q5 of0 of1 of2 of3 of4 of5 b0 b1 b2 b3 b4 b5 n0 n1
  go_wp2
  go_loopw [41] (fun i wr => ∃ k : Nat, k ≤ n ∧ i = .int .i64 (k : Int) ∧ Hid (∃ vo, wr.heap[u3.heap.size]? = some (rgO vo o1 o2 ga gb sn) ∧ Ces wr u3.heap.size vo (PL.take k) ∧ Below u3.heap.size u3 wr)) (fun i _ => n - (intOf i).toNat)
  case atStart => exact ⟨0, Nat.zero_le _, rfl, _, HO.out, Ces.nil _ _, HU4.out.2⟩
  case round =>
    obtain ⟨k, hk, rfl, HA⟩ := hrel
    by_cases hlt : ¬ k < n
    · obtain ⟨vo, hvo⟩ : ∃ vo, Hid (wr.heap[u3.heap.size]? = some (rgO vo o1 o2 ga gb sn) ∧ Ces wr u3.heap.size vo PL ∧ Below u3.heap.size u3 wr) := by
        obtain ⟨vo, a1, a2, a3⟩ := HA.out
        rw [List.take_of_length_le (by have := HPLl.out; omega)] at a2
        exact ⟨vo, a1, a2, a3⟩
      have hRr := (HX.out wr (bsq HU3.out hvo.out.2.2)).2
      obtain ⟨va, vn, vc, rfl⟩ : ∃ a n c, vo = .slice a n c := by obtain ⟨a, c, h, _⟩ := hvo.out.2.1.form; exact ⟨_, _, _, h⟩
      obtain ⟨uf, huf, hXf, hBf, _, _⟩ := put6 wr w1.heap.size (.slice va vn vc) (.int .i64 o1) (.int .i64 o2) (.int .i64 ga) (.int .i64 gb) (.int .i64 sn) hRr
      have HE : Hid (Z (.returned (.tuple #[rgV (.slice va vn vc) o1 o2 ga gb sn, .int .i64 0])) uf) := by
        refine HZ.out _ _ ⟨_, rfl, ?_, hBf _ _ (by have := HS.out; omega) (bsq HB.out (bsq HU3.out hvo.out.2.2))⟩
        rw [← huf]
        exact Ces.mono (own6 hvo.out.2.1 hRr _ _ _ _ _ _) (Nat.le_trans HB.out.size HU3.out.size)
      obtain ⟨⟨hzr, r0, r1, r2, r3, r4, r5⟩, f0, f1, f2, f3, f4, f5⟩ := box6 hRr
      obtain ⟨⟨hzf, y0, y1, y2, y3, y4, y5⟩, _⟩ := box6 hXf
      obtain ⟨⟨hzo, q0, q1, q2, q3, q4, q5⟩, _⟩ := box6 hvo.out.1
      clear hXf hBf hRr HA hvo
      go_wp2
      try rw [huf]
      exact bodyPost_ret (v := .tuple #[rgV (.slice va vn vc) o1 o2 ga gb sn, .int .i64 0]) (by simp [results, Try.results10, go_sem, hzf, y0, y1, y2, y3, y4, y5]) rfl HE.out
    have hlt : k < n := by omega
    obtain ⟨xc, hx⟩ : ∃ xc, C[k]? = some xc := ⟨_, List.getElem?_eq_getElem (by have : C.length = n := HN.out; omega)⟩
    have HEB : Hid (PL[k]? = some (eB n p k x pb xc)) := HPA.out k xc hx
    obtain ⟨vo, hvo⟩ : ∃ vo, Hid (wr.heap[u3.heap.size]? = some (rgO vo o1 o2 ga gb sn) ∧ Ces wr u3.heap.size vo (PL.take k) ∧ Below u3.heap.size u3 wr) := HA.out
    obtain ⟨hXr, hCr⟩ := HXa.out wr hvo.out.2.2
    obtain ⟨g, off, rfl, hcell⟩ := hCr.at k xc hx
    obtain ⟨c0, c1, c2⟩ := hcell wr (Below.refl _ _)
    obtain ⟨cw, cb, cl⟩ := xc
    simp only at c0 c1 c2
    obtain ⟨v1, v2, hv1, hv2, hY1, hY2, hbf⟩ := laid3 wr 38 (.int .u64 0) (.int .i64 0) (.bool false) (.int .u64 cw) (.int .i64 cb) (.bool cl)
    obtain ⟨⟨hy, y0, y1, y2⟩, g0, g1, g2⟩ := box3 hY1
    have HY2 : Hid (v2.heap[wr.heap.size]? = some (ceO cw cb cl) ∧ Below wr.heap.size wr v2) := ⟨hY2, hbf⟩
    clear hcell hx hCr hbf hY1 hY2 HA hXr
    go_upto_region 12 with (fail)
    try rw [hv2]
    clear hv2 hv1 y0 y1 y2 g0 g1 g2 c0 c1 c2
    obtain ⟨eAw, eAb, eAl, hEA⟩ : ∃ a b l, eA p k x pb (cw, cb, cl) = (a, b, l) := ⟨_, _, _, rfl⟩
    have HEA : Hid (eA p k x pb (cw, cb, cl) = (eAw, eAb, eAl)) := hEA
    clear hEA
    obtain ⟨⟨hzx, t0, t1, t2, t3, t4, t5⟩, _⟩ := box6 (HXa.out v2 (bsq hvo.out.2.2 HY2.out.2)).1
    go_upto_if 50 with (fail)
    go_cut [] from 46 to 78 (fun wx => Hid (wx.heap[wr.heap.size]? = some (ceO eAw eAb eAl) ∧ Below wr.heap.size wr wx))
    case first =>
      obtain ⟨⟨hzy, y0, y1, y2⟩, g0, g1, g2⟩ := box3 HY2.out.1
      by_cases hkp : k = p
      · have e3 : ((k : Int) == (p : Int)) = true := by simp; omega
        have he : (eAw, eAb, eAl) = (x, pb, false) := by rw [← HEA.out]; unfold eA; rw [if_pos hkp]
        injection he with he1 he2
        injection he2 with he2 he3
        subst he1 he2 he3
        obtain ⟨v3, hv3, hY3, hB3, _, _⟩ := put3 v2 wr.heap.size (.int .u64 eAw) (.int .i64 eAb) (.bool false) HY2.out.1
        have HR : Hid (v3.heap[wr.heap.size]? = some (ceO eAw eAb false) ∧ Below wr.heap.size wr v3) := ⟨hY3, hB3 _ _ (Nat.le_refl _) HY2.out.2⟩
        clear hY3 hB3 hkp
        go_wp2_with fail
        try rw [hv3]
        go_meet
        case rel => exact HR.out
      · have e3 : ((k : Int) == (p : Int)) = false := by simp; omega
        have he : (eAw, eAb, eAl) = (cw, cb, cl) := by rw [← HEA.out]; unfold eA; rw [if_neg hkp]
        injection he with he1 he2
        injection he2 with he2 he3
        subst he1 he2 he3
        clear hkp
        go_wp2_with fail
        go_meet
        case rel => exact HY2.out
    case rest =>
    rename World => va
    have HYa : Hid (va.heap[wr.heap.size]? = some (ceO eAw eAb eAl) ∧ Below wr.heap.size wr va) := hcut
    clear hcut HY2 t0 t1 t2 t3 t4 t5
    go_upto_region 14 with (fail)
    obtain ⟨eb, heb⟩ : ∃ b, (if k + 1 = n ∧ p + 2 = n then pb else eAb) = b := ⟨_, rfl⟩
    have HEB2 : Hid (PL[k]? = some (eAw, eb, eAl)) := by
      have h1 := HEB.out
      unfold eB at h1
      rw [HEA.out] at h1
      show _ = _
      rw [h1, ← heb]
      split <;> rfl
    have HEb : Hid ((if k + 1 = n ∧ p + 2 = n then pb else eAb) = eb) := heb
    clear heb HEB HEA
    obtain ⟨⟨hzx, t0, t1, t2, t3, t4, t5⟩, _⟩ := box6 (HXa.out va (bsq hvo.out.2.2 HYa.out.2)).1
    go_cut [67] from 46 to 78 (fun bv wx => bv = .bool (decide (k + 1 = n ∧ p + 2 = n)) ∧ va = wx)
    case first =>
      by_cases hk1 : k + 1 = n
      · have e3 : ((k : Int) == (n : Int) - 1) = true := by simp; omega
        by_cases hp2 : p + 2 = n
        · have e4 : ((p : Int) == (n : Int) - 2) = true := by simp; omega
          have he : decide (k + 1 = n ∧ p + 2 = n) = true := decide_eq_true ⟨hk1, hp2⟩
          clear hk1 hp2
          go_wp2_with fail
          go_meet
          case rel => exact ⟨by rw [he], rfl⟩
        · have e4 : ((p : Int) == (n : Int) - 2) = false := by simp; omega
          have he : decide (k + 1 = n ∧ p + 2 = n) = false := decide_eq_false (fun q => hp2 q.2)
          clear hk1 hp2
          go_wp2_with fail
          go_meet
          case rel => exact ⟨by rw [he], rfl⟩
      · have e3 : ((k : Int) == (n : Int) - 1) = false := by simp; omega
        have he : decide (k + 1 = n ∧ p + 2 = n) = false := decide_eq_false (fun q => hk1 q.1)
        clear hk1
        go_wp2_with fail
        go_meet
        case rel => exact ⟨by rw [he], rfl⟩
    case rest =>
    obtain ⟨rfl, rfl⟩ := hcut
    go_upto_if 67 with (fail)
    go_cut [] from 46 to 78 (fun wx => Hid (wx.heap[wr.heap.size]? = some (ceO eAw eb eAl) ∧ Below wr.heap.size wr wx))
    case first =>
      obtain ⟨⟨hzy, y0, y1, y2⟩, g0, g1, g2⟩ := box3 HYa.out.1
      by_cases hk1 : k + 1 = n ∧ p + 2 = n
      · have he : pb = eb := by have := HEb.out; rw [if_pos hk1] at this; exact this
        have he2 : decide (k + 1 = n ∧ p + 2 = n) = true := decide_eq_true hk1
        subst he
        obtain ⟨v3, hv3⟩ : ∃ v3, va.setCell ⟨wr.heap.size, 1, none⟩ (.int .i64 pb) = v3 := ⟨_, rfl⟩
        have HR : Hid (v3.heap[wr.heap.size]? = some (ceO eAw pb eAl) ∧ Below wr.heap.size wr v3) := by rw [← hv3]; exact ⟨csetX 1 _ HYa.out.1 rfl, HYa.out.2.setCell (Nat.le_refl _) _⟩
        rw [he2]
        clear hk1 he2
        go_wp2_with fail
        try rw [hv3]
        go_meet
        case rel => exact HR.out
      · have he : eAb = eb := by have := HEb.out; rw [if_neg hk1] at this; exact this
        have he2 : decide (k + 1 = n ∧ p + 2 = n) = false := decide_eq_false hk1
        subst he
        rw [he2]
        clear hk1 he2
        go_wp2_with fail
        go_meet
        case rel => exact HYa.out
    case rest =>
    rename World => vb
    have HYb : Hid (vb.heap[wr.heap.size]? = some (ceO eAw eb eAl) ∧ Below wr.heap.size wr vb) := hcut
    clear hcut HYa HEb t0 t1 t2 t3 t4 t5
    have HCb : Hid (Ces vb u3.heap.size vo (PL.take k) ∧ Below u3.heap.size u3 vb) := ⟨hvo.out.2.1.below HYb.out.2, bsq hvo.out.2.2 HYb.out.2⟩
    have HOb : Hid (vb.heap[u3.heap.size]? = some (rgO vo o1 o2 ga gb sn)) := keep hvo.out.1 HYb.out.2
    obtain ⟨va', vn, vc, rfl⟩ : ∃ a n c, vo = .slice a n c := by obtain ⟨a, c, h, _⟩ := hvo.out.2.1.form; exact ⟨_, _, _, h⟩
    obtain ⟨⟨hzo, q0, q1, q2, q3, q4, q5⟩, of0, _⟩ := box6 HOb.out
    obtain ⟨⟨hzy, y0, y1, y2⟩, _⟩ := box3 HYb.out.1
    obtain ⟨vd, hvd⟩ : ∃ vd, vb.alloc (.cells #[.int .u64 eAw, .int .i64 eb, .bool eAl] 38) = vd := ⟨_, rfl⟩
    have hbd : Below vb.heap.size vb vd := by rw [← hvd]; exact balloc _ _
    have HRd : Hid (Rcs vd (.slice (some ⟨vb.heap.size, 0, none⟩) 1 1) [(eAw, eb, eAl)] ∧ Ces vd u3.heap.size (.slice va' vn vc) (PL.take k) ∧ Below u3.heap.size u3 vd ∧ vd.heap[u3.heap.size]? = some (rgO (.slice va' vn vc) o1 o2 ga gb sn)) := ⟨by rw [← hvd]; exact rcs_laid vb [(eAw, eb, eAl)] (by simp), HCb.out.1.below hbd, bsq HCb.out.2 hbd, keep HOb.out hbd⟩
    clear hbd
    go_wp2_with
      (at_builtin
       refine wpList_ces _ rfl _ _ rfl u3.heap.size _ (PL.take k) rfl HRd.out.2.1 _ [(eAw, eb, eAl)] rfl HRd.out.1 (by have := HPLl.out; simp; omega) HRd.out.2.2.1.size ?_
       intro v' w' z1 z2 z3
       obtain ⟨na, nn, nc, rfl⟩ : ∃ a n c, v' = .slice a n c := by obtain ⟨a, c, h, _⟩ := z1.form; exact ⟨_, _, _, h⟩
       have hOw : w'.heap[u3.heap.size]? = some (rgO (.slice va' vn vc) o1 o2 ga gb sn) := (z2.block _ (Array.getElem?_eq_some_iff.1 HRd.out.2.2.2).1 (Ne.symm (box_ne HRd.out.2.1 HRd.out.2.2.2 (by decide)))).trans HRd.out.2.2.2
       have HW' : Hid (∀ wf, w'.setCell ⟨u3.heap.size, 0, none⟩ (.slice na nn nc) = wf → wf.heap[u3.heap.size]? = some (rgO (.slice na nn nc) o1 o2 ga gb sn) ∧ Ces wf u3.heap.size (.slice na nn nc) (PL.take (k + 1)) ∧ Below u3.heap.size u3 wf) := fun wf hwf => by rw [← hwf]; exact ⟨csetX 0 _ hOw rfl, by rw [← take_at HEB2.out]; exact ownsRow_setCell_other z1 (box_ne z1 hOw (by decide)) _, (HRd.out.2.2.1.trans z3).setCell (Nat.le_refl _) _⟩
       obtain ⟨⟨hzw, p0, _, _, _, _, _⟩, pf0, _⟩ := box6 hOw
       clear z1 z2 z3 hOw)
    go_wp2
    go_roundw
    case rel => exact ⟨k + 1, by omega, by go_num, _, HW'.out _ rfl⟩
    case measure => simp [intOf]; omega
end Go.Proofs.Ytmapnkjmgpkhfaa.ring
