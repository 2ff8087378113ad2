/- ring: what Get and Learn answer. -/
import Derived.Test.YthjmcopknkemnaaRngJ
namespace Go.Proofs.Ythjmcopknkemnaa.ring
open Go Go.RowKit
set_option linter.unusedVariables false
set_option linter.unusedSimpArgs false
set_option maxRecDepth 100000

set_option maxHeartbeats 8000000 in
theorem Get_any (v : Value) (r : Rg) (w : World) (hv : Rcs w v r.C) :
    Calls Try.prog 44 #[rgW v r] w fun e w' => ∃ v', e = .returned (.tuple #[rgW v' (gtV r), .int .u64 (gtW r), .bool (gtB r), .int .i64 (chk r)]) ∧ Tel w v' (gtV r) w' := by
  obtain ⟨ad, c, rfl, hlc, hcm⟩ := hv.form
  obtain ⟨n, hn⟩ : ∃ n, r.C.length = n := ⟨_, rfl⟩
  obtain ⟨Z, hZ⟩ : ∃ Z : Ending → World → Prop, (fun e w' => ∃ v', e = .returned (.tuple #[rgW v' (gtV r), .int .u64 (gtW r), .bool (gtB r), .int .i64 (chk r)]) ∧ Tel w v' (gtV r) w') = Z := ⟨_, rfl⟩
  rw [hn] at hv hlc ⊢
  rw [hZ]
  have HZ : Hid (∀ e w', (∃ v', e = .returned (.tuple #[rgW v' (gtV r), .int .u64 (gtW r), .bool (gtB r), .int .i64 (chk r)]) ∧ Tel w v' (gtV r) w') → Z e w') := fun e w' h => by rw [← hZ]; exact h
  obtain ⟨k, hk⟩ : ∃ k, chk r = k := ⟨_, rfl⟩
  have HK : Hid (chk r = k) := hk
  obtain ⟨w1, hw1, hX1, hb1⟩ := named w (rgOf (.slice ad n c) r)
  obtain ⟨w2, hw2, hX2, hb2⟩ := named w1 (rgO (.slice none 0 0) 0 0 0 0 0)
  have hX12 := keep hX1 hb2
  obtain ⟨⟨hz, x0, x1, x2, x3, x4, x5⟩, _⟩ := box6 hX12
  have HB : Hid (Below w.heap.size w w2) := bsq hb1 hb2
  have HX : Hid (∀ u, Below w2.heap.size w2 u → u.heap[w.heap.size]? = some (rgOf (.slice ad n c) r) ∧ u.heap[w1.heap.size]? = some (rgO (.slice none 0 0) 0 0 0 0 0)) := fun u hu => ⟨keep hX12 hu, keep hX2 hu⟩
  have HS : Hid (w.heap.size < w1.heap.size ∧ w1.heap.size < w2.heap.size) := ⟨(Array.getElem?_eq_some_iff.1 hX1).1, (Array.getElem?_eq_some_iff.1 hX2).1⟩
  have HV : Hid (∀ u, Below w2.heap.size w2 u → Rcs u (.slice ad n c) r.C) := fun u hu => hv.below (bsq hb1 (bsq hb2 hu))
  have HC : Hid (Calls Try.prog 57 #[rgW (.slice ad n c) r] w2 fun e w' => e = .returned (.int .i64 k) ∧ Below w2.heap.size w2 w') := by
    have := check_any (.slice ad n c) r w2 (hv.below (bsq hb1 hb2))
    rw [hk] at this
    exact this
  have HN : Hid (r.C.length = n) := hn
  obtain ⟨C, pa, pb, ga, gb, sn⟩ := r
  simp only at x0 x1 x2 x3 x4 x5
  clear hv hn hX1 hX2 hb1 hb2 hX12 hk hZ
  go_enter Try.func44, Try.ntmps44
  go_wp2_with fail
  refine HC.out.mono ?_
  rintro e u ⟨rfl, hb⟩
  have HU : Hid (Below w2.heap.size w2 u) := hb
  obtain ⟨hXu, hRu⟩ := HX.out u hb
  clear x0 x1 x2 x3 x4 x5 hw1 hw2 hb
  by_cases h0 : ¬ k = 0
  · have e1 : (k != 0) = true := by simpa using h0
    obtain ⟨uf, huf, hXf, hBf, _, _⟩ := put6 u w1.heap.size (.slice none 0 0) (.int .i64 0) (.int .i64 0) (.int .i64 0) (.int .i64 0) (.int .i64 0) hRu
    have HE : Hid (Z (.returned (.tuple #[rgV (.slice none 0 0) 0 0 0 0 0, .int .u64 0, .bool false, .int .i64 k])) uf) := by
      refine HZ.out _ _ ?_
      have h1 : ¬ chk ⟨C, pa, pb, ga, gb, sn⟩ = 0 := by rw [HK.out]; exact h0
      unfold gtV gtW gtB
      rw [if_neg h1, if_neg h1, if_neg h1, HK.out]
      exact ⟨_, rfl, Ces.nil _ _, hBf _ _ (by have := HS.out; omega) (bsq HB.out HU.out)⟩
    obtain ⟨⟨hzr, r0, r1, r2, r3, r4, r5⟩, f0, f1, f2, f3, f4, f5⟩ := box6 hRu
    obtain ⟨⟨hzf, y0, y1, y2, y3, y4, y5⟩, _⟩ := box6 hXf
    clear hXu hRu hXf hBf h0
    go_wp2
    try rw [huf]
    exact bodyPost_ret (v := .tuple #[rgV (.slice none 0 0) 0 0 0 0 0, .int .u64 0, .bool false, .int .i64 k]) (by simp [results, Try.results44, go_sem, hzf, y0, y1, y2, y3, y4, y5]) rfl HE.out
  have h0 : k = 0 := Classical.not_not.1 h0
  subst h0
  have e1 : ((0 : Int) != 0) = false := rfl
  have hr := chk_ok.1 HK.out
  have HRT : Hid (Rt ⟨C, pa, pb, ga, gb, sn⟩) := hr
  have h64 : n ≤ 64 := by have := hr.n64; rw [HN.out] at this; exact this
  have HCP : Hid (Calls Try.prog 61 #[rgV (.slice ad n c) pa pb ga gb sn] u fun e w' => ∃ v', e = .returned (rgV v' pa pb ga gb sn) ∧ Ces w' u.heap.size v' C ∧ Below u.heap.size u w') := copied_any (.slice ad n c) C pa pb ga gb sn u (HV.out u HU.out) (by have : C.length = n := HN.out; omega)
  obtain ⟨⟨hzu, x0, x1, x2, x3, x4, x5⟩, _⟩ := box6 hXu
  clear hr hXu hRu
  simp only at x0 x1 x2 x3 x4 x5
  go_wp2_with fail
  refine HCP.out.mono ?_
  rintro e u2 ⟨v', rfl, hv', hb2⟩
  have HU2 : Hid (Below w2.heap.size w2 u2) := bsq HU.out hb2
  obtain ⟨hX2, hR2⟩ := HX.out u2 HU2.out
  obtain ⟨u3, hu3, hX3, hB3, hk3, hs3⟩ := put6 u2 w.heap.size v' (.int .i64 pa) (.int .i64 pb) (.int .i64 ga) (.int .i64 gb) (.int .i64 sn) hX2
  have hv3 : Ces u3 u.heap.size v' C := by rw [← hu3]; exact own6 hv' hX2 _ _ _ _ _ _
  have hR3 : u3.heap[w1.heap.size]? = some (rgO (.slice none 0 0) 0 0 0 0 0) := (hk3 _ (by have := HS.out; omega)).trans hR2
  have hb3 : Below w.heap.size w u3 := hB3 _ _ (Nat.le_refl _) (bsq HB.out HU2.out)
  obtain ⟨g, cc, rfl, hBX, hgB⟩ := Bx.of (r := ⟨C, pa, pb, ga, gb, sn⟩) hv3 (by have := HRT.out.n3; omega) hX3
  have hlen : C.length = n := HN.out
  simp only at hBX hgB
  rw [hlen] at hBX hu3 hX3
  rw [hlen]
  have HP : Hid (Calls Try.prog 69 #[.pointer (some ⟨w.heap.size, 0, none⟩)] u3 fun e w' => e = .returned (.tuple #[.int .u64 (getW ⟨C, pa, pb, ga, gb, sn⟩), .bool (getB ⟨C, pa, pb, ga, gb, sn⟩)]) ∧ Bx w.heap.size g n cc (getV ⟨C, pa, pb, ga, gb, sn⟩) w' ∧ Kq w.heap.size g u3 w') := get_any _ g n cc _ u3 hBX HRT.out
  have HG : Hid (w1.heap.size ≠ w.heap.size ∧ w1.heap.size ≠ g ∧ w.heap.size ≤ g ∧ u3.heap[w1.heap.size]? = some (rgO (.slice none 0 0) 0 0 0 0 0) ∧ Below w.heap.size w u3 ∧ w.heap.size ≤ u3.heap.size) := ⟨by have := HS.out; omega, by have := HS.out; have := HU.out.size; omega, by have := HS.out; have := HU.out.size; omega, hR3, hb3, hb3.size⟩
  obtain ⟨⟨hzx, a0, a1, a2, a3, a4, a5⟩, f0, f1, f2, f3, f4, f5⟩ := box6 hX2
  simp only at a0 a1 a2 a3 a4 a5
  have hgV : gtV ⟨C, pa, pb, ga, gb, sn⟩ = getV ⟨C, pa, pb, ga, gb, sn⟩ := by unfold gtV; rw [if_pos HK.out]
  have hgW : gtW ⟨C, pa, pb, ga, gb, sn⟩ = getW ⟨C, pa, pb, ga, gb, sn⟩ := by unfold gtW; rw [if_pos HK.out]
  have hgB : gtB ⟨C, pa, pb, ga, gb, sn⟩ = getB ⟨C, pa, pb, ga, gb, sn⟩ := by unfold gtB; rw [if_pos HK.out]
  rw [hgV, hgW, hgB, HK.out] at HZ
  generalize getV ⟨C, pa, pb, ga, gb, sn⟩ = q at HP HZ
  generalize getW ⟨C, pa, pb, ga, gb, sn⟩ = qw at HP HZ
  generalize getB ⟨C, pa, pb, ga, gb, sn⟩ = qb at HP HZ
  clear hgV hgW
  clear x0 x1 x2 x3 x4 x5 hv' hb2 hX2 hR2 hX3 hB3 hk3 hs3 hv3 hR3 hb3 hBX hgB
  go_wp2_with fail
  try rw [hu3]
  clear hu3 a0 a1 a2 a3 a4 a5 f0 f1 f2 f3 f4 f5
  refine HP.out.mono ?_
  rintro e u4 ⟨rfl, hBX4, hK4⟩
  have hR4 := hK4.keep HG.out.2.2.2.1 HG.out.1 HG.out.2.1
  have hb4 : Below w.heap.size w u4 := HG.out.2.2.2.2.1.trans (hK4.below (Nat.le_refl _) HG.out.2.2.1 HG.out.2.2.2.2.2)
  obtain ⟨qC, qpa, qpb, qga, qgb, qsn⟩ := q
  obtain ⟨hX5, hC5, hl5⟩ := hBX4
  simp only at hX5 hC5 hl5 HZ
  obtain ⟨uf, huf, hXf, hBf, _, _⟩ := put6 u4 w1.heap.size (.slice (some ⟨g, 0, none⟩) n cc) (.int .i64 qpa) (.int .i64 qpb) (.int .i64 qga) (.int .i64 qgb) (.int .i64 qsn) hR4
  have HE : Hid (Z (.returned (.tuple #[rgV (.slice (some ⟨g, 0, none⟩) n cc) qpa qpb qga qgb qsn, .int .u64 qw, .bool qb, .int .i64 0])) uf) := by
    refine HZ.out _ _ ⟨_, rfl, ?_, hBf _ _ (by have := HS.out; omega) hb4⟩
    rw [← huf]
    exact Ces.mono (own6 hC5 hR4 _ _ _ _ _ _) HG.out.2.2.1
  obtain ⟨⟨hzr, r0, r1, r2, r3, r4, r5⟩, f0, f1, f2, f3, f4, f5⟩ := box6 hR4
  obtain ⟨⟨hzx, a0, a1, a2, a3, a4, a5⟩, _⟩ := box6 hX5
  obtain ⟨⟨hzf, y0, y1, y2, y3, y4, y5⟩, _⟩ := box6 hXf
  clear hXf hBf hR4 hb4 hX5 hC5 hl5 hK4
  go_wp2
  try rw [huf]
  exact bodyPost_ret (v := .tuple #[rgV (.slice (some ⟨g, 0, none⟩) n cc) qpa qpb qga qgb qsn, .int .u64 qw, .bool qb, .int .i64 0]) (by simp [results, Try.results44, go_sem, hzf, y0, y1, y2, y3, y4, y5]) rfl HE.out
set_option maxHeartbeats 8000000 in
theorem Learn_any (v : Value) (r : Rg) (w : World) (hv : Rcs w v r.C) :
    Calls Try.prog 46 #[rgW v r] w fun e w' => ∃ v', e = .returned (.tuple #[rgW v' (lnV r), .int .i64 (chk r)]) ∧ Tel w v' (lnV r) w' := by
  obtain ⟨ad, c, rfl, hlc, hcm⟩ := hv.form
  obtain ⟨n, hn⟩ : ∃ n, r.C.length = n := ⟨_, rfl⟩
  obtain ⟨Z, hZ⟩ : ∃ Z : Ending → World → Prop, (fun e w' => ∃ v', e = .returned (.tuple #[rgW v' (lnV r), .int .i64 (chk r)]) ∧ Tel w v' (lnV r) w') = Z := ⟨_, rfl⟩
  rw [hn] at hv hlc ⊢
  rw [hZ]
  have HZ : Hid (∀ e w', (∃ v', e = .returned (.tuple #[rgW v' (lnV r), .int .i64 (chk r)]) ∧ Tel w v' (lnV r) w') → Z e w') := fun e w' h => by rw [← hZ]; exact h
  obtain ⟨k, hk⟩ : ∃ k, chk r = k := ⟨_, rfl⟩
  have HK : Hid (chk r = k) := hk
  obtain ⟨w1, hw1, hX1, hb1⟩ := named w (rgOf (.slice ad n c) r)
  obtain ⟨w2, hw2, hX2, hb2⟩ := named w1 (rgO (.slice none 0 0) 0 0 0 0 0)
  have hX12 := keep hX1 hb2
  obtain ⟨⟨hz, x0, x1, x2, x3, x4, x5⟩, _⟩ := box6 hX12
  have HB : Hid (Below w.heap.size w w2) := bsq hb1 hb2
  have HX : Hid (∀ u, Below w2.heap.size w2 u → u.heap[w.heap.size]? = some (rgOf (.slice ad n c) r) ∧ u.heap[w1.heap.size]? = some (rgO (.slice none 0 0) 0 0 0 0 0)) := fun u hu => ⟨keep hX12 hu, keep hX2 hu⟩
  have HS : Hid (w.heap.size < w1.heap.size ∧ w1.heap.size < w2.heap.size) := ⟨(Array.getElem?_eq_some_iff.1 hX1).1, (Array.getElem?_eq_some_iff.1 hX2).1⟩
  have HV : Hid (∀ u, Below w2.heap.size w2 u → Rcs u (.slice ad n c) r.C) := fun u hu => hv.below (bsq hb1 (bsq hb2 hu))
  have HC : Hid (Calls Try.prog 57 #[rgW (.slice ad n c) r] w2 fun e w' => e = .returned (.int .i64 k) ∧ Below w2.heap.size w2 w') := by
    have := check_any (.slice ad n c) r w2 (hv.below (bsq hb1 hb2))
    rw [hk] at this
    exact this
  have HN : Hid (r.C.length = n) := hn
  obtain ⟨C, pa, pb, ga, gb, sn⟩ := r
  simp only at x0 x1 x2 x3 x4 x5
  clear hv hn hX1 hX2 hb1 hb2 hX12 hk hZ
  go_enter Try.func46, Try.ntmps46
  go_wp2_with fail
  refine HC.out.mono ?_
  rintro e u ⟨rfl, hb⟩
  have HU : Hid (Below w2.heap.size w2 u) := hb
  obtain ⟨hXu, hRu⟩ := HX.out u hb
  clear x0 x1 x2 x3 x4 x5 hw1 hw2 hb
  by_cases h0 : ¬ k = 0
  · have e1 : (k != 0) = true := by simpa using h0
    obtain ⟨uf, huf, hXf, hBf, _, _⟩ := put6 u w1.heap.size (.slice none 0 0) (.int .i64 0) (.int .i64 0) (.int .i64 0) (.int .i64 0) (.int .i64 0) hRu
    have HE : Hid (Z (.returned (.tuple #[rgV (.slice none 0 0) 0 0 0 0 0, .int .i64 k])) uf) := by
      refine HZ.out _ _ ?_
      have h1 : ¬ chk ⟨C, pa, pb, ga, gb, sn⟩ = 0 := by rw [HK.out]; exact h0
      unfold lnV
      rw [if_neg h1, HK.out]
      exact ⟨_, rfl, Ces.nil _ _, hBf _ _ (by have := HS.out; omega) (bsq HB.out HU.out)⟩
    obtain ⟨⟨hzr, r0, r1, r2, r3, r4, r5⟩, f0, f1, f2, f3, f4, f5⟩ := box6 hRu
    obtain ⟨⟨hzf, y0, y1, y2, y3, y4, y5⟩, _⟩ := box6 hXf
    clear hXu hRu hXf hBf h0
    go_wp2
    try rw [huf]
    exact bodyPost_ret (v := .tuple #[rgV (.slice none 0 0) 0 0 0 0 0, .int .i64 k]) (by simp [results, Try.results46, go_sem, hzf, y0, y1, y2, y3, y4, y5]) rfl HE.out
  have h0 : k = 0 := Classical.not_not.1 h0
  subst h0
  have e1 : ((0 : Int) != 0) = false := rfl
  have hr := chk_ok.1 HK.out
  have HRT : Hid (Rt ⟨C, pa, pb, ga, gb, sn⟩) := hr
  have h64 : n ≤ 64 := by have := hr.n64; rw [HN.out] at this; exact this
  have HCP : Hid (Calls Try.prog 61 #[rgV (.slice ad n c) pa pb ga gb sn] u fun e w' => ∃ v', e = .returned (rgV v' pa pb ga gb sn) ∧ Ces w' u.heap.size v' C ∧ Below u.heap.size u w') := copied_any (.slice ad n c) C pa pb ga gb sn u (HV.out u HU.out) (by have : C.length = n := HN.out; omega)
  obtain ⟨⟨hzu, x0, x1, x2, x3, x4, x5⟩, _⟩ := box6 hXu
  clear hr hXu hRu
  simp only at x0 x1 x2 x3 x4 x5
  go_wp2_with fail
  refine HCP.out.mono ?_
  rintro e u2 ⟨v', rfl, hv', hb2⟩
  have HU2 : Hid (Below w2.heap.size w2 u2) := bsq HU.out hb2
  obtain ⟨hX2, hR2⟩ := HX.out u2 HU2.out
  obtain ⟨u3, hu3, hX3, hB3, hk3, hs3⟩ := put6 u2 w.heap.size v' (.int .i64 pa) (.int .i64 pb) (.int .i64 ga) (.int .i64 gb) (.int .i64 sn) hX2
  have hv3 : Ces u3 u.heap.size v' C := by rw [← hu3]; exact own6 hv' hX2 _ _ _ _ _ _
  have hR3 : u3.heap[w1.heap.size]? = some (rgO (.slice none 0 0) 0 0 0 0 0) := (hk3 _ (by have := HS.out; omega)).trans hR2
  have hb3 : Below w.heap.size w u3 := hB3 _ _ (Nat.le_refl _) (bsq HB.out HU2.out)
  obtain ⟨g, cc, rfl, hBX, hgB⟩ := Bx.of (r := ⟨C, pa, pb, ga, gb, sn⟩) hv3 (by have := HRT.out.n3; omega) hX3
  have hlen : C.length = n := HN.out
  simp only at hBX hgB
  rw [hlen] at hBX hu3 hX3
  rw [hlen]
  have HP : Hid (Calls Try.prog 70 #[.pointer (some ⟨w.heap.size, 0, none⟩)] u3 fun e w' => e = .returned (.tuple #[]) ∧ Bx w.heap.size g n cc (lrn ⟨C, pa, pb, ga, gb, sn⟩) w' ∧ Kq w.heap.size g u3 w') := learn_any _ g n cc _ u3 hBX
  have HG : Hid (w1.heap.size ≠ w.heap.size ∧ w1.heap.size ≠ g ∧ w.heap.size ≤ g ∧ u3.heap[w1.heap.size]? = some (rgO (.slice none 0 0) 0 0 0 0 0) ∧ Below w.heap.size w u3 ∧ w.heap.size ≤ u3.heap.size) := ⟨by have := HS.out; omega, by have := HS.out; have := HU.out.size; omega, by have := HS.out; have := HU.out.size; omega, hR3, hb3, hb3.size⟩
  obtain ⟨⟨hzx, a0, a1, a2, a3, a4, a5⟩, f0, f1, f2, f3, f4, f5⟩ := box6 hX2
  simp only at a0 a1 a2 a3 a4 a5
  have hlV : lnV ⟨C, pa, pb, ga, gb, sn⟩ = lrn ⟨C, pa, pb, ga, gb, sn⟩ := by unfold lnV; rw [if_pos HK.out]
  rw [hlV, HK.out] at HZ
  generalize lrn ⟨C, pa, pb, ga, gb, sn⟩ = q at HP HZ
  clear hlV
  clear x0 x1 x2 x3 x4 x5 hv' hb2 hX2 hR2 hX3 hB3 hk3 hs3 hv3 hR3 hb3 hBX hgB
  go_wp2_with fail
  try rw [hu3]
  clear hu3 a0 a1 a2 a3 a4 a5 f0 f1 f2 f3 f4 f5
  refine HP.out.mono ?_
  rintro e u4 ⟨rfl, hBX4, hK4⟩
  have hR4 := hK4.keep HG.out.2.2.2.1 HG.out.1 HG.out.2.1
  have hb4 : Below w.heap.size w u4 := HG.out.2.2.2.2.1.trans (hK4.below (Nat.le_refl _) HG.out.2.2.1 HG.out.2.2.2.2.2)
  obtain ⟨qC, qpa, qpb, qga, qgb, qsn⟩ := q
  obtain ⟨hX5, hC5, hl5⟩ := hBX4
  simp only at hX5 hC5 hl5 HZ
  obtain ⟨uf, huf, hXf, hBf, _, _⟩ := put6 u4 w1.heap.size (.slice (some ⟨g, 0, none⟩) n cc) (.int .i64 qpa) (.int .i64 qpb) (.int .i64 qga) (.int .i64 qgb) (.int .i64 qsn) hR4
  have HE : Hid (Z (.returned (.tuple #[rgV (.slice (some ⟨g, 0, none⟩) n cc) qpa qpb qga qgb qsn, .int .i64 0])) uf) := by
    refine HZ.out _ _ ⟨_, rfl, ?_, hBf _ _ (by have := HS.out; omega) hb4⟩
    rw [← huf]
    exact Ces.mono (own6 hC5 hR4 _ _ _ _ _ _) HG.out.2.2.1
  obtain ⟨⟨hzr, r0, r1, r2, r3, r4, r5⟩, f0, f1, f2, f3, f4, f5⟩ := box6 hR4
  obtain ⟨⟨hzx, a0, a1, a2, a3, a4, a5⟩, _⟩ := box6 hX5
  obtain ⟨⟨hzf, y0, y1, y2, y3, y4, y5⟩, _⟩ := box6 hXf
  clear hXf hBf hR4 hb4 hX5 hC5 hl5 hK4
  go_wp2
  try rw [huf]
  exact bodyPost_ret (v := .tuple #[rgV (.slice (some ⟨g, 0, none⟩) n cc) qpa qpb qga qgb qsn, .int .i64 0]) (by simp [results, Try.results46, go_sem, hzf, y0, y1, y2, y3, y4, y5]) rfl HE.out
end Go.Proofs.Ythjmcopknkemnaa.ring
