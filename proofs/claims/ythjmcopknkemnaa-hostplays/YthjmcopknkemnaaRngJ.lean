/- ring: what Put, Get and Learn answer. -/
import Derived.Test.YthjmcopknkemnaaRngI
namespace Go.Proofs.Ythjmcopknkemnaa.ring
open Go Go.RowKit
set_option linter.unusedVariables false
set_option linter.unusedSimpArgs false
set_option maxRecDepth 100000

abbrev rgW (v : Value) (r : Rg) : Value := rgV v r.pa r.pb r.ga r.gb r.sn
/-- a ring that is told in memory of the call's own -/
def Tel (w : World) (v : Value) (r : Rg) (w' : World) : Prop := Ces w' w.heap.size v r.C ∧ Below w.heap.size w w'
theorem own6 {u : World} {R : Nat} {B : Nat} {v : Value} {L : List Ce} (h : Ces u B v L) {cs : Array Value} (hX : u.heap[R]? = some (.cells cs 35)) (x0 x1 x2 x3 x4 x5 : Value) :
    Ces ((((((u.setCell ⟨R, 0, none⟩ x0).setCell ⟨R, 1, none⟩ x1).setCell ⟨R, 2, none⟩ x2).setCell ⟨R, 3, none⟩ x3).setCell ⟨R, 4, none⟩ x4).setCell ⟨R, 5, none⟩ x5) B v L := by
  have hne := box_ne h hX (by decide)
  exact ownsRow_setCell_other (ownsRow_setCell_other (ownsRow_setCell_other (ownsRow_setCell_other (ownsRow_setCell_other (ownsRow_setCell_other h hne _) hne _) hne _) hne _) hne _) hne _
/-- a ring that was copied into the box X -/
theorem Bx.of {u : World} {X B : Nat} {v : Value} {r : Rg} (h : Ces u B v r.C) (hn : 0 < r.C.length) (hX : u.heap[X]? = some (rgOf v r)) : ∃ g c, v = .slice (some ⟨g, 0, none⟩) r.C.length c ∧ Bx X g r.C.length c r u ∧ B ≤ g := by
  have h' := h
  rcases h.2 with ⟨rfl, h0⟩ | ⟨g, cap, cur, rfl, hB, hg, hnc, hcm, hs, ht⟩
  · omega
  · exact ⟨g, cap, rfl, ⟨hX, ⟨h'.1, .inr ⟨g, cap, cur, rfl, Nat.le_refl _, hg, hnc, hcm, hs, ht⟩⟩, rfl⟩, hB⟩
set_option maxHeartbeats 8000000 in
theorem Put_any (v : Value) (r : Rg) (x : Int) (w : World) (hv : Rcs w v r.C) :
    Calls Try.prog 37 #[rgW v r, .int .u64 x] w fun e w' => ∃ v', e = .returned (.tuple #[rgW v' (ptV r x), .int .i64 (ptC r)]) ∧ Tel w v' (ptV r x) w' := by
  obtain ⟨ad, c, rfl, hlc, hcm⟩ := hv.form
  obtain ⟨n, hn⟩ : ∃ n, r.C.length = n := ⟨_, rfl⟩
  obtain ⟨Z, hZ⟩ : ∃ Z : Ending → World → Prop, (fun e w' => ∃ v', e = .returned (.tuple #[rgW v' (ptV r x), .int .i64 (ptC r)]) ∧ Tel w v' (ptV r x) w') = Z := ⟨_, rfl⟩
  rw [hn] at hv hlc ⊢
  rw [hZ]
  have HZ : Hid (∀ e w', (∃ v', e = .returned (.tuple #[rgW v' (ptV r x), .int .i64 (ptC r)]) ∧ Tel w v' (ptV r x) w') → Z e w') := fun e w' h => by rw [← hZ]; exact h
  obtain ⟨k, hk⟩ : ∃ k, chk r = k := ⟨_, rfl⟩
  have HK : Hid (chk r = k) := hk
  obtain ⟨w1, hw1, hX1, hb1⟩ := named w (rgOf (.slice ad n c) r)
  obtain ⟨w2, hw2, hX2, hb2⟩ := named w1 (rgO (.slice none 0 0) 0 0 0 0 0)
  have hX12 := keep hX1 hb2
  obtain ⟨⟨hz, x0, x1, x2, x3, x4, x5⟩, _⟩ := box6 hX12
  have HB : Hid (Below w.heap.size w w2) := bsq hb1 hb2
  have HX : Hid (∀ u, Below w2.heap.size w2 u → u.heap[w.heap.size]? = some (rgOf (.slice ad n c) r) ∧ u.heap[w1.heap.size]? = some (rgO (.slice none 0 0) 0 0 0 0 0)) := fun u hu => ⟨keep hX12 hu, keep hX2 hu⟩
  have HS : Hid (w.heap.size < w1.heap.size ∧ w1.heap.size < w2.heap.size) := ⟨(Array.getElem?_eq_some_iff.1 hX1).1, (Array.getElem?_eq_some_iff.1 hX2).1⟩
  have HV : Hid (∀ u, Below w2.heap.size w2 u → Rcs u (.slice ad n c) r.C) := fun u hu => hv.below (bsq hb1 (bsq hb2 hu))
  have HC : Hid (Calls Try.prog 57 #[rgW (.slice ad n c) r] w2 fun e w' => e = .returned (.int .i64 k) ∧ Below w2.heap.size w2 w') := by
    have := check_any (.slice ad n c) r w2 (hv.below (bsq hb1 hb2))
    rw [hk] at this
    exact this
  have HN : Hid (r.C.length = n) := hn
  obtain ⟨C, pa, pb, ga, gb, sn⟩ := r
  simp only at x0 x1 x2 x3 x4 x5
  clear hv hn hX1 hX2 hb1 hb2 hX12 hk hZ
  go_enter Try.func37, Try.ntmps37
  go_wp2_with fail
  refine HC.out.mono ?_
  rintro e u ⟨rfl, hb⟩
  have HU : Hid (Below w2.heap.size w2 u) := hb
  obtain ⟨hXu, hRu⟩ := HX.out u hb
  clear x0 x1 x2 x3 x4 x5 hw1 hw2 hb
  by_cases h0 : ¬ k = 0
  · have e1 : (k != 0) = true := by simpa using h0
    obtain ⟨uf, huf, hXf, hBf, _, _⟩ := put6 u w1.heap.size (.slice none 0 0) (.int .i64 0) (.int .i64 0) (.int .i64 0) (.int .i64 0) (.int .i64 0) hRu
    have HE : Hid (Z (.returned (.tuple #[rgV (.slice none 0 0) 0 0 0 0 0, .int .i64 k])) uf) := by
      refine HZ.out _ _ ?_
      have h1 : ¬ chk ⟨C, pa, pb, ga, gb, sn⟩ = 0 := by rw [HK.out]; exact h0
      unfold ptV ptC
      rw [if_neg h1, if_neg h1, HK.out]
      exact ⟨_, rfl, Ces.nil _ _, hBf _ _ (by have := HS.out; omega) (bsq HB.out HU.out)⟩
    obtain ⟨⟨hzr, r0, r1, r2, r3, r4, r5⟩, f0, f1, f2, f3, f4, f5⟩ := box6 hRu
    obtain ⟨⟨hzf, y0, y1, y2, y3, y4, y5⟩, _⟩ := box6 hXf
    clear hXu hRu hXf hBf h0
    go_wp2
    try rw [huf]
    exact bodyPost_ret (v := .tuple #[rgV (.slice none 0 0) 0 0 0 0 0, .int .i64 k]) (by simp [results, Try.results37, go_sem, hzf, y0, y1, y2, y3, y4, y5]) rfl HE.out
  have h0 : k = 0 := Classical.not_not.1 h0
  subst h0
  have e1 : ((0 : Int) != 0) = false := rfl
  have hr := chk_ok.1 HK.out
  have HRT : Hid (Rt ⟨C, pa, pb, ga, gb, sn⟩) := hr
  have h64 : n ≤ 64 := by have := hr.n64; rw [HN.out] at this; exact this
  have HCP : Hid (Calls Try.prog 61 #[rgV (.slice ad n c) pa pb ga gb sn] u fun e w' => ∃ v', e = .returned (rgV v' pa pb ga gb sn) ∧ Ces w' u.heap.size v' C ∧ Below u.heap.size u w') := copied_any (.slice ad n c) C pa pb ga gb sn u (HV.out u HU.out) (by have : C.length = n := HN.out; omega)
  obtain ⟨⟨hzu, x0, x1, x2, x3, x4, x5⟩, _⟩ := box6 hXu
  clear hr hXu hRu
  simp only at x0 x1 x2 x3 x4 x5
  go_wp2_with fail
  refine HCP.out.mono ?_
  rintro e u2 ⟨v', rfl, hv', hb2⟩
  have HU2 : Hid (Below w2.heap.size w2 u2) := bsq HU.out hb2
  obtain ⟨hX2, hR2⟩ := HX.out u2 HU2.out
  obtain ⟨u3, hu3, hX3, hB3, hk3, hs3⟩ := put6 u2 w.heap.size v' (.int .i64 pa) (.int .i64 pb) (.int .i64 ga) (.int .i64 gb) (.int .i64 sn) hX2
  have hv3 : Ces u3 u.heap.size v' C := by rw [← hu3]; exact own6 hv' hX2 _ _ _ _ _ _
  have hR3 : u3.heap[w1.heap.size]? = some (rgO (.slice none 0 0) 0 0 0 0 0) := (hk3 _ (by have := HS.out; omega)).trans hR2
  have hb3 : Below w.heap.size w u3 := hB3 _ _ (Nat.le_refl _) (bsq HB.out HU2.out)
  obtain ⟨g, cc, rfl, hBX, hgB⟩ := Bx.of (r := ⟨C, pa, pb, ga, gb, sn⟩) hv3 (by have := HRT.out.n3; omega) hX3
  have hlen : C.length = n := HN.out
  simp only at hBX hgB
  rw [hlen] at hBX hu3 hX3
  rw [hlen]
  have HP : Hid (Calls Try.prog 62 #[.pointer (some ⟨w.heap.size, 0, none⟩), .int .u64 x] u3 fun e w' => e = .returned (.bool (putB ⟨C, pa, pb, ga, gb, sn⟩)) ∧ Bx w.heap.size g n cc (if putB ⟨C, pa, pb, ga, gb, sn⟩ = true then putV ⟨C, pa, pb, ga, gb, sn⟩ x else ⟨C, pa, pb, ga, gb, sn⟩) w' ∧ Kq w.heap.size g u3 w') := put_any _ g n cc _ x u3 hBX HRT.out
  have HG : Hid (w1.heap.size ≠ w.heap.size ∧ w1.heap.size ≠ g ∧ w.heap.size ≤ g ∧ u3.heap[w1.heap.size]? = some (rgO (.slice none 0 0) 0 0 0 0 0) ∧ Below w.heap.size w u3 ∧ w.heap.size ≤ u3.heap.size) := ⟨by have := HS.out; omega, by have := HS.out; have := HU.out.size; omega, by have := HS.out; have := HU.out.size; omega, hR3, hb3, hb3.size⟩
  obtain ⟨⟨hzx, a0, a1, a2, a3, a4, a5⟩, f0, f1, f2, f3, f4, f5⟩ := box6 hX2
  simp only at a0 a1 a2 a3 a4 a5
  obtain ⟨z, hz'⟩ : ∃ z, putB ⟨C, pa, pb, ga, gb, sn⟩ = z := ⟨_, rfl⟩
  have HPB : Hid (putB ⟨C, pa, pb, ga, gb, sn⟩ = z) := hz'
  rw [hz'] at HP
  clear x0 x1 x2 x3 x4 x5 hv' hb2 hX2 hR2 hX3 hB3 hk3 hs3 hv3 hR3 hb3 hBX hgB hz'
  go_wp2_with fail
  try rw [hu3]
  clear hu3 a0 a1 a2 a3 a4 a5 f0 f1 f2 f3 f4 f5
  refine HP.out.mono ?_
  rintro e u4 ⟨rfl, hBX4, hK4⟩
  have hR4 := hK4.keep HG.out.2.2.2.1 HG.out.1 HG.out.2.1
  have hb4 : Below w.heap.size w u4 := HG.out.2.2.2.2.1.trans (hK4.below (Nat.le_refl _) HG.out.2.2.1 HG.out.2.2.2.2.2)
  cases z
  · obtain ⟨uf, huf, hXf, hBf, _, _⟩ := put6 u4 w1.heap.size (.slice none 0 0) (.int .i64 0) (.int .i64 0) (.int .i64 0) (.int .i64 0) (.int .i64 0) hR4
    have HE : Hid (Z (.returned (.tuple #[rgV (.slice none 0 0) 0 0 0 0 0, .int .i64 11])) uf) := by
      refine HZ.out _ _ ?_
      unfold ptV ptC
      rw [if_pos HK.out, if_pos HK.out, HPB.out]
      exact ⟨_, rfl, Ces.nil _ _, hBf _ _ (by have := HS.out; omega) hb4⟩
    obtain ⟨⟨hzr, r0, r1, r2, r3, r4, r5⟩, f0, f1, f2, f3, f4, f5⟩ := box6 hR4
    obtain ⟨⟨hzf, y0, y1, y2, y3, y4, y5⟩, _⟩ := box6 hXf
    clear hXf hBf hR4 hb4 hBX4 hK4
    go_wp2
    try rw [huf]
    exact bodyPost_ret (v := .tuple #[rgV (.slice none 0 0) 0 0 0 0 0, .int .i64 11]) (by simp [results, Try.results37, go_sem, hzf, y0, y1, y2, y3, y4, y5]) rfl HE.out
  · have hBX4 : Bx w.heap.size g n cc (putV ⟨C, pa, pb, ga, gb, sn⟩ x) u4 := hBX4
    have hptV : ptV ⟨C, pa, pb, ga, gb, sn⟩ x = putV ⟨C, pa, pb, ga, gb, sn⟩ x := by unfold ptV; rw [if_pos HK.out, HPB.out]; rfl
    have hptC : ptC ⟨C, pa, pb, ga, gb, sn⟩ = 0 := by unfold ptC; rw [if_pos HK.out, HPB.out]; rfl
    rw [hptV, hptC] at HZ
    generalize putV ⟨C, pa, pb, ga, gb, sn⟩ x = q at hBX4 HZ
    obtain ⟨qC, qpa, qpb, qga, qgb, qsn⟩ := q
    obtain ⟨hX5, hC5, hl5⟩ := hBX4
    simp only at hX5 hC5 hl5 HZ
    obtain ⟨uf, huf, hXf, hBf, _, _⟩ := put6 u4 w1.heap.size (.slice (some ⟨g, 0, none⟩) n cc) (.int .i64 qpa) (.int .i64 qpb) (.int .i64 qga) (.int .i64 qgb) (.int .i64 qsn) hR4
    have HE : Hid (Z (.returned (.tuple #[rgV (.slice (some ⟨g, 0, none⟩) n cc) qpa qpb qga qgb qsn, .int .i64 0])) uf) := by
      refine HZ.out _ _ ⟨_, rfl, ?_, hBf _ _ (by have := HS.out; omega) hb4⟩
      rw [← huf]
      exact Ces.mono (own6 hC5 hR4 _ _ _ _ _ _) HG.out.2.2.1
    obtain ⟨⟨hzr, r0, r1, r2, r3, r4, r5⟩, f0, f1, f2, f3, f4, f5⟩ := box6 hR4
    obtain ⟨⟨hzx, a0, a1, a2, a3, a4, a5⟩, _⟩ := box6 hX5
    obtain ⟨⟨hzf, y0, y1, y2, y3, y4, y5⟩, _⟩ := box6 hXf
    clear hXf hBf hR4 hb4 hX5 hC5 hl5 hK4
    go_wp2
    try rw [huf]
    exact bodyPost_ret (v := .tuple #[rgV (.slice (some ⟨g, 0, none⟩) n cc) qpa qpb qga qgb qsn, .int .i64 0]) (by simp [results, Try.results37, go_sem, hzf, y0, y1, y2, y3, y4, y5]) rfl HE.out
end Go.Proofs.Ythjmcopknkemnaa.ring
