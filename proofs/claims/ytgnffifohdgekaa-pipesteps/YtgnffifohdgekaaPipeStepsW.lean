/- PipeSteps: whatever is handed in, New and Step answer what the document says. -/
import Derived.Test.YtgnffifohdgekaaPipU
import Derived.Test.YtgnffifohdgekaaPipL
namespace Go.Proofs.Ytgnffifohdgekaa.pipeSteps
open Go.RowKit Go.Proofs.Ytgnffifohdgekaa.pipe
set_option linter.unusedVariables false
set_option linter.unusedSimpArgs false
set_option maxRecDepth 100000

set_option maxHeartbeats 1000000 in
theorem walk (p : Pp) (vL vG : Value) (f : Int) (vT : Value) (T : List ByteArray) (wf : (Lit.int .i64 f).wf = true) (w : World) (hp : Rp w p vL vG) (hT : Rts w vT T) :
    Calls Try.prog 3 #[ppV p.s p.q vL vG, .int .i64 f, vT] w fun e w' => e = .returned (.bool true) ∧ Below w.heap.size w w' := by
  clear wf
  obtain ⟨w1, hw1, hX1, hb1⟩ := pp_named w p.s p.q vL vG
  have HST : Hid (Calls Try.prog 9 #[ppV p.s p.q vL vG, .int .i64 f] w1 fun e w' => ∃ qL qG, e = .returned (.tuple #[ppV (stP p f).s (stP p f).q qL qG, .int .i64 (stC p f)]) ∧ Rp w' (stP p f) qL qG ∧ Below w1.heap.size w1 w') := (step_any p vL vG f w1 (hp.below hb1).1 (hp.below hb1).2).mono fun e w' h => h.read
  have HRF : Hid (∀ u, Below w1.heap.size w1 u → Calls Try.prog 10 #[ppV p.s p.q vL vG, .int .i64 f] u fun e w' => ∃ qL qG, e = .returned (.tuple #[ppV (stP p f).s (stP p f).q qL qG, .int .i64 (stC p f)]) ∧ Rp w' (stP p f) qL qG ∧ Below u.heap.size u w') := fun u hu => refPipe_any p vL vG f u (hp.below (bsq hb1 hu)).1 (hp.below (bsq hb1 hu)).2
  have HNO : Hid (200 < T.length → ∀ a n c u, n = T.length → Calls Try.prog 11 #[.slice a n c] u fun e w' => e = .returned (.tuple #[ppV 0 0 (.slice none 0 0) (.slice none 0 0), .int .i64 2]) ∧ Below u.heap.size u w') := fun h a n c u hn => new_no a n c u (by omega)
  have HNW : Hid (T.length ≤ 200 → ∀ u, Below w1.heap.size w1 u → Calls Try.prog 11 #[vT] u fun e w' => ∃ a c, e = .returned (.tuple #[ppV 0 0 (.slice a T.length c) (.slice none 0 0), .int .i64 0]) ∧ Ow (fun g => u.heap.size ≤ g) w' (.slice a T.length c) T ∧ Below u.heap.size u w') := fun h u hu => new_ok vT T u (hT.below (bsq hb1 hu)) h
  have HP : Hid (∀ u, Below w1.heap.size w1 u → u.heap[w.heap.size]? = some (ppO p.s p.q vL vG) ∧ Below w.heap.size w u ∧ Rts u vT T) := fun u hu => ⟨keep hX1 hu, bsq hb1 hu, hT.below (bsq hb1 hu)⟩
  obtain ⟨a1, c1, hv1, _, _⟩ := hp.1.form
  obtain ⟨a2, c2, hv2, _, _⟩ := hp.2.form
  obtain ⟨ta, tc, hvT, htl, htm⟩ := hT.form
  obtain ⟨tn, htn⟩ : ∃ n, T.length = n := ⟨_, rfl⟩
  have HTN : Hid (T.length = tn) := htn
  rw [htn] at hvT htl
  generalize p.L.length = n1 at *
  generalize p.G.length = n2 at *
  subst hv1 hv2 hvT
  unfold maxLen at htm
  obtain ⟨⟨hz, x0, x1, x2, x3⟩, _⟩ := box4 hX1
  obtain ⟨r, hr⟩ : ∃ r, stP p f = r := ⟨_, rfl⟩
  obtain ⟨z, hzz⟩ : ∃ z, stC p f = z := ⟨_, rfl⟩
  rw [hr, hzz] at HST HRF
  clear hp hX1 hb1 htn hr hzz hT
  go_enter Try.func3, Try.ntmps3
  go_wp2_with fail
  refine HST.out.mono ?_
  rintro e u ⟨qL, qG, rfl, hR, hb⟩
  obtain ⟨u1, uf, hu1, huf, hY1, hYf, hbf⟩ := pp_laid u r.s r.q qL qG
  have HC := HRF.out uf (bsq hb hbf)
  have HC2 : Hid (Calls Try.prog 10 #[ppV p.s p.q (.slice a1 n1 c1) (.slice a2 n2 c2), .int .i64 f] uf fun e w' => ∃ qL qG, e = .returned (.tuple #[ppV r.s r.q qL qG, .int .i64 z]) ∧ Rp w' r qL qG ∧ Below uf.heap.size uf w') := HC
  have HQ : Hid (∀ v, Below uf.heap.size uf v → Rp v r qL qG ∧ v.heap[u.heap.size]? = some (ppO r.s r.q qL qG)) := fun v hv => ⟨hR.below (bsq hbf hv), keep hYf hv⟩
  have HBf : Hid (Below w1.heap.size w1 uf) := bsq hb hbf
  obtain ⟨b1, d1, rfl, _, _⟩ := hR.1.form
  obtain ⟨b2, d2, rfl, _, _⟩ := hR.2.form
  obtain ⟨⟨hz1, y0, y1, y2, y3⟩, g0, g1, g2, g3⟩ := box4 hY1
  obtain ⟨⟨_, i0, i1, i2, i3⟩, _⟩ := box4 (HP.out uf HBf.out).1
  generalize r.L.length = m1 at *
  generalize r.G.length = m2 at *
  clear hR hb hY1 hYf hbf HST HRF HC
  go_wp2_with fail
  try rw [huf]
  refine HC2.out.mono ?_
  rintro e v ⟨tL, tG, rfl, hS, hb2⟩
  obtain ⟨v1, vf, hv1, hvf, hZ1, hZf, hbv⟩ := pp_laid v r.s r.q tL tG
  have HS : Hid (∀ x, Below vf.heap.size vf x → Rp x r tL tG ∧ x.heap[v.heap.size]? = some (ppO r.s r.q tL tG) ∧ Rp x r (.slice b1 m1 d1) (.slice b2 m2 d2) ∧ x.heap[u.heap.size]? = some (ppO r.s r.q (.slice b1 m1 d1) (.slice b2 m2 d2)) ∧ Below w1.heap.size w1 x) := fun x hx => ⟨hS.below (bsq hbv hx), keep hZf hx, (HQ.out x (bsq hb2 (bsq hbv hx))).1, (HQ.out x (bsq hb2 (bsq hbv hx))).2, bsq HBf.out (bsq hb2 (bsq hbv hx))⟩
  obtain ⟨b3, d3, rfl, _, _⟩ := hS.1.form
  obtain ⟨b4, d4, rfl, _, _⟩ := hS.2.form
  obtain ⟨⟨_, x0, x1, x2, x3⟩, f0, f1, f2, f3⟩ := box4 hZ1
  generalize r.L.length = m3 at *
  generalize r.G.length = m4 at *
  clear hS hb2 hZ1 hZf hbv HQ HC2 HBf hu1 huf y0 y1 y2 y3 g0 g1 g2 g3 i0 i1 i2 i3 hw1
  by_cases hl : 200 < tn
  · have HN : Hid (Calls Try.prog 11 #[.slice ta tn tc] vf fun e w' => e = .returned (.tuple #[ppV 0 0 (.slice none 0 0) (.slice none 0 0), .int .i64 2]) ∧ Below vf.heap.size vf w') := HNO.out (by rw [HTN.out]; exact hl) ta tn tc vf HTN.out.symm
    have e1 : decide ((tn : Int) > 200) = true := by rw [decide_eq_true_eq]; omega
    clear HNO HNW hl
    go_wp2_with fail
    try rw [hvf]
    refine HN.out.mono ?_
    rintro e x ⟨rfl, hbx⟩
    obtain ⟨x1', xf, hx1, hxf, hW1, hWf, hbw⟩ := pp_laid x 0 0 (.slice none 0 0) (.slice none 0 0)
    obtain ⟨k1, k2, k3, k4, k5⟩ := HS.out xf (bsq hbx hbw)
    obtain ⟨⟨_, i0, i1, i2, i3⟩, _⟩ := box4 k2
    obtain ⟨⟨_, j0, j1, j2, j3⟩, _⟩ := box4 k4
    obtain ⟨⟨_, y0, y1, y2, y3⟩, g0, g1, g2, g3⟩ := box4 hW1
    have HSM : Hid (Calls Try.prog 12 #[ppV r.s r.q (.slice b1 m1 d1) (.slice b2 m2 d2), ppV r.s r.q (.slice b3 m3 d3) (.slice b4 m4 d4)] xf fun e w' => e = .returned (.bool true) ∧ Below xf.heap.size xf w') := by
      have := samePipe_any r r _ _ _ _ xf k3 k1
      rw [samB_same] at this
      exact this
    have HW : Hid (xf.heap[x.heap.size]? = some (ppO 0 0 (.slice none 0 0) (.slice none 0 0)) ∧ Below w.heap.size w xf) := ⟨hWf, (HP.out xf k5).2.1⟩
    clear hbx hW1 hWf hbw k1 k2 k3 k4 k5 HN HS HP hv1 hvf x0 x1 x2 x3 f0 f1 f2 f3
    go_wp2_with fail
    try rw [hxf]
    refine HSM.out.mono ?_
    rintro e y ⟨rfl, hby⟩
    have HW2 : Hid (Below w.heap.size w y) := bsq HW.out.2 hby
    obtain ⟨⟨_, q0, q1, q2, q3⟩, _⟩ := box4 (keep HW.out.1 hby)
    have HSZ : Hid (Calls Try.prog 12 #[ppV 0 0 (.slice none 0 0) (.slice none 0 0), ppV 0 0 (.slice none 0 0) (.slice none 0 0)] y fun e w' => e = .returned (.bool true) ∧ Below y.heap.size y w') := by
      have := samePipe_any zP zP _ _ _ _ y (Rp.nil y) (Rp.nil y)
      rw [samB_same] at this
      exact this
    clear hby HW HSM hx1 hxf y0 y1 y2 y3 g0 g1 g2 g3 i0 i1 i2 i3 j0 j1 j2 j3
    go_wp2_with fail
    refine HSZ.out.mono ?_
    rintro e y2 ⟨rfl, hby⟩
    have HB : Hid (Below w.heap.size w y2) := bsq HW2.out hby
    clear hby HW2 HSZ
    go_wp2
    go_ret
    exact ⟨by simp, HB.out⟩
  · have HN : Hid (Calls Try.prog 11 #[.slice ta tn tc] vf fun e w' => ∃ a c, e = .returned (.tuple #[ppV 0 0 (.slice a tn c) (.slice none 0 0), .int .i64 0]) ∧ Rts w' (.slice a tn c) T ∧ Below vf.heap.size vf w') := by
      refine (HNW.out (by rw [HTN.out]; omega) vf (HS.out vf (Below.refl _ _)).2.2.2.2).mono ?_
      rintro e w' ⟨a, c, h1, h2, h3⟩
      rw [HTN.out] at h1 h2
      exact ⟨a, c, h1, h2.rts, h3⟩
    have e1 : decide ((tn : Int) > 200) = false := by rw [decide_eq_false_iff_not]; omega
    clear HNO HNW hl
    go_wp2_with fail
    try rw [hvf]
    refine HN.out.mono ?_
    rintro e x ⟨na, nc, rfl, hRn, hbx⟩
    obtain ⟨x1', xf, hx1, hxf, hW1, hWf, hbw⟩ := pp_laid x 0 0 (.slice na tn nc) (.slice none 0 0)
    obtain ⟨k1, k2, k3, k4, k5⟩ := HS.out xf (bsq hbx hbw)
    obtain ⟨⟨_, i0, i1, i2, i3⟩, _⟩ := box4 k2
    obtain ⟨⟨_, j0, j1, j2, j3⟩, _⟩ := box4 k4
    obtain ⟨⟨_, y0, y1, y2, y3⟩, g0, g1, g2, g3⟩ := box4 hW1
    have HSM : Hid (Calls Try.prog 12 #[ppV r.s r.q (.slice b1 m1 d1) (.slice b2 m2 d2), ppV r.s r.q (.slice b3 m3 d3) (.slice b4 m4 d4)] xf fun e w' => e = .returned (.bool true) ∧ Below xf.heap.size xf w') := by
      have := samePipe_any r r _ _ _ _ xf k3 k1
      rw [samB_same] at this
      exact this
    have HW : Hid (∀ y, Below xf.heap.size xf y → y.heap[x.heap.size]? = some (ppO 0 0 (.slice na tn nc) (.slice none 0 0)) ∧ Below w.heap.size w y ∧ Rts y (.slice na tn nc) T ∧ Rts y (.slice ta tn tc) T) := fun y hy => ⟨keep hWf hy, bsq (HP.out xf k5).2.1 hy, hRn.below (bsq hbw hy), (HP.out xf k5).2.2.below hy⟩
    clear hbx hW1 hWf hbw k1 k2 k3 k4 k5 HN HS HP hv1 hvf x0 x1 x2 x3 f0 f1 f2 f3 hRn
    go_wp2_with fail
    try rw [hxf]
    refine HSM.out.mono ?_
    rintro e y ⟨rfl, hby⟩
    obtain ⟨s1, s2, s3, s4⟩ := HW.out y hby
    obtain ⟨⟨_, q0, q1, q2, q3⟩, _⟩ := box4 s1
    have HEQ : Hid (Calls Try.prog 13 #[.slice na tn nc, .slice ta tn tc] y fun e w' => e = .returned (.bool true) ∧ Below y.heap.size y w') := by
      have := equalT_any (.slice na tn nc) (.slice ta tn tc) T T y s3 s4
      rw [decide_eq_true rfl] at this
      exact this
    have HBy : Hid (Below xf.heap.size xf y) := hby
    clear hby HSM hx1 hxf y0 y1 y2 y3 g0 g1 g2 g3 i0 i1 i2 i3 j0 j1 j2 j3 s1 s2 s3 s4
    go_wp2_with fail
    refine HEQ.out.mono ?_
    rintro e y2 ⟨rfl, hby⟩
    obtain ⟨s1, s2, s3, s4⟩ := HW.out y2 (bsq HBy.out hby)
    obtain ⟨⟨_, o0, o1, o2, o3⟩, _⟩ := box4 s1
    have HSZ : Hid (Calls Try.prog 12 #[ppV 0 0 (.slice na tn nc) (.slice none 0 0), ppV 0 0 (.slice na tn nc) (.slice none 0 0)] y2 fun e w' => e = .returned (.bool true) ∧ Below y2.heap.size y2 w') := by
      have := samePipe_any ⟨0, 0, T, []⟩ ⟨0, 0, T, []⟩ _ _ _ _ y2 ⟨s3, Rts.nil y2⟩ ⟨s3, Rts.nil y2⟩
      rw [samB_same] at this
      exact this
    have HW2 : Hid (Below w.heap.size w y2) := s2
    clear hby HW HEQ HBy q0 q1 q2 q3 s1 s2 s3 s4
    go_wp2_with fail
    refine HSZ.out.mono ?_
    rintro e y3 ⟨rfl, hby⟩
    have HB : Hid (Below w.heap.size w y3) := bsq HW2.out hby
    clear hby HW2 HSZ
    go_wp2
    go_ret
    exact ⟨by simp, HB.out⟩
end Go.Proofs.Ytgnffifohdgekaa.pipeSteps
