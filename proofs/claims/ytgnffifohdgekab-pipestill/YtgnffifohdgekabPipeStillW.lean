/- PipeStill: a try that is lost, or that no one has time for, leaves all as it was; so does any where nothing is left. -/
import Derived.Test.YtgnffifohdgekabPipL
namespace Go.Proofs.Ytgnffifohdgekab.pipeStill
open Go.RowKit Go.Proofs.Ytgnffifohdgekab.pipe
set_option linter.unusedVariables false
set_option linter.unusedSimpArgs false
set_option maxRecDepth 100000

theorem st_still {p : Pp} {f : Int} (h0 : stC p f = 0) (h : ¬ (0 < p.L.length ∧ (f = 1 ∨ f = 3))) : stP p f = p := by
  unfold stP
  rw [if_pos h0]
  by_cases hl : p.L = []
  · exact send_none f hl
  · have : 0 < p.L.length := List.length_pos_iff.2 hl
    exact send_still (by omega) (by omega)
set_option maxHeartbeats 4000000 in
theorem walk (p : Pp) (vL vG : Value) (f : Int) (wf : (Lit.int .i64 f).wf = true) (w : World) (hp : Rp w p vL vG) :
    Calls Try.prog 4 #[ppV p.s p.q vL vG, .int .i64 f] w fun e w' => e = .returned (.bool true) ∧ Below w.heap.size w w' := by
  clear wf
  obtain ⟨w1, hw1, hX1, hb1⟩ := pp_named w p.s p.q vL vG
  have HST : Hid (Calls Try.prog 12 #[ppV p.s p.q vL vG, .int .i64 f] w1 fun e w' => ∃ qL qG, e = .returned (.tuple #[ppV (stP p f).s (stP p f).q qL qG, .int .i64 (stC p f)]) ∧ Rp w' (stP p f) qL qG ∧ Below w1.heap.size w1 w') := (step_any p vL vG f w1 (hp.below hb1).1 (hp.below hb1).2).mono fun e w' h => h.read
  have HLI : Hid (∀ u, Calls Try.prog 11 #[] u fun e w' => e = .returned (.bool true) ∧ Below u.heap.size u w') := lives_any
  have HP : Hid (∀ u, Below w1.heap.size w1 u → Rp u p vL vG ∧ u.heap[w.heap.size]? = some (ppO p.s p.q vL vG) ∧ Below w.heap.size w u) := fun u hu => ⟨hp.below (bsq hb1 hu), keep hX1 hu, bsq hb1 hu⟩
  obtain ⟨a1, c1, hv1, _, _⟩ := hp.1.form
  obtain ⟨a2, c2, hv2, _, _⟩ := hp.2.form
  obtain ⟨n1, hn1⟩ : ∃ n, p.L.length = n := ⟨_, rfl⟩
  obtain ⟨n2, hn2⟩ : ∃ n, p.G.length = n := ⟨_, rfl⟩
  rw [hn1] at hv1
  rw [hn2] at hv2
  have HN1 : Hid (p.L.length = n1) := hn1
  subst hv1 hv2
  obtain ⟨⟨hz, x0, x1, x2, x3⟩, _⟩ := box4 hX1
  clear hp hX1 hb1 hn1 hn2
  go_enter Try.func4, Try.ntmps4
  go_wp2_with fail
  refine HST.out.mono ?_
  rintro e u ⟨qL, qG, rfl, hR, hb⟩
  obtain ⟨u1, uf, hu1, huf, hY1, hYf, hbf⟩ := pp_laid u (stP p f).s (stP p f).q qL qG
  have HQ : Hid (∀ v, Below uf.heap.size uf v → Rp v (stP p f) qL qG ∧ v.heap[u.heap.size]? = some (ppO (stP p f).s (stP p f).q qL qG)) := fun v hv => ⟨hR.below (bsq hbf hv), keep hYf hv⟩
  have HBf : Hid (Below w1.heap.size w1 uf) := bsq hb hbf
  obtain ⟨b1, d1, rfl, _, _⟩ := hR.1.form
  obtain ⟨b2, d2, rfl, _, _⟩ := hR.2.form
  obtain ⟨⟨hz1, y0, y1, y2, y3⟩, g0, g1, g2, g3⟩ := box4 hY1
  generalize (stP p f).L.length = m1 at *
  generalize (stP p f).G.length = m2 at *
  obtain ⟨s', hs'⟩ : ∃ s, (stP p f).s = s := ⟨_, rfl⟩
  obtain ⟨q', hq'⟩ : ∃ s, (stP p f).q = s := ⟨_, rfl⟩
  have HSQ : Hid (s' = (stP p f).s ∧ q' = (stP p f).q) := ⟨hs'.symm, hq'.symm⟩
  rw [hs', hq'] at HQ huf ⊢
  clear hR hb hY1 hYf hbf HST hs' hq'
  obtain ⟨z, hzz⟩ : ∃ z, stC p f = z := ⟨_, rfl⟩
  have HZ : Hid (stC p f = z) := hzz
  rw [hzz]
  clear hzz
  go_wp2_with fail
  try rw [huf]
  refine (HLI.out _).mono ?_
  rintro e u3 ⟨rfl, hb3⟩
  have HB3 : Hid (Below uf.heap.size uf u3) := hb3
  obtain ⟨h1, h2, h3⟩ := HP.out u3 (bsq HBf.out hb3)
  obtain ⟨⟨hz3, i0, i1, i2, i3⟩, _⟩ := box4 h2
  clear hb3 h1 h2 h3 x0 x1 x2 x3 y0 y1 y2 y3 g0 g1 g2 g3 huf hu1 hw1
  by_cases hz0 : ¬ z = 0
  · have e0 : (z != 0) = true := by simpa using hz0
    clear hz0 HQ HSQ
    go_wp2_with fail
    refine (HLI.out _).mono ?_
    rintro e u4 ⟨rfl, hb4⟩
    have HB : Hid (Below w.heap.size w u4) := (HP.out u4 (bsq HBf.out (bsq HB3.out hb4))).2.2
    clear hb4 HP HBf HB3
    go_wp2
    go_ret
    exact ⟨rfl, HB.out⟩
  have hz0 : z = 0 := Classical.not_not.1 hz0
  subst hz0
  by_cases hc : 0 < n1 ∧ (f = 1 ∨ f = 3)
  · have e1 : decide ((n1 : Int) > 0) = true := by rw [decide_eq_true_eq]; omega
    have hn := hc.1
    have hcc := hc.2
    clear hc HQ HSQ
    rcases hcc with rfl | rfl
    all_goals
      (go_wp2_with fail
       refine (HLI.out _).mono ?_
       rintro e u4 ⟨rfl, hb4⟩
       have HB : Hid (Below w.heap.size w u4) := (HP.out u4 (bsq HBf.out (bsq HB3.out hb4))).2.2
       clear hb4 HP HBf HB3
       go_wp2
       go_ret
       exact ⟨rfl, HB.out⟩)
  · have hst := st_still HZ.out (by rw [HN1.out]; exact hc)
    rw [hst] at HQ HSQ
    obtain ⟨hR3, hq3⟩ := HQ.out u3 HB3.out
    obtain ⟨⟨_, j0, j1, j2, j3⟩, _⟩ := box4 hq3
    obtain ⟨rfl, rfl⟩ := HSQ.out
    have HSM : Hid (Calls Try.prog 13 #[ppV p.s p.q (.slice a1 n1 c1) (.slice a2 n2 c2), ppV p.s p.q (.slice b1 m1 d1) (.slice b2 m2 d2)] u3 fun e w' => e = .returned (.bool true) ∧ Below u3.heap.size u3 w') := by
      have := samePipe_any p p _ _ _ _ u3 (HP.out u3 (bsq HBf.out HB3.out)).1 hR3
      rw [samB_same] at this
      exact this
    clear hR3 hq3 HQ HSQ HZ hst
    by_cases hn : ¬ 0 < n1
    · have e1 : decide ((n1 : Int) > 0) = false := by rw [decide_eq_false_iff_not]; omega
      clear hc
      go_wp2_with fail
      refine HSM.out.mono ?_
      rintro e u4 ⟨rfl, hb4⟩
      have HB : Hid (Below w.heap.size w u4) := (HP.out u4 (bsq HBf.out (bsq HB3.out hb4))).2.2
      clear hb4 HP HBf HB3
      go_wp2
      go_ret
      exact ⟨rfl, HB.out⟩
    · have e1 : decide ((n1 : Int) > 0) = true := by rw [decide_eq_true_eq]; omega
      have e2 : (f == 1) = false := by simp; omega
      have e3 : (f == 3) = false := by simp; omega
      clear hc
      go_wp2_with fail
      refine HSM.out.mono ?_
      rintro e u4 ⟨rfl, hb4⟩
      have HB : Hid (Below w.heap.size w u4) := (HP.out u4 (bsq HBf.out (bsq HB3.out hb4))).2.2
      clear hb4 HP HBf HB3
      go_wp2
      go_ret
      exact ⟨rfl, HB.out⟩
end Go.Proofs.Ytgnffifohdgekab.pipeStill
