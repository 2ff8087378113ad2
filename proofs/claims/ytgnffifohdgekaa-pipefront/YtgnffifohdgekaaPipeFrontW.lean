/- PipeFront: whatever the fates, what was taken is a beginning of what was sent, none twice, none left out; the one side has all that were not told, and the other at most one of these. -/
import Derived.Test.YtgnffifohdgekaaPipL
import Derived.Test.YtgnffifohdgekaaPipS
import Derived.BigQuiet
namespace Go.Proofs.Ytgnffifohdgekaa.pipeFront
open Go.RowKit Go.Proofs.Ytgnffifohdgekaa.pipe
set_option linter.unusedVariables false
set_option linter.unusedSimpArgs false
set_option maxRecDepth 100000

theorem rn_at {T : List ByteArray} {F : List Int} (h : rnC T F = 0) : rnP T F = atP T (cnt T.length F) := by
  unfold rnP; rw [if_pos h, run_cnt]
theorem rn_err {T : List ByteArray} {F : List Int} (h : ¬ rnC T F = 0) : rnP T F = zP := by
  unfold rnP; rw [if_neg h]
theorem rn_small {T : List ByteArray} {F : List Int} (h : rnC T F = 0) : T.length ≤ 200 := by
  rcases Nat.lt_or_ge 200 T.length with q | q
  · have := (rnC_large (F := F) (T := T) (.inl q)).1; omega
  · exact q
theorem rem_two (k : Nat) : Int.tmod (k : Int) 2 = ((k % 2 : Nat) : Int) := by
  rw [Int.tmod_eq_emod_of_nonneg (by omega)]; omega
set_option maxHeartbeats 800000 in
theorem walk (vT : Value) (T : List ByteArray) (vF : Value) (F : List Int) (w : World) (hT : Rts w vT T) (hF : Ris w vF F) :
    Calls Try.prog 7 #[vT, vF] w fun e w' => e = .returned (.bool true) ∧ Below w.heap.size w w' := by
  have HR : Hid (Calls Try.prog 14 #[vT, vF] w fun e w' => ∃ qL qG, e = .returned (.tuple #[ppV (rnP T F).s (rnP T F).q qL qG, .int .i64 (rnC T F)]) ∧ Rp w' (rnP T F) qL qG ∧ Below w.heap.size w w') := (run_any vT vF T F w hT hF).mono fun e w' h => h.read
  have HLI : Hid (∀ u, Calls Try.prog 22 #[] u fun e w' => e = .returned (.bool true) ∧ Below u.heap.size u w') := lives_any
  have HT : Hid (Rts w vT T) := hT
  obtain ⟨ta, tc, rfl, htl, htm⟩ := hT.form
  obtain ⟨fa, fc, rfl, hfl, hfm, _⟩ := hF
  unfold maxLen at htm hfm
  obtain ⟨tn, htn⟩ : ∃ n, T.length = n := ⟨_, rfl⟩
  have HTN : Hid (T.length = tn) := htn
  rw [htn] at HR HT htl ⊢
  generalize F.length = fn at *
  clear hT htn
  go_enter Try.func7, Try.ntmps7
  go_wp2_with fail
  refine HR.out.mono ?_
  rintro e u ⟨qL, qG, rfl, hR, hb⟩
  obtain ⟨u1, uf, hu1, huf, hY1, hYf, hbf⟩ := pp_laid u (rnP T F).s (rnP T F).q qL qG
  have HQ : Hid (∀ v, Below uf.heap.size uf v → Rp v (rnP T F) qL qG ∧ v.heap[u.heap.size]? = some (ppO (rnP T F).s (rnP T F).q qL qG)) := fun v hv => ⟨hR.below (bsq hbf hv), keep hYf hv⟩
  have HBf : Hid (Below w.heap.size w uf) := bsq hb hbf
  obtain ⟨b1, d1, rfl, hl1, hm1⟩ := hR.1.form
  obtain ⟨b2, d2, rfl, hl2, hm2⟩ := hR.2.form
  obtain ⟨⟨hz1, y0, y1, y2, y3⟩, g0, g1, g2, g3⟩ := box4 hY1
  obtain ⟨m1, hq1⟩ : ∃ n, (rnP T F).L.length = n := ⟨_, rfl⟩
  obtain ⟨m2, hq2⟩ : ∃ n, (rnP T F).G.length = n := ⟨_, rfl⟩
  obtain ⟨s', hs'⟩ : ∃ n, (rnP T F).s = n := ⟨_, rfl⟩
  obtain ⟨q', hq'⟩ : ∃ n, (rnP T F).q = n := ⟨_, rfl⟩
  obtain ⟨z, hzz⟩ : ∃ z, rnC T F = z := ⟨_, rfl⟩
  have HM : Hid ((rnP T F).L.length = m1 ∧ (rnP T F).G.length = m2 ∧ (rnP T F).s = s' ∧ (rnP T F).q = q') := ⟨hq1, hq2, hs', hq'⟩
  have HZ : Hid (rnC T F = z) := hzz
  rw [hq1, hq2, hs', hq'] at HQ huf
  rw [hq1] at hl1
  rw [hq2] at hl2
  rw [hq1, hq2, hs', hq', hzz]
  unfold maxLen at hm1 hm2
  clear hR hb hY1 hYf hbf HR hq1 hq2 hs' hq' hzz
  go_wp2_with fail
  try rw [huf]
  refine (HLI.out _).mono ?_
  rintro e u3 ⟨rfl, hb3⟩
  have HB3 : Hid (Below uf.heap.size uf u3) := hb3
  obtain ⟨hR3, hq3⟩ := HQ.out u3 hb3
  obtain ⟨⟨hz3, i0, i1, i2, i3⟩, _⟩ := box4 hq3
  clear hb3 hR3 hq3 huf hu1 y0 y1 y2 y3 g0 g1 g2 g3
  by_cases hz0 : ¬ z = 0
  · have e0 : (z != 0) = true := by simpa using hz0
    have hzp : rnP T F = zP := rn_err (by rw [HZ.out]; exact hz0)
    rw [hzp] at HQ HM
    obtain ⟨_, _, rfl, rfl⟩ := HM.out
    have HQ2 : Hid (∀ v, Below uf.heap.size uf v → Rp v zP (.slice b1 m1 d1) (.slice b2 m2 d2) ∧ v.heap[u.heap.size]? = some (ppO 0 0 (.slice b1 m1 d1) (.slice b2 m2 d2))) := HQ.out
    clear hz0 hzp HM HZ HQ i0 i1 i2 i3
    go_wp2_with fail
    refine (HLI.out _).mono ?_
    rintro e u4 ⟨rfl, hb4⟩
    have HB4 : Hid (Below uf.heap.size uf u4) := bsq HB3.out hb4
    obtain ⟨hR4, hq4⟩ := HQ2.out u4 HB4.out
    obtain ⟨⟨_, j0, j1, j2, j3⟩, _⟩ := box4 hq4
    have HSM : Hid (Calls Try.prog 12 #[ppV 0 0 (.slice b1 m1 d1) (.slice b2 m2 d2), ppV 0 0 (.slice none 0 0) (.slice none 0 0)] u4 fun e w' => e = .returned (.bool true) ∧ Below u4.heap.size u4 w') := by
      have := samePipe_any zP zP _ _ _ _ u4 hR4 (Rp.nil u4)
      rw [samB_same] at this
      exact this
    have HB5 : Hid (Below w.heap.size w u4) := bsq HBf.out HB4.out
    clear hb4 hR4 hq4 HQ2 HB4 HB3
    go_wp2_with fail
    refine HSM.out.mono ?_
    rintro e u5 ⟨rfl, hb5⟩
    have HB : Hid (Below w.heap.size w u5) := bsq HB5.out hb5
    clear hb5
    go_wp2
    go_ret
    exact ⟨rfl, HB.out⟩
  have hz0 : z = 0 := Classical.not_not.1 hz0
  subst hz0
  have hat := rn_at HZ.out
  have hok := okc_cnt T.length F
  have hsm : tn ≤ 200 := by have := rn_small HZ.out; have := HTN.out; omega
  generalize cnt T.length F = cc at hat hok
  obtain ⟨t, g⟩ := cc
  obtain ⟨k1, k2, k3⟩ := hok
  have hM := HM.out
  rw [hat, atP_left, atP_got ⟨k1, k2, k3⟩] at hM
  simp only at hM k1 k2 k3
  obtain ⟨r1, rfl, r3, r4⟩ := hM
  rw [HTN.out] at r1 k3
  have r1 : m1 + t = tn := by omega
  have HTu : Hid (∀ n, Rts (u3.drewN n) (.slice ta tn tc) T) := fun n => HT.out.below (bsq HBf.out (bsq HB3.out (below_drewN (Below.refl _ _) n)))
  have htt : t ≤ tn := by omega
  have HTu2 : Rts u3 (.slice ta tn tc) T := HTu.out 0
  have hg2 : g ≤ 200 := by omega
  have ht2 : t ≤ 200 := by omega
  have hm2' : m1 ≤ 200 := by omega
  obtain ⟨a1, hfr, hR1⟩ := HTu2.from t htt
  obtain ⟨hup, hR2⟩ := HTu2.upto g k3
  rw [show tn - t = m1 by omega] at hfr hR1
  generalize tc - t = c1 at hfr hR1
  have HQ3 : Hid (Rp u3 (atP T (t, g)) (.slice b1 m1 d1) (.slice b2 g d2)) := by have := (HQ.out u3 HB3.out).1; rw [hat] at this; exact this
  have HE1 : Hid (∀ n, Calls Try.prog 13 #[.slice b1 m1 d1, .slice a1 m1 c1] (u3.drewN n) fun e w' => e = .returned (.bool true) ∧ ∃ m, w' = (u3.drewN n).drewN m) := fun n => by
    have := equalT_drew (.slice b1 m1 d1) (.slice a1 m1 c1) (T.drop t) (T.drop t) (u3.drewN n) (HQ3.out.1.below (below_drewN (Below.refl _ _) n)) (hR1.below (below_drewN (Below.refl _ _) n))
    rw [decide_eq_true rfl] at this
    exact this
  have HE2 : Hid (∀ n, Calls Try.prog 13 #[.slice b2 g d2, .slice ta g tc] (u3.drewN n) fun e w' => e = .returned (.bool true) ∧ ∃ m, w' = (u3.drewN n).drewN m) := fun n => by
    have := equalT_drew (.slice b2 g d2) (.slice ta g tc) (T.take g) (T.take g) (u3.drewN n) (HQ3.out.2.below (below_drewN (Below.refl _ _) n)) (hR2.below (below_drewN (Below.refl _ _) n))
    rw [decide_eq_true rfl] at this
    exact this
  have HB : Hid (Below w.heap.size w u3) := bsq HBf.out HB3.out
  have e1 : (tn : Int) - (m1 : Int) = (t : Int) := by omega
  have e2 : decide ((t : Int) < 0) = false := by rw [decide_eq_false_iff_not]; omega
  have e3 : decide ((g : Int) < (t : Int)) = false := by rw [decide_eq_false_iff_not]; omega
  have e4 : decide ((g : Int) > (t : Int) + 1) = false := by rw [decide_eq_false_iff_not]; omega
  have e5 : decide ((g : Int) > (tn : Int)) = false := by rw [decide_eq_false_iff_not]; omega
  have r3 : s' = ((t % 2 : Nat) : Int) := r3.symm
  have r4 : q' = ((g % 2 : Nat) : Int) := r4.symm
  have x3 := rem_two t
  have x4 := rem_two g
  subst r3 r4
  clear HQ HM HZ HTu HTu2 hR1 hR2 HQ3 HBf HB3 HT HTN hat r1 hl1 hl2 hm1 hm2 hfl hfm htm htl
  go_upto_region 7 with (fail)
  go_quiet (first
    | (go_at_call 13; with_reducible exact Calls.quiet_of (HE1.out _))
    | (go_at_call 13; with_reducible exact Calls.quiet_of (HE2.out _)))
  go_wp2
  go_ret
  exact ⟨by simp, below_drewN HB.out _⟩
end Go.Proofs.Ytgnffifohdgekaa.pipeFront
