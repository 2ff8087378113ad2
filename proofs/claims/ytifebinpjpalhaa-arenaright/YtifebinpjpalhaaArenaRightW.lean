/- ArenaRight: what is told is right: its spans lie apart, within its units; a span that was taken begins at a multiple of align, within one page. -/
import Derived.Test.YtifebinpjpalhaaAreS
import Derived.Test.YtifebinpjpalhaaAreR
import Derived.Test.YtifebinpjpalhaaAreJ
namespace Go.Proofs.Ytifebinpjpalhaa.arenaRight
open Go.RowKit Go.Proofs.Ytifebinpjpalhaa.arena
set_option linter.unusedVariables false
set_option linter.unusedSimpArgs false
set_option maxRecDepth 100000

set_option maxHeartbeats 8000000 in
theorem walk (z : Int) (x : Value) (L : List Sp) (s g p : Int) (ws : (Lit.int .i64 s).wf = true) (wg : (Lit.int .i64 g).wf = true) (wp : (Lit.int .i64 p).wf = true) (w : World) (hp : Rss w x L ∧ Inr L) :
    Calls Try.prog 6 #[arV z x, .int .i64 s, .int .i64 g, .int .i64 p] w fun e w' => e = .returned (.bool true) ∧ Below w.heap.size w w' := by
  clear ws wg wp
  obtain ⟨hv, hI⟩ := hp
  obtain ⟨a, c, rfl, hlc, hcm⟩ := hv.form
  obtain ⟨n, hn⟩ : ∃ n, L.length = n := ⟨_, rfl⟩
  have HN : Hid (L.length = n) := hn
  rw [hn] at hv hlc ⊢
  obtain ⟨w1, hw1, hX1, hb1⟩ := named w (arO z (.slice a n c))
  obtain ⟨⟨hz, x0, x1⟩, _⟩ := boxC hX1
  have HW : Hid (∀ u, Below w1.heap.size w1 u → Below w.heap.size w u) := fun u hu => bsq hb1 hu
  have HX : Hid (∀ u, Below w1.heap.size w1 u → u.heap[w.heap.size]? = some (arO z (.slice a n c))) := fun u hu => keep hX1 hu
  have HLI : Hid (∀ u, Calls Try.prog 19 #[] u fun e w' => e = .returned (.bool true) ∧ Below u.heap.size u w') := lives_any
  obtain ⟨gz, hgz⟩ : ∃ q, (gvV ⟨z, L⟩ p).z = q := ⟨_, rfl⟩
  obtain ⟨gL, hgL⟩ : ∃ q, (gvV ⟨z, L⟩ p).L = q := ⟨_, rfl⟩
  obtain ⟨gk, hgk⟩ : ∃ q, gvC ⟨z, L⟩ p = q := ⟨_, rfl⟩
  have HGVe : Hid (gvV ⟨z, L⟩ p = ⟨gz, gL⟩) := by show _ = _; rw [← hgz, ← hgL]
  have HGC : Hid (gvC ⟨z, L⟩ p = gk) := hgk
  have HGV : Hid (∀ u, Below w1.heap.size w1 u → Calls Try.prog 17 #[arV z (.slice a n c), .int .i64 p] u fun e w' => ∃ v, e = .returned (.tuple #[arV gz v, .int .i64 gk]) ∧ Sps w' u.heap.size v gL ∧ Below u.heap.size u w') := fun u hu => by
    have := give_any z (.slice a n c) L p u (hv.below (bsq hb1 hu)) hI
    rw [hgk, HGVe.out] at this
    exact this
  obtain ⟨tz, htz⟩ : ∃ q, (tkV ⟨z, L⟩ s g).z = q := ⟨_, rfl⟩
  obtain ⟨tL, htL⟩ : ∃ q, (tkV ⟨z, L⟩ s g).L = q := ⟨_, rfl⟩
  obtain ⟨tk, htk⟩ : ∃ q, tkC ⟨z, L⟩ s g = q := ⟨_, rfl⟩
  obtain ⟨tp, htp⟩ : ∃ q, tkP ⟨z, L⟩ s g = q := ⟨_, rfl⟩
  have HTV : Hid (tkV ⟨z, L⟩ s g = ⟨tz, tL⟩) := by show _ = _; rw [← htz, ← htL]
  have HTC : Hid (tkC ⟨z, L⟩ s g = tk) := htk
  have HTP : Hid (tkP ⟨z, L⟩ s g = tp) := htp
  have HT : Hid (Calls Try.prog 15 #[arV z (.slice a n c), .int .i64 s, .int .i64 g] w1 fun e w' => ∃ v, e = .returned (.tuple #[arV tz v, .int .i64 tp, .int .i64 tk]) ∧ Sps w' w1.heap.size v tL ∧ Below w1.heap.size w1 w') := by
    have := take_any z (.slice a n c) L s g w1 (hv.below hb1) hI
    rw [htk, htp, HTV.out] at this
    exact this
  clear hv hI hn hX1 hb1 htz htL htk htp hgz hgL hgk
  go_enter Try.func6, Try.ntmps6
  go_wp2_with fail
  refine HT.out.mono ?_
  rintro e u1 ⟨v1, rfl, hv1, hb1⟩
  obtain ⟨u1', u2, hu1', hu2, hY1, hY2, hb2⟩ := laid2 u1 24 (.int .i64 0) (.slice none 0 0) (.int .i64 tz) v1
  have HR2 : Hid (Below w1.heap.size w1 u2) := bsq hb1 hb2
  have HV2 : Hid (Rss u2 v1 tL) := hv1.rss.below hb2
  have HY2 : Hid (u2.heap[u1.heap.size]? = some (arO tz v1)) := hY2
  obtain ⟨ta, tn, tc, rfl⟩ : ∃ a n c, v1 = .slice a n c := by obtain ⟨a, c, h, _⟩ := hv1.form; exact ⟨_, _, _, h⟩
  obtain ⟨⟨hz1, t0, t1⟩, f0, f1⟩ := boxC hY1
  clear hv1 hb1 hY1 hY2 hb2 HT
  go_wp2_with fail
  try rw [hu2]
  clear hu2 hu1' t0 t1 f0 f1
  refine (HLI.out _).mono ?_
  rintro e u3 ⟨rfl, hb3⟩
  have HR3 : Hid (Below w1.heap.size w1 u3) := bsq HR2.out hb3
  have HV3 : Hid (Rss u3 (.slice ta tn tc) tL) := HV2.out.below hb3
  have HY3 : Hid (u3.heap[u1.heap.size]? = some (arO tz (.slice ta tn tc))) := keep HY2.out hb3
  clear hb3 HR2 HV2 HY2
  by_cases ht : ¬ tk = 0
  · have e1 : (tk == 0) = false := by simpa using ht
    clear ht
    go_upto_region 4 with (fail)
    obtain ⟨ur, hur⟩ : ∃ ur, u3 = ur := ⟨_, rfl⟩
    have HR : Hid (Below w1.heap.size w1 ur) := by rw [← hur]; exact HR3.out
    rw [hur]
    have HGu : Hid (Calls Try.prog 17 #[arV z (.slice a n c), .int .i64 p] ur fun e w' => ∃ v, e = .returned (.tuple #[arV gz v, .int .i64 gk]) ∧ Sps w' ur.heap.size v gL ∧ Below ur.heap.size ur w') := HGV.out ur HR.out
    obtain ⟨⟨_, a0, a1⟩, _⟩ := boxC (HX.out ur HR.out)
    go_wp2_with fail
    refine HGu.out.mono ?_
    rintro e u5 ⟨v5, rfl, hv5, hb5⟩
    obtain ⟨u6, u7, hu6, hu7, hY6, hY7, hb7⟩ := laid2 u5 24 (.int .i64 0) (.slice none 0 0) (.int .i64 gz) v5
    have HR7 : Hid (Below w1.heap.size w1 u7) := bsq HR.out (bsq hb5 hb7)
    have HV7 : Hid (Rss u7 v5 gL) := hv5.rss.below hb7
    have HY7 : Hid (u7.heap[u5.heap.size]? = some (arO gz v5)) := hY7
    obtain ⟨va, vc, rfl, _, _⟩ := hv5.form
    obtain ⟨vn, hvn⟩ : ∃ k, gL.length = k := ⟨_, rfl⟩
    have HVN : Hid (gL.length = vn) := hvn
    rw [hvn] at HV7 HY7 hY7
    rw [hvn]
    obtain ⟨⟨hz6, x0, x1⟩, f0, f1⟩ := boxC hY6
    obtain ⟨⟨hz7, y0, y1⟩, _⟩ := boxC hY7
    rw [hvn] at hu7
    clear hv5 hb5 hY6 hY7 hb7 HGu hvn
    by_cases hg : ¬ gk = 0
    · have e5 : (gk != 0) = true := by simpa using hg
      clear hg
      go_wp2
      go_ret
      exact ⟨rfl, HW.out _ HR7.out⟩
    have hg : gk = 0 := Classical.not_not.1 hg
    subst hg
    have e5 : ((0 : Int) != 0) = false := rfl
    have e6 : ((0 : Int) == 0) = true := rfl
    obtain ⟨Aq, xx, Bq, k1, k2, k3, k4, k5⟩ := gv_facts HGC.out
    rw [HGVe.out] at k4 k5
    have hln : n = vn + 1 := by
      rw [← HN.out, ← HVN.out]
      have h1 := congrArg (fun t : Ar => t.L.length) k4
      have h2 := congrArg List.length k1
      simp only [List.length_append, List.length_cons] at h1 h2
      omega
    have HF7 : Hid (Calls Try.prog 11 #[arV gz (.slice va vn vc)] u7 fun e w' => e = .returned (.int .i64 0) ∧ Below u7.heap.size u7 w') := by
      have := refArena_any gz (.slice va vn vc) gL u7 HV7.out (by have := inr_chk k5; exact this)
      rw [k5] at this
      exact this
    have hl64 : n ≤ 64 := by rw [← HN.out]; exact (chk_ok (gv_parts HGC.out).1).2.2.1
    have e7 : (n : Int) - 1 = (vn : Int) := by omega
    have e8 : ((vn : Int) == (vn : Int)) = true := by simp
    clear k1 k2 k3 k4 k5 hln
    go_wp2_with fail
    try rw [hu7]
    refine HF7.out.mono ?_
    rintro e u8 ⟨rfl, hb8⟩
    have HR8 : Hid (Below w1.heap.size w1 u8) := bsq HR7.out hb8
    obtain ⟨⟨_, m0, m1⟩, _⟩ := boxC (HX.out u8 HR8.out)
    obtain ⟨⟨_, o0, o1⟩, _⟩ := boxC (keep HY7.out hb8)
    clear hb8
    go_wp2
    go_ret
    exact ⟨rfl, HW.out _ HR8.out⟩
  have ht : tk = 0 := Classical.not_not.1 ht
  subst ht
  have e1 : ((0 : Int) == 0) = true := rfl
  have e2 : ((0 : Int) != 0) = false := rfl
  obtain ⟨Aq, Bq, k1, k2, k3, kc, k5, k6, _⟩ := tk_facts HTC.out
  rw [HTV.out] at k3 kc
  rw [HTP.out] at k3 k5 k6
  obtain ⟨hs1, hs2, hg1, hg2, hgd⟩ := arg_ok (tk_parts HTC.out).2.1
  obtain ⟨j1, j2, j3, _⟩ := k6
  obtain ⟨_, hzz, _, _⟩ := chk_ok (tk_parts HTC.out).1
  simp only at j2 hzz
  have HC3 : Hid (Calls Try.prog 11 #[arV tz (.slice ta tn tc)] u3 fun e w' => e = .returned (.int .i64 0) ∧ Below u3.heap.size u3 w') := by
    have := refArena_any tz (.slice ta tn tc) tL u3 HV3.out (by have := inr_chk kc; exact this)
    rw [kc] at this
    exact this
  have hmem : (tp, s) ∈ tL := by
    have := congrArg Ar.L k3
    simp only at this
    rw [this]; simp
  have htn : tL.length ≤ 1000 := by have := (chk_ok kc).2.2.1; simp only at this; omega
  have HCO : Hid (∀ u, Below u3.heap.size u3 u → Calls Try.prog 20 #[.slice ta tn tc, spV tp s] u fun e w' => e = .returned (.bool true) ∧ Below u.heap.size u w') := fun u hu => contains_mem (.slice ta tn tc) tL (tp, s) u (HV3.out.below hu) hmem htn
  have m1 : tp.tmod g = 0 := by rw [Int.tmod_eq_emod_of_nonneg k5]; exact j1
  have hg0 : (g == 0) = false := by rw [beq_eq_false_iff_ne]; omega
  obtain ⟨Q, hQ⟩ : ∃ Q, tp / 4096 = Q := ⟨_, rfl⟩
  have m2 : tp.tdiv 4096 = Q := by rw [Int.tdiv_eq_ediv_of_nonneg k5]; exact hQ
  have m3 : (tp + s - 1).tdiv 4096 = Q := by rw [Int.tdiv_eq_ediv_of_nonneg (by omega)]; omega
  have e3 : (Q != Q) = false := by simp
  have htp1 : tp ≤ 65536 := by omega
  obtain ⟨⟨_, d0, d1⟩, _⟩ := boxC HY3.out
  clear k1 k2 k3 kc j1 j2 j3 hzz hmem htn hQ hgd
  go_wp2_with fail
  refine HC3.out.mono ?_
  rintro e u4 ⟨rfl, hb4⟩
  have HR4 : Hid (Below w1.heap.size w1 u4) := bsq HR3.out hb4
  have HCO4 : Hid (Calls Try.prog 20 #[.slice ta tn tc, spV tp s] u4 fun e w' => e = .returned (.bool true) ∧ Below u4.heap.size u4 w') := HCO.out u4 hb4
  obtain ⟨⟨_, i0, i1⟩, _⟩ := boxC (keep HY3.out hb4)
  clear hb4
  go_wp2_with fail
  refine HCO4.out.mono ?_
  rintro e ur ⟨rfl, hbr⟩
  have HR : Hid (Below w1.heap.size w1 ur) := bsq HR4.out hbr
  clear hbr
  go_upto_region 4 with (fail)
  have HGu : Hid (Calls Try.prog 17 #[arV z (.slice a n c), .int .i64 p] ur fun e w' => ∃ v, e = .returned (.tuple #[arV gz v, .int .i64 gk]) ∧ Sps w' ur.heap.size v gL ∧ Below ur.heap.size ur w') := HGV.out ur HR.out
  obtain ⟨⟨_, a0, a1⟩, _⟩ := boxC (HX.out ur HR.out)
  go_wp2_with fail
  refine HGu.out.mono ?_
  rintro e u5 ⟨v5, rfl, hv5, hb5⟩
  obtain ⟨u6, u7, hu6, hu7, hY6, hY7, hb7⟩ := laid2 u5 24 (.int .i64 0) (.slice none 0 0) (.int .i64 gz) v5
  have HR7 : Hid (Below w1.heap.size w1 u7) := bsq HR.out (bsq hb5 hb7)
  have HV7 : Hid (Rss u7 v5 gL) := hv5.rss.below hb7
  have HY7 : Hid (u7.heap[u5.heap.size]? = some (arO gz v5)) := hY7
  obtain ⟨va, vc, rfl, _, _⟩ := hv5.form
  obtain ⟨vn, hvn⟩ : ∃ k, gL.length = k := ⟨_, rfl⟩
  have HVN : Hid (gL.length = vn) := hvn
  rw [hvn] at HV7 HY7 hY7
  rw [hvn]
  obtain ⟨⟨hz6, x0, x1⟩, f0, f1⟩ := boxC hY6
  obtain ⟨⟨hz7, y0, y1⟩, _⟩ := boxC hY7
  rw [hvn] at hu7
  clear hv5 hb5 hY6 hY7 hb7 HGu hvn
  by_cases hg : ¬ gk = 0
  · have e5 : (gk != 0) = true := by simpa using hg
    clear hg
    go_wp2
    go_ret
    exact ⟨rfl, HW.out _ HR7.out⟩
  have hg : gk = 0 := Classical.not_not.1 hg
  subst hg
  have e5 : ((0 : Int) != 0) = false := rfl
  have e6 : ((0 : Int) == 0) = true := rfl
  obtain ⟨Aq, xx, Bq, k1, k2, k3, k4, k5⟩ := gv_facts HGC.out
  rw [HGVe.out] at k4 k5
  have hln : n = vn + 1 := by
    rw [← HN.out, ← HVN.out]
    have h1 := congrArg (fun t : Ar => t.L.length) k4
    have h2 := congrArg List.length k1
    simp only [List.length_append, List.length_cons] at h1 h2
    omega
  have HF7 : Hid (Calls Try.prog 11 #[arV gz (.slice va vn vc)] u7 fun e w' => e = .returned (.int .i64 0) ∧ Below u7.heap.size u7 w') := by
    have := refArena_any gz (.slice va vn vc) gL u7 HV7.out (by have := inr_chk k5; exact this)
    rw [k5] at this
    exact this
  have hl64 : n ≤ 64 := by rw [← HN.out]; exact (chk_ok (gv_parts HGC.out).1).2.2.1
  have e7 : (n : Int) - 1 = (vn : Int) := by omega
  have e8 : ((vn : Int) == (vn : Int)) = true := by simp
  clear k1 k2 k3 k4 k5 hln
  go_wp2_with fail
  try rw [hu7]
  refine HF7.out.mono ?_
  rintro e u8 ⟨rfl, hb8⟩
  have HR8 : Hid (Below w1.heap.size w1 u8) := bsq HR7.out hb8
  obtain ⟨⟨_, m0, m1⟩, _⟩ := boxC (HX.out u8 HR8.out)
  obtain ⟨⟨_, o0, o1⟩, _⟩ := boxC (keep HY7.out hb8)
  clear hb8
  go_wp2
  go_ret
  exact ⟨rfl, HW.out _ HR8.out⟩
end Go.Proofs.Ytifebinpjpalhaa.arenaRight
