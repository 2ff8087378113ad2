/- ArenaBack: what was taken, and is given back, leaves all as it was; taken again it is taken at the same place. -/
import Derived.Test.YtifebinpjpalhaaAreK
import Derived.Test.YtifebinpjpalhaaAreJ
namespace Go.Proofs.Ytifebinpjpalhaa.arenaBack
open Go.RowKit Go.Proofs.Ytifebinpjpalhaa.arena
set_option linter.unusedVariables false
set_option linter.unusedSimpArgs false
set_option maxRecDepth 100000

set_option maxHeartbeats 8000000 in
theorem walk (z : Int) (x : Value) (L : List Sp) (s g : Int) (ws : (Lit.int .i64 s).wf = true) (wg : (Lit.int .i64 g).wf = true) (w : World) (hp : Rss w x L ∧ Inr L) :
    Calls Try.prog 8 #[arV z x, .int .i64 s, .int .i64 g] w fun e w' => e = .returned (.bool true) ∧ Below w.heap.size w w' := by
  clear ws wg
  obtain ⟨hv, hI⟩ := hp
  obtain ⟨a, c, rfl, hlc, hcm⟩ := hv.form
  obtain ⟨n, hn⟩ : ∃ n, L.length = n := ⟨_, rfl⟩
  rw [hn] at hv hlc ⊢
  obtain ⟨w1, hw1, hX1, hb1⟩ := named w (arO z (.slice a n c))
  obtain ⟨⟨hz, x0, x1⟩, _⟩ := boxC hX1
  have HW : Hid (∀ u, Below w1.heap.size w1 u → Below w.heap.size w u) := fun u hu => bsq hb1 hu
  have HX : Hid (∀ u, Below w1.heap.size w1 u → u.heap[w.heap.size]? = some (arO z (.slice a n c))) := fun u hu => keep hX1 hu
  have HS : Hid (∀ u, Below w1.heap.size w1 u → Rss u (.slice a n c) L) := fun u hu => hv.below (bsq hb1 hu)
  have HLI : Hid (∀ u, Calls Try.prog 19 #[] u fun e w' => e = .returned (.bool true) ∧ Below u.heap.size u w') := lives_any
  obtain ⟨tz, htz⟩ : ∃ q, (tkV ⟨z, L⟩ s g).z = q := ⟨_, rfl⟩
  obtain ⟨tL, htL⟩ : ∃ q, (tkV ⟨z, L⟩ s g).L = q := ⟨_, rfl⟩
  obtain ⟨tk, htk⟩ : ∃ q, tkC ⟨z, L⟩ s g = q := ⟨_, rfl⟩
  obtain ⟨tp, htp⟩ : ∃ q, tkP ⟨z, L⟩ s g = q := ⟨_, rfl⟩
  have HTV : Hid (tkV ⟨z, L⟩ s g = ⟨tz, tL⟩) := by show _ = _; rw [← htz, ← htL]
  have HTC : Hid (tkC ⟨z, L⟩ s g = tk) := htk
  have HTP : Hid (tkP ⟨z, L⟩ s g = tp) := htp
  have HI : Hid (Inr L) := hI
  have HTK : Hid (∀ v u, Rss u v L → Calls Try.prog 15 #[arV z v, .int .i64 s, .int .i64 g] u fun e w' => ∃ v, e = .returned (.tuple #[arV tz v, .int .i64 tp, .int .i64 tk]) ∧ Sps w' u.heap.size v tL ∧ Below u.heap.size u w') := fun v u hu => by
    have := take_any z v L s g u hu hI
    rw [htk, htp, HTV.out] at this
    exact this
  have HT : Hid (Calls Try.prog 15 #[arV z (.slice a n c), .int .i64 s, .int .i64 g] w1 fun e w' => ∃ v, e = .returned (.tuple #[arV tz v, .int .i64 tp, .int .i64 tk]) ∧ Sps w' w1.heap.size v tL ∧ Below w1.heap.size w1 w') := HTK.out _ w1 (hv.below hb1)
  clear hv hI hn hX1 hb1 htz htL htk htp
  go_enter Try.func8, Try.ntmps8
  go_wp2_with fail
  refine HT.out.mono ?_
  rintro e u1 ⟨v1, rfl, hv1, hb1⟩
  obtain ⟨u1', u2, hu1', hu2, hY1, hY2, hb2⟩ := laid2 u1 24 (.int .i64 0) (.slice none 0 0) (.int .i64 tz) v1
  have HR2 : Hid (Below w1.heap.size w1 u2) := bsq hb1 hb2
  have HV2 : Hid (Rss u2 v1 tL) := hv1.rss.below hb2
  have HY2 : Hid (u2.heap[u1.heap.size]? = some (arO tz v1)) := hY2
  obtain ⟨ta, tn, tc, rfl⟩ : ∃ a n c, v1 = .slice a n c := by obtain ⟨a, c, h, _⟩ := hv1.form; exact ⟨_, _, _, h⟩
  obtain ⟨⟨hz1, t0, t1⟩, f0, f1⟩ := boxC hY1
  clear hv1 hb1 hY1 hY2 hb2 HT
  go_wp2_with fail
  try rw [hu2]
  clear hu2 hu1' t0 t1 f0 f1
  refine (HLI.out _).mono ?_
  rintro e u3 ⟨rfl, hb3⟩
  have HR3 : Hid (Below w1.heap.size w1 u3) := bsq HR2.out hb3
  have HV3 : Hid (Rss u3 (.slice ta tn tc) tL) := HV2.out.below hb3
  have HY3 : Hid (u3.heap[u1.heap.size]? = some (arO tz (.slice ta tn tc))) := keep HY2.out hb3
  clear hb3 HR2 HV2 HY2
  by_cases h0 : ¬ tk = 0
  · have e1 : (tk != 0) = true := by simpa using h0
    have htp : tp = 0 := by rw [← HTP.out]; exact (tk_err (by rw [HTC.out]; exact h0)).2
    subst htp
    clear h0
    go_wp2_with fail
    refine (HLI.out _).mono ?_
    rintro e u4 ⟨rfl, hb4⟩
    have HR4 : Hid (Below w1.heap.size w1 u4) := bsq HR3.out hb4
    clear hb4
    go_wp2
    go_ret
    exact ⟨rfl, HW.out _ HR4.out⟩
  have h0 : tk = 0 := Classical.not_not.1 h0
  subst h0
  have e1 : ((0 : Int) != 0) = false := rfl
  obtain ⟨b1, b2⟩ := back HTC.out
  rw [HTV.out, HTP.out] at b1 b2
  obtain ⟨_, _, _, _, _, kc, _⟩ := tk_facts HTC.out
  rw [HTV.out] at kc
  have HG : Hid (Calls Try.prog 17 #[arV tz (.slice ta tn tc), .int .i64 tp] u3 fun e w' => ∃ v, e = .returned (.tuple #[arV z v, .int .i64 0]) ∧ Sps w' u3.heap.size v L ∧ Below u3.heap.size u3 w') := by
    have := give_any tz (.slice ta tn tc) tL tp u3 HV3.out (by have := inr_chk kc; exact this)
    rw [b1, b2] at this
    exact this
  obtain ⟨⟨_, d0, d1⟩, _⟩ := boxC HY3.out
  clear b1 b2 kc
  go_wp2_with fail
  refine HG.out.mono ?_
  rintro e u4 ⟨v4, rfl, hv4, hb4⟩
  obtain ⟨u4', u5, hu4', hu5, hY4, hY5, hb5⟩ := laid2 u4 24 (.int .i64 0) (.slice none 0 0) (.int .i64 z) v4
  have hb35 := bsq hb4 hb5
  have HR5 : Hid (Below w1.heap.size w1 u5) := bsq HR3.out hb35
  have HV5 : Hid (Rss u5 (.slice ta tn tc) tL ∧ Rss u5 v4 L) := ⟨HV3.out.below hb35, hv4.rss.below hb5⟩
  have HY5 : Hid (u5.heap[u1.heap.size]? = some (arO tz (.slice ta tn tc)) ∧ u5.heap[u4.heap.size]? = some (arO z v4)) := ⟨keep HY3.out hb35, hY5⟩
  obtain ⟨ca, cn, cc, rfl⟩ : ∃ a n c, v4 = .slice a n c := by obtain ⟨a, c, h, _⟩ := hv4.form; exact ⟨_, _, _, h⟩
  have HT5 : Hid (Calls Try.prog 15 #[arV z (.slice ca cn cc), .int .i64 s, .int .i64 g] u5 fun e w' => ∃ v, e = .returned (.tuple #[arV tz v, .int .i64 tp, .int .i64 0]) ∧ Sps w' u5.heap.size v tL ∧ Below u5.heap.size u5 w') := HTK.out _ u5 HV5.out.2
  obtain ⟨⟨hz4, t0, t1⟩, f0, f1⟩ := boxC hY4
  obtain ⟨⟨hz5, r0, r1⟩, _⟩ := boxC hY5
  clear hv4 hb4 hY4 hY5 hb5 hb35 HG HR3 HV3 HY3 d0 d1 HTK
  go_wp2_with fail
  try rw [hu5]
  clear hu5 hu4' t0 t1 f0 f1 r0 r1
  refine HT5.out.mono ?_
  rintro e u6 ⟨v6, rfl, hv6, hb6⟩
  obtain ⟨u6', u7, hu6', hu7, hY6, hY7, hb7⟩ := laid2 u6 24 (.int .i64 0) (.slice none 0 0) (.int .i64 tz) v6
  have hb57 := bsq hb6 hb7
  have HR7 : Hid (Below w1.heap.size w1 u7) := bsq HR5.out hb57
  have HV7 : Hid (∀ u, Below u7.heap.size u7 u → Rss u (.slice ta tn tc) tL ∧ Rss u v6 tL) := fun u hu => ⟨HV5.out.1.below (bsq hb57 hu), (hv6.rss.below hb7).below hu⟩
  have HY7 : Hid (∀ u, Below u7.heap.size u7 u → u.heap[u1.heap.size]? = some (arO tz (.slice ta tn tc)) ∧ u.heap[u6.heap.size]? = some (arO tz v6)) := fun u hu => ⟨keep (keep HY5.out.1 hb57) hu, keep hY7 hu⟩
  obtain ⟨da, dn, dc, rfl⟩ : ∃ a n c, v6 = .slice a n c := by obtain ⟨a, c, h, _⟩ := hv6.form; exact ⟨_, _, _, h⟩
  have HSA : Hid (Calls Try.prog 13 #[arV z (.slice ca cn cc), arV z (.slice a n c)] u7 fun e w' => e = .returned (.bool true) ∧ Below u7.heap.size u7 w') := by
    have := same_any ⟨z, L⟩ ⟨z, L⟩ (.slice ca cn cc) (.slice a n c) u7 (HV5.out.2.below hb57) (HS.out u7 HR7.out)
    rw [samB_same] at this
    exact this
  obtain ⟨⟨hz6, t0, t1⟩, f0, f1⟩ := boxC hY6
  obtain ⟨⟨hz7, r0, r1⟩, _⟩ := boxC hY7
  obtain ⟨⟨_, i0, i1⟩, _⟩ := boxC (keep HY5.out.2 hb57)
  obtain ⟨⟨_, j0, j1⟩, _⟩ := boxC (HX.out u7 HR7.out)
  have e2 : ((0 : Int) == 0) = true := rfl
  have e3 : (tp == tp) = true := by simp
  clear hv6 hb6 hY6 hY7 hb7 hb57 HT5 HR5 HV5 HY5
  go_wp2_with fail
  try rw [hu7]
  clear hu7 hu6' t0 t1 f0 f1 r0 r1 i0 i1 j0 j1
  refine HSA.out.mono ?_
  rintro e u8 ⟨rfl, hb8⟩
  have HSB : Hid (Calls Try.prog 13 #[arV tz (.slice da dn dc), arV tz (.slice ta tn tc)] u8 fun e w' => e = .returned (.bool true) ∧ Below u8.heap.size u8 w') := by
    have := same_any ⟨tz, tL⟩ ⟨tz, tL⟩ (.slice da dn dc) (.slice ta tn tc) u8 (HV7.out u8 hb8).2 (HV7.out u8 hb8).1
    rw [samB_same] at this
    exact this
  have HR8 : Hid (Below w1.heap.size w1 u8) := bsq HR7.out hb8
  obtain ⟨⟨_, i0, i1⟩, _⟩ := boxC (HY7.out u8 hb8).1
  obtain ⟨⟨_, j0, j1⟩, _⟩ := boxC (HY7.out u8 hb8).2
  clear hb8 HSA
  go_wp2_with fail
  refine HSB.out.mono ?_
  rintro e u9 ⟨rfl, hb9⟩
  have HR9 : Hid (Below w1.heap.size w1 u9) := bsq HR8.out hb9
  clear hb9 HSB
  go_wp2
  go_ret
  exact ⟨rfl, HW.out _ HR9.out⟩
end Go.Proofs.Ytifebinpjpalhaa.arenaBack
