/- ArenaTakes: whatever is handed in, Take answers what the document says. -/
import Derived.Test.YtifebinpjpalhaaAreY
import Derived.Test.YtifebinpjpalhaaAreH
import Derived.Test.YtifebinpjpalhaaAreK
namespace Go.Proofs.Ytifebinpjpalhaa.arenaTakes
open Go.RowKit Go.Proofs.Ytifebinpjpalhaa.arena
set_option linter.unusedVariables false
set_option linter.unusedSimpArgs false
set_option maxRecDepth 100000

set_option maxHeartbeats 8000000 in
theorem walk (z : Int) (x : Value) (L : List Sp) (s g : Int) (ws : (Lit.int .i64 s).wf = true) (wg : (Lit.int .i64 g).wf = true) (w : World) (hp : Rss w x L ∧ Inr L) :
    Calls Try.prog 4 #[arV z x, .int .i64 s, .int .i64 g] w fun e w' => e = .returned (.bool true) ∧ Below w.heap.size w w' := by
  clear ws wg
  obtain ⟨hv, hI⟩ := hp
  obtain ⟨a, c, rfl, hlc, hcm⟩ := hv.form
  obtain ⟨n, hn⟩ : ∃ n, L.length = n := ⟨_, rfl⟩
  rw [hn] at hv hlc ⊢
  obtain ⟨w1, hw1, hX1, hb1⟩ := named w (arO z (.slice a n c))
  obtain ⟨⟨hz, x0, x1⟩, _⟩ := boxC hX1
  have HW : Hid (∀ u, Below w1.heap.size w1 u → Below w.heap.size w u) := fun u hu => bsq hb1 hu
  have HX : Hid (∀ u, Below w1.heap.size w1 u → u.heap[w.heap.size]? = some (arO z (.slice a n c))) := fun u hu => keep hX1 hu
  obtain ⟨gz, hgz⟩ : ∃ q, (tkV ⟨z, L⟩ s g).z = q := ⟨_, rfl⟩
  obtain ⟨gL, hgL⟩ : ∃ q, (tkV ⟨z, L⟩ s g).L = q := ⟨_, rfl⟩
  obtain ⟨gk, hgk⟩ : ∃ q, tkC ⟨z, L⟩ s g = q := ⟨_, rfl⟩
  obtain ⟨gp, hgp⟩ : ∃ q, tkP ⟨z, L⟩ s g = q := ⟨_, rfl⟩
  have hge : tkV ⟨z, L⟩ s g = ⟨gz, gL⟩ := by rw [← hgz, ← hgL]
  have HG : Hid (Calls Try.prog 15 #[arV z (.slice a n c), .int .i64 s, .int .i64 g] w1 fun e w' => ∃ v, e = .returned (.tuple #[arV gz v, .int .i64 gp, .int .i64 gk]) ∧ Sps w' w1.heap.size v gL ∧ Below w1.heap.size w1 w') := by
    have := take_any z (.slice a n c) L s g w1 (hv.below hb1) hI
    rw [hgk, hgp, hge] at this
    exact this
  have HRG : Hid (∀ u, Below w1.heap.size w1 u → Calls Try.prog 16 #[arV z (.slice a n c), .int .i64 s, .int .i64 g] u fun e w' => ∃ v, e = .returned (.tuple #[arV gz v, .int .i64 gp, .int .i64 gk]) ∧ Rss w' v gL ∧ Below u.heap.size u w') := fun u hu => by
    have := refTake_any z (.slice a n c) L s g u (hv.below (bsq hb1 hu)) hI
    rw [hgk, hgp, hge] at this
    exact this
  clear hv hI hn hX1 hb1 hgz hgL hgk hgp hge
  go_enter Try.func4, Try.ntmps4
  go_wp2_with fail
  refine HG.out.mono ?_
  rintro e u1 ⟨v1, rfl, hv1, hb1⟩
  obtain ⟨u1', u2, hu1', hu2, hY1, hY2, hb2⟩ := laid2 u1 24 (.int .i64 0) (.slice none 0 0) (.int .i64 gz) v1
  have HR2 : Hid (Below w1.heap.size w1 u2) := bsq hb1 hb2
  have HV2 : Hid (Rss u2 v1 gL ∧ u2.heap[u1.heap.size]? = some (arO gz v1)) := ⟨hv1.rss.below hb2, hY2⟩
  have HRG2 : Hid (Calls Try.prog 16 #[arV z (.slice a n c), .int .i64 s, .int .i64 g] u2 fun e w' => ∃ v, e = .returned (.tuple #[arV gz v, .int .i64 gp, .int .i64 gk]) ∧ Rss w' v gL ∧ Below u2.heap.size u2 w') := HRG.out u2 HR2.out
  obtain ⟨ta, tn, tc, rfl⟩ : ∃ a n c, v1 = .slice a n c := by obtain ⟨a, c, h, _⟩ := hv1.form; exact ⟨_, _, _, h⟩
  obtain ⟨⟨hz1, t0, t1⟩, f0, f1⟩ := boxC hY1
  obtain ⟨⟨hz2, r0, r1⟩, _⟩ := boxC hY2
  obtain ⟨⟨_, a0, a1⟩, _⟩ := boxC (HX.out u2 HR2.out)
  clear hv1 hb1 hY1 hY2 hb2 HG
  go_wp2_with fail
  try rw [hu2]
  clear hu2 hu1' t0 t1 f0 f1 r0 r1
  refine HRG2.out.mono ?_
  rintro e u3 ⟨v3, rfl, hv3, hb3⟩
  obtain ⟨u3', u4, hu3', hu4, hY3, hY4, hb4⟩ := laid2 u3 24 (.int .i64 0) (.slice none 0 0) (.int .i64 gz) v3
  have HR4 : Hid (Below w1.heap.size w1 u4) := bsq HR2.out (bsq hb3 hb4)
  obtain ⟨da, dn, dc, rfl⟩ : ∃ a n c, v3 = .slice a n c := by obtain ⟨a, c, h, _⟩ := hv3.form; exact ⟨_, _, _, h⟩
  have HSA : Hid (Calls Try.prog 13 #[arV gz (.slice ta tn tc), arV gz (.slice da dn dc)] u4 fun e w' => e = .returned (.bool true) ∧ Below u4.heap.size u4 w') := by
    have := same_any ⟨gz, gL⟩ ⟨gz, gL⟩ (.slice ta tn tc) (.slice da dn dc) u4 (HV2.out.1.below (bsq hb3 hb4)) (hv3.below hb4)
    rw [samB_same] at this
    exact this
  obtain ⟨⟨hz3, t0, t1⟩, f0, f1⟩ := boxC hY3
  obtain ⟨⟨hz4, r0, r1⟩, _⟩ := boxC hY4
  obtain ⟨⟨_, i0, i1⟩, _⟩ := boxC (keep HV2.out.2 (bsq hb3 hb4))
  have e1 : (gk == gk) = true := by simp
  have e2 : (gp == gp) = true := by simp
  clear hv3 hb3 hY3 hY4 hb4 HRG2 HRG
  go_wp2_with fail
  try rw [hu4]
  clear hu4 hu3' t0 t1 f0 f1 r0 r1
  refine HSA.out.mono ?_
  rintro e u5 ⟨rfl, hb5⟩
  have HR5 : Hid (Below w1.heap.size w1 u5) := bsq HR4.out hb5
  clear hb5 HSA
  go_wp2
  go_ret
  exact ⟨rfl, HW.out _ HR5.out⟩
end Go.Proofs.Ytifebinpjpalhaa.arenaTakes
