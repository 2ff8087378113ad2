/- ArenaGives: whatever is handed in, Give answers what the document says. -/
import Derived.Test.YtifebinpjpalhaaAreT
import Derived.Test.YtifebinpjpalhaaAreK
namespace Go.Proofs.Ytifebinpjpalhaa.arenaGives
open Go.RowKit Go.Proofs.Ytifebinpjpalhaa.arena
set_option linter.unusedVariables false
set_option linter.unusedSimpArgs false
set_option maxRecDepth 100000

set_option maxHeartbeats 8000000 in
theorem walk (z : Int) (x : Value) (L : List Sp) (p : Int) (wp : (Lit.int .i64 p).wf = true) (w : World) (hp : Rss w x L ∧ Inr L) :
    Calls Try.prog 5 #[arV z x, .int .i64 p] w fun e w' => e = .returned (.bool true) ∧ Below w.heap.size w w' := by
  clear wp
  obtain ⟨hv, hI⟩ := hp
  obtain ⟨a, c, rfl, hlc, hcm⟩ := hv.form
  obtain ⟨n, hn⟩ : ∃ n, L.length = n := ⟨_, rfl⟩
  rw [hn] at hv hlc ⊢
  obtain ⟨w1, hw1, hX1, hb1⟩ := named w (arO z (.slice a n c))
  obtain ⟨⟨hz, x0, x1⟩, _⟩ := boxC hX1
  have HW : Hid (∀ u, Below w1.heap.size w1 u → Below w.heap.size w u) := fun u hu => bsq hb1 hu
  have HX : Hid (∀ u, Below w1.heap.size w1 u → u.heap[w.heap.size]? = some (arO z (.slice a n c))) := fun u hu => keep hX1 hu
  obtain ⟨gz, hgz⟩ : ∃ q, (gvV ⟨z, L⟩ p).z = q := ⟨_, rfl⟩
  obtain ⟨gL, hgL⟩ : ∃ q, (gvV ⟨z, L⟩ p).L = q := ⟨_, rfl⟩
  obtain ⟨gk, hgk⟩ : ∃ q, gvC ⟨z, L⟩ p = q := ⟨_, rfl⟩
  have hge : gvV ⟨z, L⟩ p = ⟨gz, gL⟩ := by rw [← hgz, ← hgL]
  have HG : Hid (Calls Try.prog 17 #[arV z (.slice a n c), .int .i64 p] w1 fun e w' => ∃ v, e = .returned (.tuple #[arV gz v, .int .i64 gk]) ∧ Sps w' w1.heap.size v gL ∧ Below w1.heap.size w1 w') := by
    have := give_any z (.slice a n c) L p w1 (hv.below hb1) hI
    rw [hgk, hge] at this
    exact this
  have HRG : Hid (∀ u, Below w1.heap.size w1 u → Calls Try.prog 18 #[arV z (.slice a n c), .int .i64 p] u fun e w' => ∃ v, e = .returned (.tuple #[arV gz v, .int .i64 gk]) ∧ Rss w' v gL ∧ Below u.heap.size u w') := fun u hu => by
    have := refGive_any z (.slice a n c) L p u (hv.below (bsq hb1 hu)) hI
    rw [hgk, hge] at this
    exact this
  clear hv hI hn hX1 hb1 hgz hgL hgk hge
  go_enter Try.func5, Try.ntmps5
  go_wp2_with fail
  refine HG.out.mono ?_
  rintro e u1 ⟨v1, rfl, hv1, hb1⟩
  obtain ⟨u1', u2, hu1', hu2, hY1, hY2, hb2⟩ := laid2 u1 24 (.int .i64 0) (.slice none 0 0) (.int .i64 gz) v1
  have HR2 : Hid (Below w1.heap.size w1 u2) := bsq hb1 hb2
  have HV2 : Hid (Rss u2 v1 gL ∧ u2.heap[u1.heap.size]? = some (arO gz v1)) := ⟨hv1.rss.below hb2, hY2⟩
  have HRG2 : Hid (Calls Try.prog 18 #[arV z (.slice a n c), .int .i64 p] u2 fun e w' => ∃ v, e = .returned (.tuple #[arV gz v, .int .i64 gk]) ∧ Rss w' v gL ∧ Below u2.heap.size u2 w') := HRG.out u2 HR2.out
  obtain ⟨ta, tn, tc, rfl⟩ : ∃ a n c, v1 = .slice a n c := by obtain ⟨a, c, h, _⟩ := hv1.form; exact ⟨_, _, _, h⟩
  obtain ⟨⟨hz1, t0, t1⟩, f0, f1⟩ := boxC hY1
  obtain ⟨⟨hz2, r0, r1⟩, _⟩ := boxC hY2
  obtain ⟨⟨_, a0, a1⟩, _⟩ := boxC (HX.out u2 HR2.out)
  clear hv1 hb1 hY1 hY2 hb2 HG
  go_wp2_with fail
  try rw [hu2]
  clear hu2 hu1' t0 t1 f0 f1 r0 r1
  refine HRG2.out.mono ?_
  rintro e u3 ⟨v3, rfl, hv3, hb3⟩
  obtain ⟨u3', u4, hu3', hu4, hY3, hY4, hb4⟩ := laid2 u3 24 (.int .i64 0) (.slice none 0 0) (.int .i64 gz) v3
  have HR4 : Hid (Below w1.heap.size w1 u4) := bsq HR2.out (bsq hb3 hb4)
  obtain ⟨da, dn, dc, rfl⟩ : ∃ a n c, v3 = .slice a n c := by obtain ⟨a, c, h, _⟩ := hv3.form; exact ⟨_, _, _, h⟩
  have HSA : Hid (Calls Try.prog 13 #[arV gz (.slice ta tn tc), arV gz (.slice da dn dc)] u4 fun e w' => e = .returned (.bool true) ∧ Below u4.heap.size u4 w') := by
    have := same_any ⟨gz, gL⟩ ⟨gz, gL⟩ (.slice ta tn tc) (.slice da dn dc) u4 (HV2.out.1.below (bsq hb3 hb4)) (hv3.below hb4)
    rw [samB_same] at this
    exact this
  obtain ⟨⟨hz3, t0, t1⟩, f0, f1⟩ := boxC hY3
  obtain ⟨⟨hz4, r0, r1⟩, _⟩ := boxC hY4
  obtain ⟨⟨_, i0, i1⟩, _⟩ := boxC (keep HV2.out.2 (bsq hb3 hb4))
  have e1 : (gk == gk) = true := by simp
  clear hv3 hb3 hY3 hY4 hb4 HRG2 HRG
  go_wp2_with fail
  try rw [hu4]
  clear hu4 hu3' t0 t1 f0 f1 r0 r1
  refine HSA.out.mono ?_
  rintro e u5 ⟨rfl, hb5⟩
  have HR5 : Hid (Below w1.heap.size w1 u5) := bsq HR4.out hb5
  clear hb5 HSA
  go_wp2
  go_ret
  exact ⟨rfl, HW.out _ HR5.out⟩
end Go.Proofs.Ytifebinpjpalhaa.arenaGives
