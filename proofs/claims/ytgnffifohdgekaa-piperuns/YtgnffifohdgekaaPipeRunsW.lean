/- PipeRuns: whatever is handed in, Run answers what the document says. -/
import Derived.Test.YtgnffifohdgekaaPipR
import Derived.Test.YtgnffifohdgekaaPipL
namespace Go.Proofs.Ytgnffifohdgekaa.pipeRuns
open Go.RowKit Go.Proofs.Ytgnffifohdgekaa.pipe
set_option linter.unusedVariables false
set_option linter.unusedSimpArgs false
set_option maxRecDepth 100000

set_option maxHeartbeats 1000000 in
theorem walk (vT : Value) (T : List ByteArray) (vF : Value) (F : List Int) (w : World) (hT : Rts w vT T) (hF : Ris w vF F) :
    Calls Try.prog 4 #[vT, vF] w fun e w' => e = .returned (.bool true) ∧ Below w.heap.size w w' := by
  have HR : Hid (Calls Try.prog 14 #[vT, vF] w fun e w' => ∃ qL qG, e = .returned (.tuple #[ppV (rnP T F).s (rnP T F).q qL qG, .int .i64 (rnC T F)]) ∧ Rp w' (rnP T F) qL qG ∧ Below w.heap.size w w') := (run_any vT vF T F w hT hF).mono fun e w' h => h.read
  have HR2 : Hid (∀ u, Below w.heap.size w u → Calls Try.prog 15 #[vT, vF] u fun e w' => ∃ qL qG, e = .returned (.tuple #[ppV (rnP T F).s (rnP T F).q qL qG, .int .i64 (rnC T F)]) ∧ Rp w' (rnP T F) qL qG ∧ Below u.heap.size u w') := fun u hu => refRun_any vT vF T F u (hT.below hu) (hF.below hu)
  obtain ⟨ta, tc, rfl, htl, htm⟩ := hT.form
  obtain ⟨fa, fc, rfl, hfl, hfm, _⟩ := hF
  clear hT htl htm hfl hfm
  generalize T.length = tn at *
  generalize F.length = fn at *
  obtain ⟨r, hr⟩ : ∃ r, rnP T F = r := ⟨_, rfl⟩
  obtain ⟨z, hz⟩ : ∃ z, rnC T F = z := ⟨_, rfl⟩
  rw [hr, hz] at HR HR2
  clear hr hz
  go_enter Try.func4, Try.ntmps4
  go_wp2_with fail
  refine HR.out.mono ?_
  rintro e u ⟨qL, qG, rfl, hR, hb⟩
  obtain ⟨u1, uf, hu1, huf, hY1, hYf, hbf⟩ := pp_laid u r.s r.q qL qG
  have HC := HR2.out uf (bsq hb hbf)
  have HC2 : Hid (Calls Try.prog 15 #[.slice ta tn tc, .slice fa fn fc] uf fun e w' => ∃ qL qG, e = .returned (.tuple #[ppV r.s r.q qL qG, .int .i64 z]) ∧ Rp w' r qL qG ∧ Below uf.heap.size uf w') := HC
  have HQ : Hid (∀ v, Below uf.heap.size uf v → Rp v r qL qG ∧ v.heap[u.heap.size]? = some (ppO r.s r.q qL qG)) := fun v hv => ⟨hR.below (bsq hbf hv), keep hYf hv⟩
  have HBf : Hid (Below w.heap.size w uf) := bsq hb hbf
  obtain ⟨b1, d1, rfl, _, _⟩ := hR.1.form
  obtain ⟨b2, d2, rfl, _, _⟩ := hR.2.form
  obtain ⟨⟨hz1, y0, y1, y2, y3⟩, g0, g1, g2, g3⟩ := box4 hY1
  generalize r.L.length = m1 at *
  generalize r.G.length = m2 at *
  clear hR hb hY1 hYf hbf HR HR2 HC
  go_wp2_with fail
  try rw [huf]
  refine HC2.out.mono ?_
  rintro e v ⟨tL, tG, rfl, hS, hb2⟩
  obtain ⟨v1, vf, hv1, hvf, hZ1, hZf, hbv⟩ := pp_laid v r.s r.q tL tG
  obtain ⟨hQ, hq⟩ := HQ.out vf (bsq hb2 hbv)
  have HSM : Hid (Calls Try.prog 12 #[ppV r.s r.q (.slice b1 m1 d1) (.slice b2 m2 d2), ppV r.s r.q tL tG] vf fun e w' => e = .returned (.bool true) ∧ Below vf.heap.size vf w') := by
    have := samePipe_any r r _ _ _ _ vf hQ (hS.below hbv)
    rw [samB_same] at this
    exact this
  have HB : Hid (Below w.heap.size w vf) := bsq HBf.out (bsq hb2 hbv)
  obtain ⟨b3, d3, rfl, _, _⟩ := hS.1.form
  obtain ⟨b4, d4, rfl, _, _⟩ := hS.2.form
  obtain ⟨⟨_, x0, x1, x2, x3⟩, f0, f1, f2, f3⟩ := box4 hZ1
  obtain ⟨⟨_, i0, i1, i2, i3⟩, _⟩ := box4 hq
  obtain ⟨⟨_, j0, j1, j2, j3⟩, _⟩ := box4 hZf
  generalize r.L.length = m3 at *
  generalize r.G.length = m4 at *
  clear hS hb2 hZ1 hZf hbv hQ hq HQ HC2 HBf hu1 huf y0 y1 y2 y3 g0 g1 g2 g3
  go_wp2_with fail
  try rw [hvf]
  refine HSM.out.mono ?_
  rintro e u5 ⟨rfl, hb5⟩
  have HB5 : Hid (Below w.heap.size w u5) := bsq HB.out hb5
  clear hb5 HSM HB
  go_wp2
  go_ret
  exact ⟨by simp, HB5.out⟩
end Go.Proofs.Ytgnffifohdgekaa.pipeRuns
