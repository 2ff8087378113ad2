/- PipeLaps: fates one by one do what they do together. -/
import Derived.Test.YtgnffifohdgekabPipL
namespace Go.Proofs.Ytgnffifohdgekab.pipeLaps
open Go.RowKit Go.Proofs.Ytgnffifohdgekab.pipe
set_option linter.unusedVariables false
set_option linter.unusedSimpArgs false
set_option maxRecDepth 100000

/-- the pipe that is tried on in X, the other one in Y -/
structure Lp (w0 : World) (X Y : Nat) (r : Pp) (tL tG : Value) (wr : World) (p : Pp) (vL vG : Value) : Prop where
  box : wr.heap[X]? = some (ppO p.s p.q vL vG)
  bx2 : wr.heap[Y]? = some (ppO r.s r.q tL tG)
  l1 : Ow (fun g => g ≠ X) wr vL p.L
  g1 : Ow (fun g => g ≠ X) wr vG p.G
  l2 : Ow (fun g => g ≠ X) wr tL r.L
  g2 : Ow (fun g => g ≠ X) wr tG r.G
  bel : Below w0.heap.size w0 wr
theorem Lp.below {w0 : World} {X Y : Nat} {r : Pp} {tL tG : Value} {wr u : World} {p : Pp} {vL vG : Value} (h : Lp w0 X Y r tL tG wr p vL vG) (hb : Below wr.heap.size wr u) : Lp w0 X Y r tL tG u p vL vG :=
  ⟨keep h.box hb, keep h.bx2 hb, h.l1.below hb, h.g1.below hb, h.l2.below hb, h.g2.below hb, bsq h.bel hb⟩
theorem Lp.next {w0 : World} {X Y : Nat} {r : Pp} {tL tG : Value} {wr u : World} {p p' : Pp} {vL vG qL qG : Value} (h : Lp w0 X Y r tL tG wr p vL vG) (hX : w0.heap.size ≤ X) (hXY : Y ≠ X)
    (o1 : Ow (fun g => wr.heap.size ≤ g) u qL p'.L) (o2 : Ow (fun g => wr.heap.size ≤ g) u qG p'.G) (hb : Below wr.heap.size wr u) :
    u.heap[X]? = some (ppO p.s p.q vL vG) ∧ ∃ uf, (((u.setCell ⟨X, 0, none⟩ (.int .i64 p'.s)).setCell ⟨X, 1, none⟩ (.int .i64 p'.q)).setCell ⟨X, 2, none⟩ qL).setCell ⟨X, 3, none⟩ qG = uf ∧ Lp w0 X Y r tL tG uf p' qL qG := by
  have h' := h.below hb
  have hlt : X < wr.heap.size := (Array.getElem?_eq_some_iff.1 h.box).1
  obtain ⟨uf, huf, hXf, hBf, hkf, hsf⟩ := pp_put u X _ _ _ _ p'.s p'.q qL qG h'.box
  refine ⟨h'.box, uf, huf, hXf, (hkf Y hXY).trans h'.bx2, ?_, ?_, h'.l2.kept (by omega) (fun g hg _ => hkf g hg), h'.g2.kept (by omega) (fun g hg _ => hkf g hg), hBf _ _ hX h'.bel⟩
  · exact (o1.mono (p' := fun g => g ≠ X) fun g hg _ => by omega).kept (by omega) (fun g hg _ => hkf g hg)
  · exact (o2.mono (p' := fun g => g ≠ X) fun g hg _ => by omega).kept (by omega) (fun g hg _ => hkf g hg)
theorem rn_new {T : List ByteArray} {F : List Int} (h : rnC T F = 0) : T.length ≤ 200 ∧ F.length ≤ 1000 ∧ F.all fateB = true ∧ nwC T = 0 ∧ nwP T = ⟨0, 0, T, []⟩ ∧ rnP T F = runP ⟨0, 0, T, []⟩ F := by
  have h1 : T.length ≤ 200 := by
    rcases Nat.lt_or_ge 200 T.length with q | q
    · have := (rnC_large (F := F) (T := T) (.inl q)).1; omega
    · exact q
  have h2 : F.length ≤ 1000 := by
    rcases Nat.lt_or_ge 1000 F.length with q | q
    · have := (rnC_large (F := F) (T := T) (.inr q)).1; omega
    · exact q
  have h3 : F.all fateB = true := by
    cases q : F.all fateB
    · have := (rnC_arg h1 h2 q).1; omega
    · rfl
  refine ⟨h1, h2, h3, by unfold nwC; rw [if_neg (by omega)], by unfold nwP; rw [if_neg (by omega)], (rnC_ok h1 h2 h3).2⟩
theorem new_err {T : List ByteArray} {F : List Int} (h : ¬ rnC T F = 0) : nwC T = 0 ∨ (¬ nwC T = 0 ∧ rnC T F = nwC T) := by
  by_cases q : 200 < T.length
  · right
    have h1 : nwC T = 2 := by unfold nwC; rw [if_pos q]
    rw [h1]
    exact ⟨by decide, (rnC_large (.inl q)).1⟩
  · left; unfold nwC; rw [if_neg q]
set_option maxHeartbeats 4000000 in
theorem walk (vT : Value) (T : List ByteArray) (vF : Value) (F : List Int) (w : World) (hT : Rts w vT T) (hF : Ris w vF F) :
    Calls Try.prog 3 #[vT, vF] w fun e w' => e = .returned (.bool true) ∧ Below w.heap.size w w' := by
  have HNW : Hid (Calls Try.prog 9 #[vT] w fun e w' => ∃ qL qG, e = .returned (.tuple #[ppV (nwP T).s (nwP T).q qL qG, .int .i64 (nwC T)]) ∧ Ow (fun g => w.heap.size ≤ g) w' qL (nwP T).L ∧ Ow (fun g => w.heap.size ≤ g) w' qG (nwP T).G ∧ Below w.heap.size w w') := new_any vT T w hT
  have HR : Hid (∀ u, Below w.heap.size w u → Calls Try.prog 10 #[vT, vF] u fun e w' => ∃ qL qG, e = .returned (.tuple #[ppV (rnP T F).s (rnP T F).q qL qG, .int .i64 (rnC T F)]) ∧ Ow (fun g => u.heap.size ≤ g) w' qL (rnP T F).L ∧ Ow (fun g => u.heap.size ≤ g) w' qG (rnP T F).G ∧ Below u.heap.size u w') := fun u hu => run_any vT vF T F u (hT.below hu) (hF.below hu)
  have HLI : Hid (∀ u, Calls Try.prog 11 #[] u fun e w' => e = .returned (.bool true) ∧ Below u.heap.size u w') := lives_any
  have HF : Hid (Ris w vF F) := hF
  obtain ⟨ta, tc, rfl, htl, htm⟩ := hT.form
  obtain ⟨fa, fc, rfl, hfl, hfm, _⟩ := hF
  unfold maxLen at htm hfm
  generalize T.length = tn at HNW HR htl hT ⊢
  obtain ⟨fn, hfn⟩ : ∃ n, F.length = n := ⟨_, rfl⟩
  have HFN : Hid (F.length = fn) := hfn
  rw [hfn] at HR HF hfl ⊢
  clear hT hfn
  go_enter Try.func3, Try.ntmps3
  go_wp2_with fail
  refine HNW.out.mono ?_
  rintro e u ⟨qL, qG, rfl, o1, o2, hb⟩
  obtain ⟨u1, uf, hu1, huf, hY1, hYf, hbf⟩ := pp_laid u (nwP T).s (nwP T).q qL qG
  have hbwf := bsq hb hbf
  have HRR := HR.out uf hbwf
  have HRR2 : Hid (Calls Try.prog 10 #[.slice ta tn tc, .slice fa fn fc] uf fun e w' => ∃ qL qG, e = .returned (.tuple #[ppV (rnP T F).s (rnP T F).q qL qG, .int .i64 (rnC T F)]) ∧ Ow (fun g => uf.heap.size ≤ g) w' qL (rnP T F).L ∧ Ow (fun g => uf.heap.size ≤ g) w' qG (rnP T F).G ∧ Below uf.heap.size uf w') := HRR
  have H1 : Hid (uf.heap[u.heap.size]? = some (ppO (nwP T).s (nwP T).q qL qG) ∧ Ow (fun g => g ≠ u.heap.size) uf qL (nwP T).L ∧ Ow (fun g => g ≠ u.heap.size) uf qG (nwP T).G ∧ Below w.heap.size w uf ∧ w.heap.size ≤ u.heap.size) :=
    ⟨hYf, (o1.mono (p' := fun g => g ≠ u.heap.size) fun g _ hlt => by omega).below hbf, (o2.mono (p' := fun g => g ≠ u.heap.size) fun g _ hlt => by omega).below hbf, hbwf, hb.size⟩
  obtain ⟨b1, d1, h1, _⟩ := o1
  obtain ⟨b2, d2, h2, _⟩ := o2
  subst h1 h2
  obtain ⟨⟨hz1, y0, y1, y2, y3⟩, g0, g1, g2, g3⟩ := box4 hY1
  generalize (nwP T).L.length = m1 at *
  generalize (nwP T).G.length = m2 at *
  obtain ⟨s1, hs1⟩ : ∃ s, (nwP T).s = s := ⟨_, rfl⟩
  obtain ⟨q1, hq1⟩ : ∃ s, (nwP T).q = s := ⟨_, rfl⟩
  obtain ⟨z1, hz1'⟩ : ∃ s, nwC T = s := ⟨_, rfl⟩
  have HS1 : Hid (s1 = (nwP T).s ∧ q1 = (nwP T).q ∧ z1 = nwC T) := ⟨hs1.symm, hq1.symm, hz1'.symm⟩
  rw [hs1, hq1] at huf
  rw [hs1, hq1, hz1']
  clear hb hY1 hYf hbf HNW HR HRR hbwf hs1 hq1 hz1'
  go_wp2_with fail
  try rw [huf]
  refine HRR2.out.mono ?_
  rintro e v ⟨tL, tG, rfl, o3, o4, hb2⟩
  obtain ⟨v1, vf, hv1, hvf, hZ1, hZf, hbv⟩ := pp_laid v (rnP T F).s (rnP T F).q tL tG
  have hux : u.heap.size < uf.heap.size := (Array.getElem?_eq_some_iff.1 H1.out.1).1
  have HL : Hid (Lp w u.heap.size v.heap.size (rnP T F) tL tG vf (nwP T) (.slice b1 m1 d1) (.slice b2 m2 d2) ∧ w.heap.size ≤ u.heap.size ∧ v.heap.size ≠ u.heap.size) := by
    have hbb := bsq hb2 hbv
    have hsz := hb2.size
    exact ⟨⟨keep H1.out.1 hbb, hZf, H1.out.2.1.below hbb, H1.out.2.2.1.below hbb, (o3.mono (p' := fun g => g ≠ u.heap.size) fun g hg _ => by omega).below hbv, (o4.mono (p' := fun g => g ≠ u.heap.size) fun g hg _ => by omega).below hbv, bsq H1.out.2.2.2.1 hbb⟩, H1.out.2.2.2.2, by omega⟩
  obtain ⟨b3, d3, h3, _⟩ := o3
  obtain ⟨b4, d4, h4, _⟩ := o4
  subst h3 h4
  obtain ⟨⟨hz2, x0, x1, x2, x3⟩, f0, f1, f2, f3⟩ := box4 hZ1
  generalize (rnP T F).L.length = m3 at *
  generalize (rnP T F).G.length = m4 at *
  obtain ⟨s3, hs3⟩ : ∃ s, (rnP T F).s = s := ⟨_, rfl⟩
  obtain ⟨q3, hq3⟩ : ∃ s, (rnP T F).q = s := ⟨_, rfl⟩
  obtain ⟨z3, hz3⟩ : ∃ s, rnC T F = s := ⟨_, rfl⟩
  have HS3 : Hid (s3 = (rnP T F).s ∧ q3 = (rnP T F).q ∧ z3 = rnC T F) := ⟨hs3.symm, hq3.symm, hz3.symm⟩
  rw [hs3, hq3] at hvf
  rw [hs3, hq3, hz3]
  clear hb2 hZ1 hZf hbv HRR2 hs3 hq3 hz3 H1 hux hu1 huf y0 y1 y2 y3 g0 g1 g2 g3
  go_wp2_with fail
  try rw [hvf]
  refine (HLI.out _).mono ?_
  rintro e v2 ⟨rfl, hb3⟩
  have HL2 : Hid (Lp w u.heap.size v.heap.size (rnP T F) (.slice b3 m3 d3) (.slice b4 m4 d4) v2 (nwP T) (.slice b1 m1 d1) (.slice b2 m2 d2) ∧ w.heap.size ≤ u.heap.size ∧ v.heap.size ≠ u.heap.size) := ⟨HL.out.1.below hb3, HL.out.2⟩
  clear hb3 HL hv1 hvf x0 x1 x2 x3 f0 f1 f2 f3
  by_cases hz0 : ¬ z3 = 0
  · have e0 : (z3 != 0) = true := by simpa using hz0
    have hne : z1 = 0 ∨ (¬ z1 = 0 ∧ z3 = z1) := by
      have h := HS3.out.2.2
      have h' := HS1.out.2.2
      rw [h, h']
      exact new_err (by rw [← h]; exact hz0)
    clear HS1 HS3
    rcases hne with rfl | ⟨h5, rfl⟩
    · clear hz0
      go_wp2_with fail
      refine (HLI.out _).mono ?_
      rintro e u4 ⟨rfl, hb4⟩
      have HB : Hid (Below w.heap.size w u4) := bsq HL2.out.1.bel hb4
      clear hb4
      go_wp2
      go_ret
      exact ⟨rfl, HB.out⟩
    · have e5 : (z3 == 0) = false := by simpa using h5
      clear hz0 h5
      go_wp2_with fail
      refine (HLI.out _).mono ?_
      rintro e u4 ⟨rfl, hb4⟩
      have HB : Hid (Below w.heap.size w u4) := bsq HL2.out.1.bel hb4
      clear hb4
      go_wp2
      go_ret
      exact ⟨rfl, HB.out⟩
  have hz0 : z3 = 0 := Classical.not_not.1 hz0
  subst hz0
  have HA : Hid (T.length ≤ 200 ∧ F.length ≤ 1000 ∧ F.all fateB = true ∧ nwC T = 0 ∧ nwP T = ⟨0, 0, T, []⟩ ∧ rnP T F = runP ⟨0, 0, T, []⟩ F) := rn_new HS3.out.2.2.symm
  have HEN : Hid (rnP T F = atP T (cnt T.length F)) := by rw [HA.out.2.2.2.2.2, run_cnt]; rfl
  have HX : Hid (w.heap.size ≤ u.heap.size ∧ v.heap.size ≠ u.heap.size) := HL2.out.2
  have HL3 : Hid (Lp w u.heap.size v.heap.size (rnP T F) (.slice b3 m3 d3) (.slice b4 m4 d4) v2 (atP T (0, 0)) (.slice b1 m1 d1) (.slice b2 m2 d2)) := by
    have := HL2.out.1
    rw [HA.out.2.2.2.2.1] at this
    exact this
  obtain ⟨r, hr⟩ : ∃ r, rnP T F = r := ⟨_, rfl⟩
  rw [hr] at HS3 HL3 HEN
  clear HL2 HS1 hr
  go_wp2
  go_loopw [40] (fun i wr => ∃ (k : Nat) (cc : Nat × Nat) (vL vG : Value), k ≤ fn ∧ i = .int .i64 (k : Int) ∧ Hid (okc T.length cc ∧ Lp w u.heap.size v.heap.size r (.slice b3 m3 d3) (.slice b4 m4 d4) wr (atP T cc) vL vG ∧ runP (atP T cc) (F.drop k) = r)) (fun i _ => fn - (intOf i).toNat)
  case atStart => exact ⟨0, (0, 0), _, _, Nat.zero_le _, rfl, okc_zero _, HL3.out, by rw [HEN.out, ← run_cnt]; rfl⟩
  case round =>
    obtain ⟨k, cc, vL, vG, hk, rfl, HQ⟩ := hrel
    obtain ⟨b5, d5, h5, _⟩ := HQ.out.2.1.l1
    obtain ⟨b6, d6, h6, _⟩ := HQ.out.2.1.g1
    obtain ⟨⟨_, c0, c1, c2, c3⟩, i0, i1, i2, i3⟩ := box4 HQ.out.2.1.box
    by_cases hlt : ¬ k < fn
    · have hend : atP T cc = r := by have := HQ.out.2.2; rw [List.drop_eq_nil_of_le (by have := HFN.out; omega), runP_nil] at this; exact this
      rw [hend] at HQ c0 c1 h5 h6
      obtain ⟨⟨_, y0, y1, y2, y3⟩, _⟩ := box4 HQ.out.2.1.bx2
      have HSM : Hid (Calls Try.prog 13 #[ppV r.s r.q vL vG, ppV r.s r.q (.slice b3 m3 d3) (.slice b4 m4 d4)] wr fun e w' => e = .returned (.bool true) ∧ Below wr.heap.size wr w') := by
        have := samePipe_any r r vL vG _ _ wr ⟨HQ.out.2.1.l1.rts, HQ.out.2.1.g1.rts⟩ ⟨HQ.out.2.1.l2.rts, HQ.out.2.1.g2.rts⟩
        rw [samB_same] at this
        exact this
      have HBw : Hid (Below w.heap.size w wr) := HQ.out.2.1.bel
      subst h5 h6
      clear HQ hend HL3 HEN HA HS3
      go_wp2_with fail
      refine HSM.out.mono ?_
      rintro e u4 ⟨rfl, hb4⟩
      have HB : Hid (Below w.heap.size w u4) := bsq HBw.out hb4
      clear hb4
      go_wp2
      go_ret
      exact ⟨rfl, HB.out⟩
    · have hlt : k < fn := by omega
      have hkF : k < F.length := by have := HFN.out; omega
      obtain ⟨x, hx⟩ : ∃ x, F[k]? = some x := ⟨F[k], List.getElem?_eq_getElem hkF⟩
      have hxk : F[k] = x := (List.getElem?_eq_some_iff.1 hx).2
      obtain ⟨g, off, rfl, hcell⟩ := HF.out.at k x hx
      have cF := hcell wr HQ.out.2.1.bel
      have hfx : fateB x = true := List.all_eq_true.1 HA.out.2.2.1 x (by rw [← hxk]; exact List.getElem_mem hkF)
      obtain ⟨e1, e2⟩ := st_at HQ.out.1 HA.out.1 hfx
      rw [send_at HQ.out.1] at e2
      have HST : Hid (Calls Try.prog 12 #[ppV (atP T cc).s (atP T cc).q vL vG, .int .i64 x] wr fun e w' => ∃ qL qG, e = .returned (.tuple #[ppV (atP T (cs T.length cc x)).s (atP T (cs T.length cc x)).q qL qG, .int .i64 0]) ∧ Ow (fun g => wr.heap.size ≤ g) w' qL (atP T (cs T.length cc x)).L ∧ Ow (fun g => wr.heap.size ≤ g) w' qG (atP T (cs T.length cc x)).G ∧ Below wr.heap.size wr w') := by
        have := step_any (atP T cc) vL vG x wr HQ.out.2.1.l1.rts HQ.out.2.1.g1.rts
        rw [e1, e2] at this
        exact this
      have HNX : Hid (okc T.length (cs T.length cc x) ∧ runP (atP T (cs T.length cc x)) (F.drop (k + 1)) = r) := by
        refine ⟨okc_cs HQ.out.1 x, ?_⟩
        have := HQ.out.2.2
        rw [List.drop_eq_getElem_cons hkF, hxk, runP_cons, send_at HQ.out.1] at this
        exact this
      have HLp : Hid (Lp w u.heap.size v.heap.size r (.slice b3 m3 d3) (.slice b4 m4 d4) wr (atP T cc) vL vG) := HQ.out.2.1
      clear hcell hx hxk hkF hfx e1 e2 HQ
      subst h5 h6
      go_wp2_with fail
      refine HST.out.mono ?_
      rintro e v3 ⟨qL, qG, rfl, o5, o6, hb5⟩
      obtain ⟨hB5, v4, hv4, hL4⟩ := HLp.out.next HX.out.1 HX.out.2 o5 o6 hb5
      obtain ⟨b7, d7, h7, _⟩ := o5
      obtain ⟨b8, d8, h8, _⟩ := o6
      subst h7 h8
      obtain ⟨⟨_, z0, z1, z2, z3⟩, j0, j1, j2, j3⟩ := box4 hB5
      have HE : Hid (okc T.length (cs T.length cc x) ∧ Lp w u.heap.size v.heap.size r (.slice b3 m3 d3) (.slice b4 m4 d4) v4 (atP T (cs T.length cc x)) (.slice b7 (atP T (cs T.length cc x)).L.length d7) (.slice b8 (atP T (cs T.length cc x)).G.length d8) ∧ runP (atP T (cs T.length cc x)) (F.drop (k + 1)) = r) := ⟨HNX.out.1, hL4, HNX.out.2⟩
      generalize (atP T (cs T.length cc x)).L.length = m7 at *
      generalize (atP T (cs T.length cc x)).G.length = m8 at *
      generalize (atP T (cs T.length cc x)).s = s7 at *
      generalize (atP T (cs T.length cc x)).q = q7 at *
      clear hB5 hL4 hb5 HST HLp HNX c0 c1 c2 c3 i0 i1 i2 i3
      go_wp2
      try rw [hv4]
      go_roundw
      case rel => exact ⟨k + 1, _, _, _, by omega, by go_num, HE.out⟩
      case measure => simp [intOf]; omega
end Go.Proofs.Ytgnffifohdgekab.pipeLaps
