/- PipeOwn: a Pipe that is handed in stays as it was, and what is told shares nothing with it. -/
import Derived.Test.YtgnffifohdgekabPipW
import Derived.Test.YtgnffifohdgekabPipN
import Derived.SizedLaws
namespace Go.Proofs.Ytgnffifohdgekab.pipeOwn
open Go.RowKit Go.Proofs.Ytgnffifohdgekab.pipe
set_option linter.unusedVariables false
set_option linter.unusedSimpArgs false
set_option maxRecDepth 100000

set_option maxHeartbeats 8000000 in
theorem walk (p : Pp) (vL vG : Value) (f : Int) (wf : (Lit.int .i64 f).wf = true) (w : World) (hp : Rp w p vL vG) (hk : p.L.length * 16 ≤ reachBytes ∧ p.G.length * 16 ≤ reachBytes) :
    Calls Try.prog 5 #[ppV p.s p.q vL vG, .int .i64 f] w fun e w' => e = .returned (.bool true) ∧ Below w.heap.size w w' := by
  clear wf
  unfold reachBytes at hk
  obtain ⟨w1, hw1, hX1, hb1⟩ := pp_named w p.s p.q vL vG
  have hlt1 : w.heap.size < w1.heap.size := (Array.getElem?_eq_some_iff.1 hX1).1
  have HST : Hid (∀ u, Below w1.heap.size w1 u → Calls Try.prog 12 #[ppV p.s p.q vL vG, .int .i64 f] u (Ans u (stP p f) (stC p f))) := fun u hu => step_any p vL vG f u (hp.below (bsq hb1 hu)).1 (hp.below (bsq hb1 hu)).2
  have HLI : Hid (∀ u, Calls Try.prog 11 #[] u fun e w' => e = .returned (.bool true) ∧ Below u.heap.size u w') := lives_any
  have HP : Hid (∀ u, Below w1.heap.size w1 u → Rp u p vL vG ∧ u.heap[w.heap.size]? = some (ppO p.s p.q vL vG) ∧ Below w.heap.size w u) := fun u hu => ⟨hp.below (bsq hb1 hu), keep hX1 hu, bsq hb1 hu⟩
  have HCL : Hid (∀ u, Below w1.heap.size w1 u → Calls Try.prog 14 #[vL] u fun e w' => ∃ v', e = .returned v' ∧ Txs w' u.heap.size v' p.L ∧ Below u.heap.size u w') := fun u hu => cloneT_any _ p.L u (hp.1.below (bsq hb1 hu)) (by omega)
  have HCG : Hid (∀ u, Below w1.heap.size w1 u → Calls Try.prog 14 #[vG] u fun e w' => ∃ v', e = .returned v' ∧ Txs w' u.heap.size v' p.G ∧ Below u.heap.size u w') := fun u hu => cloneT_any _ p.G u (hp.2.below (bsq hb1 hu)) (by omega)
  have HBX : Hid (∀ W, Below w1.heap.size w1 W → W.heap[w.heap.size]? = some (ppO p.s p.q vL vG)) := fun W hW => keep hX1 hW
  obtain ⟨la, lc, hv1, _, _⟩ := hp.1.form
  obtain ⟨ga, gc, hv2, _, _⟩ := hp.2.form
  obtain ⟨ln, hl⟩ : ∃ n, p.L.length = n := ⟨_, rfl⟩
  obtain ⟨gn, hg⟩ : ∃ n, p.G.length = n := ⟨_, rfl⟩
  have HLN : Hid (p.L.length = ln) := hl
  have HGN : Hid (p.G.length = gn) := hg
  rw [hl] at hv1
  rw [hg] at hv2
  subst hv1 hv2
  clear hp hX1 hb1 hl hg hk hlt1
  go_enter Try.func5, Try.ntmps5
  go_upto_region 1 with (fail)
  go_cut [5] from 9 (fun ov wx => ∃ (Xo B : Nat) (oL oG : Value), ov = .pointer (some ⟨Xo, 0, none⟩) ∧ Bx w1.heap.size Xo B wx p oL oG ∧ Below w1.heap.size w1 wx ∧ w1.heap.size ≤ Xo ∧ w1.heap.size ≤ B)
  case first =>
    refine wp_abs (fun a0 => a0.tmps.size = 44 ∧ (∀ h, a0.tmps[2]'h = .pointer (some ⟨w.heap.size, 0, none⟩))) ⟨rfl, fun _ => rfl⟩ ?_
    rintro a0 ⟨hsz, s2⟩ ha0
    refine wp_region_held (S := fun W => Below w1.heap.size w1 W) (by kernel_rfl) ?_
    have hS0 : Below w1.heap.size w1 w1.drew := (Below.refl _ _).drew
    refine h_take (i := 0) (.pointer (some ⟨w.heap.size, 0, none⟩)) rfl (by kernel_rfl) (by kernel_rfl) (by kernel_rfl) (fun _ _ _ h => h) rfl hS0 (fun W hW => by simp [execOp, go_sem, Act.put, hsz, s2]) ?_
    refine h_take (i := 1) (.int .i64 p.s) rfl (by kernel_rfl) (by kernel_rfl) (by kernel_rfl) (fun _ _ _ h => h) rfl hS0 (fun W hW => by obtain ⟨⟨zb, x0, x1, x2, x3⟩, _⟩ := box4 (HBX.out W hW); simp [execOp, go_sem, Act.put, hsz, s2, x0, x1, x2, x3]) ?_
    refine h_take (i := 2) (.pointer (some ⟨w.heap.size, 1, none⟩)) rfl (by kernel_rfl) (by kernel_rfl) (by kernel_rfl) (fun _ _ _ h => h) rfl hS0 (fun W hW => by simp [execOp, go_sem, Act.put, hsz, s2]) ?_
    refine h_take (i := 3) (.int .i64 p.q) rfl (by kernel_rfl) (by kernel_rfl) (by kernel_rfl) (fun _ _ _ h => h) rfl hS0 (fun W hW => by obtain ⟨⟨zb, x0, x1, x2, x3⟩, _⟩ := box4 (HBX.out W hW); simp [execOp, go_sem, Act.put, hsz, s2, x0, x1, x2, x3]) ?_
    refine h_take (i := 4) (.pointer (some ⟨w.heap.size, 2, none⟩)) rfl (by kernel_rfl) (by kernel_rfl) (by kernel_rfl) (fun _ _ _ h => h) rfl hS0 (fun W hW => by simp [execOp, go_sem, Act.put, hsz, s2]) ?_
    refine h_take (i := 5) (.slice la ln lc) rfl (by kernel_rfl) (by kernel_rfl) (by kernel_rfl) (fun _ _ _ h => h) rfl hS0 (fun W hW => by obtain ⟨⟨zb, x0, x1, x2, x3⟩, _⟩ := box4 (HBX.out W hW); simp [execOp, go_sem, Act.put, hsz, s2, x0, x1, x2, x3]) ?_
    refine h_take (i := 7) (.pointer (some ⟨w.heap.size, 3, none⟩)) rfl (by kernel_rfl) (by kernel_rfl) (by kernel_rfl) (fun _ _ _ h => h) rfl hS0 (fun W hW => by simp [execOp, go_sem, Act.put, hsz, s2]) ?_
    refine h_take (i := 8) (.slice ga gn gc) rfl (by kernel_rfl) (by kernel_rfl) (by kernel_rfl) (fun _ _ _ h => h) rfl hS0 (fun W hW => by obtain ⟨⟨zb, x0, x1, x2, x3⟩, _⟩ := box4 (HBX.out W hW); simp [execOp, go_sem, Act.put, hsz, s2, x0, x1, x2, x3]) ?_
    refine h_two 6 11 (by kernel_rfl) ?_ ?_
    · refine o_call 14 #[.slice la ln lc] rfl rfl (by simp [execOp, go_sem, Act.put, hsz, s2]) ((HCL.out _ hS0).mono ?_)
      rintro e u1 ⟨oL, rfl, tL, hb1⟩
      obtain ⟨aL, kL, rfl, _, _⟩ := tL.form
      rw [HLN.out] at tL ⊢
      have hS1 : Below w1.heap.size w1 u1 := bsq hS0 hb1
      refine ⟨_, rfl, hS1, ?_⟩
      refine h_two 9 11 (by kernel_rfl) ?_ ?_
      · refine o_call 14 #[.slice ga gn gc] rfl rfl (by simp [execOp, go_sem, Act.put, hsz, s2]) ((HCG.out _ hS1).mono ?_)
        rintro e u2 ⟨oG, rfl, tG, hb2⟩
        obtain ⟨aG, kG, rfl, _, _⟩ := tG.form
        rw [HGN.out] at tG ⊢
        have hS2 : Below w1.heap.size w1 u2 := bsq hS1 hb2
        refine ⟨_, rfl, hS2, ?_⟩
        refine h_take (i := 10) (ppV p.s p.q (.slice aL ln kL) (.slice aG gn kG)) rfl (by kernel_rfl) (by kernel_rfl) (by kernel_rfl) (fun _ _ _ h => h) rfl hS2 (fun W hW => by simp [execOp, go_sem, Act.put, hsz, s2]) ?_
        refine h_value (i := 11) (w' := u2.alloc zO) (.pointer (some ⟨u2.heap.size, 0, none⟩)) rfl (by kernel_rfl) rfl (by simp [execOp, go_sem, Act.put, hsz, s2]) (bsq hS2 (balloc _ _)) ?_
        have hX := (MapKept.heap_alloc u2 zO).1
        have z1 : w1.heap.size ≤ u1.heap.size := hS1.size
        have z2 : u1.heap.size ≤ u2.heap.size := hb2.size
        have z3 : u2.heap.size ≤ (u2.alloc zO).heap.size := (balloc _ _).size
        obtain ⟨⟨zz, q0, q1, q2, q3⟩, f0, f1, f2, f3⟩ := box4 hX
        obtain ⟨uf, huf, hBx, hSf⟩ := Bx.made (p := p) (b0 := w1.heap.size) (Xo := u2.heap.size) (B := u1.heap.size) (bsq hS2 (balloc _ _)) hX (((tL.ow.mono (p' := fun g => w1.heap.size ≤ g ∧ g < u1.heap.size ∧ g ≠ u2.heap.size) fun g hg hlt => ⟨hg.2, hlt, by omega⟩).below hb2).below (balloc _ _)) (tG.below (balloc _ _)) (by omega) (by omega) (by omega)
        have hSf' : Below w1.heap.size w1 uf := hSf
        refine h_skip (i := 12) (w' := uf) rfl (by kernel_rfl) rfl (by rw [← huf]; simp [execOp, go_sem, Act.put, hsz, s2, zz, q0, q1, q2, q3, f0, f1, f2, f3]) hSf' ?_
        refine wpAnyH_done (by kernel_rfl) ?_ _
        clear huf q0 q1 q2 q3 f0 f1 f2 f3
        subst ha0
        clear hsz s2
        go_simp
        go_wp2_with fail
        go_meet
        case rel => exact ⟨_, _, _, _, rfl, hBx, hSf, by omega, by omega⟩
      · refine o_value (w' := u1.alloc zO) (.pointer (some ⟨u1.heap.size, 0, none⟩)) rfl rfl (by simp [execOp, go_sem, Act.put, hsz, s2]) ?_
        have hS3 : Below w1.heap.size w1 (u1.alloc zO) := bsq hS1 (balloc _ _)
        refine ⟨hS3, ?_⟩
        refine wpAnyH_all (rs := [9]) (by kernel_rfl) (by simp) (fun k hk => ?_)
        obtain rfl : k = 9 := by simpa using hk
        refine o_call 14 #[.slice ga gn gc] rfl rfl (by simp [execOp, go_sem, Act.put, hsz, s2]) ((HCG.out _ hS3).mono ?_)
        rintro e u2 ⟨oG, rfl, tG, hb2⟩
        obtain ⟨aG, kG, rfl, _, _⟩ := tG.form
        rw [HGN.out] at tG ⊢
        have hS2 : Below w1.heap.size w1 u2 := bsq hS3 hb2
        refine ⟨_, rfl, hS2, ?_⟩
        refine h_take (i := 10) (ppV p.s p.q (.slice aL ln kL) (.slice aG gn kG)) rfl (by kernel_rfl) (by kernel_rfl) (by kernel_rfl) (fun _ _ _ h => h) rfl hS2 (fun W hW => by simp [execOp, go_sem, Act.put, hsz, s2]) ?_
        have hX := keep (MapKept.heap_alloc u1 zO).1 hb2
        have z1 : w1.heap.size ≤ u1.heap.size := hS1.size
        have z2 : (u1.alloc zO).heap.size ≤ u2.heap.size := hb2.size
        have z3 : (u1.alloc zO).heap.size = u1.heap.size + 1 := by simp
        obtain ⟨⟨zz, q0, q1, q2, q3⟩, f0, f1, f2, f3⟩ := box4 hX
        obtain ⟨uf, huf, hBx, hSf⟩ := Bx.made (p := p) (b0 := w1.heap.size) (Xo := u1.heap.size) (B := (u1.alloc zO).heap.size) hS2 hX (((tL.ow.mono (p' := fun g => w1.heap.size ≤ g ∧ g < (u1.alloc zO).heap.size ∧ g ≠ u1.heap.size) fun g hg hlt => ⟨hg.2, by omega, by omega⟩).below (balloc _ _)).below hb2) tG (by omega) (by omega) (by omega)
        have hSf' : Below w1.heap.size w1 uf := hSf
        refine h_skip (i := 12) (w' := uf) rfl (by kernel_rfl) rfl (by rw [← huf]; simp [execOp, go_sem, Act.put, hsz, s2, zz, q0, q1, q2, q3, f0, f1, f2, f3]) hSf' ?_
        refine wpAnyH_done (by kernel_rfl) ?_ _
        clear huf q0 q1 q2 q3 f0 f1 f2 f3
        subst ha0
        clear hsz s2
        go_simp
        go_wp2_with fail
        go_meet
        case rel => exact ⟨_, _, _, _, rfl, hBx, hSf, by omega, by omega⟩
    · refine o_value (w' := w1.drew.alloc zO) (.pointer (some ⟨w1.heap.size, 0, none⟩)) rfl rfl (by simp [execOp, go_sem, Act.put, hsz, s2]) ?_
      have hS3 : Below w1.heap.size w1 (w1.drew.alloc zO) := bsq hS0 (balloc _ _)
      refine ⟨hS3, ?_⟩
      refine wpAnyH_all (rs := [6]) (by kernel_rfl) (by simp) (fun k hk => ?_)
      obtain rfl : k = 6 := by simpa using hk
      refine o_call 14 #[.slice la ln lc] rfl rfl (by simp [execOp, go_sem, Act.put, hsz, s2]) ((HCL.out _ hS3).mono ?_)
      rintro e u1 ⟨oL, rfl, tL, hb1⟩
      obtain ⟨aL, kL, rfl, _, _⟩ := tL.form
      rw [HLN.out] at tL ⊢
      have hS1 : Below w1.heap.size w1 u1 := bsq hS3 hb1
      have hX1 : u1.heap[w1.heap.size]? = some zO := keep (MapKept.heap_alloc w1.drew zO).1 hb1
      refine ⟨_, rfl, hS1, ?_⟩
      refine wpAnyH_all (rs := [9]) (by kernel_rfl) (by simp) (fun k hk => ?_)
      obtain rfl : k = 9 := by simpa using hk
      refine o_call 14 #[.slice ga gn gc] rfl rfl (by simp [execOp, go_sem, Act.put, hsz, s2]) ((HCG.out _ hS1).mono ?_)
      rintro e u2 ⟨oG, rfl, tG, hb2⟩
      obtain ⟨aG, kG, rfl, _, _⟩ := tG.form
      rw [HGN.out] at tG ⊢
      have hS2 : Below w1.heap.size w1 u2 := bsq hS1 hb2
      refine ⟨_, rfl, hS2, ?_⟩
      refine h_take (i := 10) (ppV p.s p.q (.slice aL ln kL) (.slice aG gn kG)) rfl (by kernel_rfl) (by kernel_rfl) (by kernel_rfl) (fun _ _ _ h => h) rfl hS2 (fun W hW => by simp [execOp, go_sem, Act.put, hsz, s2]) ?_
      have hX : u2.heap[w1.heap.size]? = some zO := keep hX1 hb2
      have z1 : (w1.drew.alloc zO).heap.size ≤ u1.heap.size := hb1.size
      have z2 : u1.heap.size ≤ u2.heap.size := hb2.size
      have z3 : (w1.drew.alloc zO).heap.size = w1.heap.size + 1 := by simp
      obtain ⟨⟨zz, q0, q1, q2, q3⟩, f0, f1, f2, f3⟩ := box4 hX
      obtain ⟨uf, huf, hBx, hSf⟩ := Bx.made (p := p) (b0 := w1.heap.size) (Xo := w1.heap.size) (B := u1.heap.size) hS2 hX ((tL.ow.mono (p' := fun g => w1.heap.size ≤ g ∧ g < u1.heap.size ∧ g ≠ w1.heap.size) fun g hg hlt => ⟨by have := hg.2; omega, hlt, by have := hg.2; omega⟩).below hb2) tG (by omega) (by omega) (by omega)
      have hSf' : Below w1.heap.size w1 uf := hSf
      refine h_skip (i := 12) (w' := uf) rfl (by kernel_rfl) rfl (by rw [← huf]; simp [execOp, go_sem, Act.put, hsz, s2, zz, q0, q1, q2, q3, f0, f1, f2, f3]) hSf' ?_
      refine wpAnyH_done (by kernel_rfl) ?_ _
      clear huf q0 q1 q2 q3 f0 f1 f2 f3
      subst ha0
      clear hsz s2
      go_simp
      go_wp2_with fail
      go_meet
      case rel => exact ⟨_, _, _, _, rfl, hBx, hSf, by omega, by omega⟩
  case rest =>
  obtain ⟨Xo, B, oL, oG, rfl, hBx, hb, hx0, hbb⟩ := hcut
  rename World => wx
  have hxl : Xo < wx.heap.size := (Array.getElem?_eq_some_iff.1 hBx.box).1
  have HB0 : Hid (∀ u, Below wx.heap.size wx u → u.heap[Xo]? = some (ppO p.s p.q oL oG) ∧ Rp u p oL oG ∧ Below w1.heap.size w1 u) := fun u hu => ⟨keep hBx.box hu, ⟨hBx.left.rts.below hu, hBx.got.rts.below hu⟩, bsq hb hu⟩
  have HS : Hid (Calls Try.prog 12 #[ppV p.s p.q (.slice la ln lc) (.slice ga gn gc), .int .i64 f] wx (Ans wx (stP p f) (stC p f))) := HST.out wx hb
  obtain ⟨⟨z7, i0, i1, i2, i3⟩, _⟩ := box4 (HP.out wx hb).2.1
  obtain ⟨oa, oc, hoL, _⟩ := hBx.left
  obtain ⟨ob, od, hoG, _⟩ := hBx.got.form
  rw [HLN.out] at hoL
  rw [HGN.out] at hoG
  subst hoL hoG
  clear hBx hb hx0 hbb hxl HST HCL HCG HBX hw1
  go_wp2_with fail
  refine HS.out.mono ?_
  rintro e u ⟨qL, qG, rfl, o1, o2, hbu⟩
  obtain ⟨u1, uf, hu1, huf, hY1, hYf, hbf⟩ := pp_laid u (stP p f).s (stP p f).q qL qG
  have h1 := (o1.mono (p' := fun g => wx.heap.size ≤ g ∧ g < u.heap.size) fun g hg hlt => ⟨hg, hlt⟩).rm
  have h2 := (o2.mono (p' := fun g => wx.heap.size ≤ g ∧ g < u.heap.size) fun g hg hlt => ⟨hg, hlt⟩).rm
  have HQ : Hid (∀ v, Below uf.heap.size uf v → Rm (fun g => wx.heap.size ≤ g ∧ g < u.heap.size) v qL ∧ Rm (fun g => wx.heap.size ≤ g ∧ g < u.heap.size) v qG ∧ v.heap[u.heap.size]? = some (ppO (stP p f).s (stP p f).q qL qG) ∧ Below wx.heap.size wx v) := fun v hv =>
    ⟨((o1.mono (p' := fun g => wx.heap.size ≤ g ∧ g < u.heap.size) fun g hg hlt => ⟨hg, hlt⟩).below (bsq hbf hv)).rm, ((o2.mono (p' := fun g => wx.heap.size ≤ g ∧ g < u.heap.size) fun g hg hlt => ⟨hg, hlt⟩).below (bsq hbf hv)).rm, keep hYf hv, bsq hbu (bsq hbf hv)⟩
  have HBuf : Hid (Below wx.heap.size wx uf) := bsq hbu hbf
  obtain ⟨b1, d1, hv1, _⟩ := o1
  obtain ⟨b2, d2, hv2, _⟩ := o2
  subst hv1 hv2
  obtain ⟨⟨_, y0, y1, y2, y3⟩, g0, g1, g2, g3⟩ := box4 hY1
  have HSM : Hid (∀ v, Below wx.heap.size wx v → Calls Try.prog 13 #[ppV p.s p.q (.slice la ln lc) (.slice ga gn gc), ppV p.s p.q (.slice oa ln oc) (.slice ob gn od)] v fun e w' => e = .returned (.bool true) ∧ Below v.heap.size v w') := fun v hv => by
    have := samePipe_any p p _ _ _ _ v (HP.out v (HB0.out v hv).2.2).1 (HB0.out v hv).2.1
    rw [samB_same] at this
    exact this
  have HSM1 : Hid (Calls Try.prog 13 #[ppV p.s p.q (.slice la ln lc) (.slice ga gn gc), ppV p.s p.q (.slice oa ln oc) (.slice ob gn od)] uf fun e w' => e = .returned (.bool true) ∧ Below uf.heap.size uf w') := HSM.out uf HBuf.out
  have HBX2 : Hid (∀ v, Below wx.heap.size wx v → v.heap[w.heap.size]? = some (ppO p.s p.q (.slice la ln lc) (.slice ga gn gc)) ∧ v.heap[Xo]? = some (ppO p.s p.q (.slice oa ln oc) (.slice ob gn od)) ∧ Below w.heap.size w v) := fun v hv => ⟨(HP.out v (HB0.out v hv).2.2).2.1, (HB0.out v hv).1, (HP.out v (HB0.out v hv).2.2).2.2⟩
  obtain ⟨k1, k2, _⟩ := HBX2.out uf HBuf.out
  obtain ⟨⟨_, r0, r1, r2, r3⟩, _⟩ := box4 k1
  obtain ⟨⟨_, t0, t1, t2, t3⟩, _⟩ := box4 k2
  generalize (stP p f).L.length = m1 at *
  generalize (stP p f).G.length = m2 at *
  generalize (stP p f).s = s' at *
  generalize (stP p f).q = q' at *
  generalize stC p f = z at *
  clear hbu hY1 hYf hbf h1 h2 HS HP HB0 k1 k2 i0 i1 i2 i3 HBuf
  go_wp2_with fail
  try rw [huf]
  refine HSM1.out.mono ?_
  rintro e u3 ⟨rfl, hb3⟩
  obtain ⟨n1, n2, n3, n4⟩ := HQ.out u3 hb3
  have HSP : Hid (Calls Try.prog 15 #[.slice b1 m1 d1] u3 fun e w' => e = .returned (.tuple #[]) ∧ Sp (fun g => wx.heap.size ≤ g ∧ g < u.heap.size) u3 w') := spoil_any _ _ u3 n1
  have H3 : Hid (Rm (fun g => wx.heap.size ≤ g ∧ g < u.heap.size) u3 (.slice b2 m2 d2) ∧ u3.heap[u.heap.size]? = some (ppO s' q' (.slice b1 m1 d1) (.slice b2 m2 d2)) ∧ Below wx.heap.size wx u3) := ⟨n2, n3, n4⟩
  obtain ⟨⟨_, o0, o1, o2, o3⟩, _⟩ := box4 n3
  clear hb3 n1 n2 n3 n4 HQ HSM1 hu1 huf y0 y1 y2 y3 g0 g1 g2 g3 r0 r1 r2 r3 t0 t1 t2 t3
  go_wp2_with fail
  refine HSP.out.mono ?_
  rintro e u4 ⟨rfl, hs4⟩
  have hX4 : u4.heap[u.heap.size]? = some (ppO s' q' (.slice b1 m1 d1) (.slice b2 m2 d2)) := (hs4.block _ (fun q => by have := q.2; omega)).trans H3.out.2.1
  have HSP2 : Hid (Calls Try.prog 15 #[.slice b2 m2 d2] u4 fun e w' => e = .returned (.tuple #[]) ∧ Sp (fun g => wx.heap.size ≤ g ∧ g < u.heap.size) u4 w') := spoil_any _ _ u4 (H3.out.1.sp hs4)
  have H4 : Hid (Below wx.heap.size wx u4) := H3.out.2.2.trans (hs4.below (fun k hk q => by have := q.1; omega))
  obtain ⟨⟨_, l0, l1, l2, l3⟩, _⟩ := box4 hX4
  clear hs4 hX4 HSP H3 o0 o1 o2 o3
  go_wp2_with fail
  refine HSP2.out.mono ?_
  rintro e u5 ⟨rfl, hs5⟩
  have H5 : Hid (Below wx.heap.size wx u5) := H4.out.trans (hs5.below (fun k hk q => by have := q.1; omega))
  clear hs5 H4 HSP2 l0 l1 l2 l3
  go_wp2_with fail
  refine (HLI.out _).mono ?_
  rintro e u6 ⟨rfl, hb6⟩
  have H6 : Below wx.heap.size wx u6 := bsq H5.out hb6
  have HSM6 : Hid (Calls Try.prog 13 #[ppV p.s p.q (.slice la ln lc) (.slice ga gn gc), ppV p.s p.q (.slice oa ln oc) (.slice ob gn od)] u6 fun e w' => e = .returned (.bool true) ∧ Below u6.heap.size u6 w') := HSM.out u6 H6
  obtain ⟨k1, k2, k3⟩ := HBX2.out u6 H6
  have HB6 : Hid (Below w.heap.size w u6) := k3
  obtain ⟨⟨_, r0, r1, r2, r3⟩, _⟩ := box4 k1
  obtain ⟨⟨_, t0, t1, t2, t3⟩, _⟩ := box4 k2
  clear hb6 H5 H6 HSM k1 k2 k3 HBX2
  go_wp2_with fail
  refine HSM6.out.mono ?_
  rintro e u7 ⟨rfl, hb7⟩
  have HB : Hid (Below w.heap.size w u7) := bsq HB6.out hb7
  clear hb7 HSM6 HB6
  go_wp2
  go_ret
  exact ⟨rfl, HB.out⟩
end Go.Proofs.Ytgnffifohdgekab.pipeOwn
