/- pipe: what Step answers, where nothing is wrong. -/
import Derived.Test.YtgnffifohdgekaaPipD
namespace Go.Proofs.Ytgnffifohdgekaa.pipe
open Go.RowKit
set_option linter.unusedVariables false
set_option linter.unusedSimpArgs false
set_option maxRecDepth 100000

/-- both lists are copies: the pipe may be changed -/
theorem S0.bx {w : World} {p : Pp} {vL vG vL' vG' : Value} {X R : Nat} {u u1 u2 : World} (h : S0 w p vL vG X R u) (hb1 : Below u.heap.size u u1) (hb2 : Below u1.heap.size u1 u2) (t1 : Txs u1 u.heap.size vL' p.L) (t2 : Txs u2 u1.heap.size vG' p.G) :
    ∃ uf, (u2.setCell ⟨X, 2, none⟩ vL').setCell ⟨X, 3, none⟩ vG' = uf ∧ Bx u.heap.size X u1.heap.size uf p vL' vG' ∧ uf.heap[R]? = some (ppO 0 0 (.slice none 0 0) (.slice none 0 0)) ∧ Below w.heap.size w uf ∧ R < u.heap.size ∧ R < u1.heap.size := by
  have hX2 : u2.heap[X]? = some (ppO p.s p.q vL vG) := keep (keep h.box hb1) hb2
  have hXu : X < u.heap.size := (Array.getElem?_eq_some_iff.1 h.box).1
  have hRu : R < u.heap.size := (Array.getElem?_eq_some_iff.1 h.res).1
  have hs1 := hb1.size
  have hs2 := hb2.size
  have hlo := h.lo
  have hwu := h.bel.size
  refine ⟨_, rfl, ⟨csetX 3 _ (csetX 2 _ hX2 rfl) rfl, by simpa using hs2, ?_, ?_⟩, ?_, ((bsq h.bel (bsq hb1 hb2)).setCell h.lo _).setCell h.lo _, hRu, by omega⟩
  · refine ((t1.ow.mono (p' := fun g => u.heap.size ≤ g ∧ g < u1.heap.size ∧ g ≠ X) (fun g hg hlt => ⟨hg.2, hlt, by have := hg.2; omega⟩)).kept (u := u2) hs2 fun g hg hlt => hb2.block g hlt).kept (by simp) fun g hg hlt => ?_
    rw [heap_setCell_other _ _ _ _ hg.2.2, heap_setCell_other _ _ _ _ hg.2.2]
  · have hne : vG'.ownBlock ≠ some X := fun q => by have := own_block t2 X q; omega
    exact ownsRow_setCell_other (ownsRow_setCell_other t2 hne _) hne _
  · have hRX : R ≠ X := by have := h.hi; omega
    rw [heap_setCell_other _ _ _ _ hRX, heap_setCell_other _ _ _ _ hRX]
    exact keep (keep h.res hb1) hb2
/-- what is told once the pipe was changed: it is put in the place R -/
theorem Bx.ans {b0 X B R : Nat} {w u u' : World} {p : Pp} {vL vG : Value} (h : Bx b0 X B u' p vL vG) (hk : Kp X B u u') (hb : Below w.heap.size w u) (hR : u.heap[R]? = some (ppO 0 0 (.slice none 0 0) (.slice none 0 0))) (hRB : R < b0) (hB : b0 ≤ B) (hRX : R ≠ X) (hX : w.heap.size ≤ X) (hwR : w.heap.size ≤ R) (code : Int) :
    u'.heap[R]? = some (ppO 0 0 (.slice none 0 0) (.slice none 0 0)) ∧ u'.heap[X]? = some (ppO p.s p.q vL vG) ∧ ∃ uf, (((u'.setCell ⟨R, 0, none⟩ (.int .i64 p.s)).setCell ⟨R, 1, none⟩ (.int .i64 p.q)).setCell ⟨R, 2, none⟩ vL).setCell ⟨R, 3, none⟩ vG = uf ∧ uf.heap[R]? = some (ppO p.s p.q vL vG) ∧ Ans w p code (.returned (.tuple #[ppV p.s p.q vL vG, .int .i64 code])) uf := by
  have hR' := (hk.block R (by omega) hRX).trans hR
  have hb' : Below w.heap.size w u' := hb.trans (hk.below hX (by omega))
  obtain ⟨uf, huf, hXf, hBf, hkf, hsf⟩ := pp_put u' R _ _ _ _ p.s p.q vL vG hR'
  refine ⟨hR', h.box, uf, huf, hXf, vL, vG, rfl, ?_, ?_, hBf _ _ hwR hb'⟩
  · exact (h.left.kept (by omega) fun g hg _ => hkf g (by omega)).mono fun g hg _ => by omega
  · exact (h.got.ow.kept (by omega) fun g hg _ => hkf g (by omega)).mono fun g hg _ => by omega
set_option maxHeartbeats 4000000 in
theorem step_ok (p : Pp) (la ga : Option Addr) (lc gc : Nat) (f : Int) (w : World) (h : argB p f = true) (hln : p.L.length ≤ 200) (hgn : p.G.length ≤ 200) (hL : Rts w (.slice la p.L.length lc) p.L) (hG : Rts w (.slice ga p.G.length gc) p.G) :
    Calls Try.prog 9 #[ppV p.s p.q (.slice la p.L.length lc) (.slice ga p.G.length gc), .int .i64 f] w (Ans w (sendP p f) 0) := by
  obtain ⟨w1, w2, hw1, hw2, hS⟩ := S0.made w p (.slice la p.L.length lc) (.slice ga p.G.length gc)
  obtain ⟨⟨hz, c0, c1, c2, c3⟩, f0, f1, f2, f3⟩ := box4 hS.box
  obtain ⟨h1, h2, h3⟩ := argB_parts h
  have HS : Hid (∀ u, Calls Try.prog 23 #[.int .i64 p.s] u fun e w' => e = .returned (.bool true) ∧ u = w') := fun u => by have := isBit_any p.s u; rw [h1] at this; exact this
  have HQ : Hid (∀ u, Calls Try.prog 23 #[.int .i64 p.q] u fun e w' => e = .returned (.bool true) ∧ u = w') := fun u => by have := isBit_any p.q u; rw [h2] at this; exact this
  have HF : Hid (∀ u, Calls Try.prog 24 #[.int .i64 f] u fun e w' => e = .returned (.bool true) ∧ u = w') := fun u => by have := isFate_any f u; rw [h3] at this; exact this
  have HCL : Hid (∀ u, S0 w p (.slice la p.L.length lc) (.slice ga p.G.length gc) w.heap.size w1.heap.size u → Calls Try.prog 25 #[.slice la p.L.length lc] u fun e w' => ∃ v', e = .returned v' ∧ Txs w' u.heap.size v' p.L ∧ Below u.heap.size u w') := fun u hu => copied_any _ p.L u (hL.below hu.bel) (by omega)
  have HCG : Hid (∀ u, S0 w p (.slice la p.L.length lc) (.slice ga p.G.length gc) w.heap.size w1.heap.size u → Calls Try.prog 25 #[.slice ga p.G.length gc] u fun e w' => ∃ v', e = .returned v' ∧ Txs w' u.heap.size v' p.G ∧ Below u.heap.size u w') := fun u hu => copied_any _ p.G u (hG.below hu.bel) (by omega)
  have HSN : Hid (∀ (b0 X B : Nat) (vL vG : Value) (u : World), Bx b0 X B u p vL vG → Calls Try.prog 26 #[.pointer (some ⟨X, 0, none⟩), .int .i64 f] u (BxP b0 X B u (sendP p f))) := fun b0 X B vL vG u hu => send_any b0 X B p vL vG f u hu (by omega) (bit_cases h1) (bit_cases h2)
  obtain ⟨ln, hl⟩ : ∃ n, p.L.length = n := ⟨_, rfl⟩
  obtain ⟨gn, hg⟩ : ∃ n, p.G.length = n := ⟨_, rfl⟩
  have HLN : Hid (p.L.length = ln) := hl
  have HGN : Hid (p.G.length = gn) := hg
  rw [hl, hg] at HCL HCG hS hw1 ⊢
  rw [hl] at c2 hln
  rw [hg] at c3 hgn
  have e1 : decide ((ln : Int) > 200) = false := by rw [decide_eq_false_iff_not]; omega
  have e2 : decide ((gn : Int) > 200) = false := by rw [decide_eq_false_iff_not]; omega
  have HS0 : Hid (S0 w p (.slice la ln lc) (.slice ga gn gc) w.heap.size w1.heap.size w2) := hS
  have HDR : Hid (S0 w p (.slice la ln lc) (.slice ga gn gc) w.heap.size w1.heap.size w2.drew) := hS.below (Below.refl _ _).drew
  clear h h1 h2 h3 hln hgn hL hG hl hg hS
  go_enter Try.func9, Try.ntmps9
  go_wp2_with fail
  refine (HS.out _).mono ?_
  rintro e u ⟨rfl, rfl⟩
  go_wp2_with fail
  refine (HQ.out _).mono ?_
  rintro e u ⟨rfl, rfl⟩
  go_wp2_with fail
  refine (HF.out _).mono ?_
  rintro e u ⟨rfl, rfl⟩
  clear HS HQ HF
  go_wp2_with fail
  go_region_law (first
    | (refine step_call (by rfl) 25 #[.slice la ln lc] ?_ ?_
       · (simp [execOp, go_sem]; done)
       refine (HCL.out _ HDR.out).mono ?_
       rintro r u1 ⟨vL, rfl, hT, hbT⟩
       obtain ⟨aL, kL, rfl, _, _⟩ := hT.form
       refine ⟨_, rfl, ?_⟩
       have hS1 := HDR.out.below hbT
       rw [HLN.out] at hT ⊢
       have HS1 : Hid (S0 w p (.slice la ln lc) (.slice ga gn gc) w.heap.size w1.heap.size u1) := hS1
       have tL : Hid (Txs u1 w2.drew.heap.size (.slice aL ln kL) p.L) := hT
       have bL : Hid (Below w2.drew.heap.size w2.drew u1) := hbT
       obtain ⟨⟨_, a0, a1, a2, a3⟩, k0, k1, k2, k3⟩ := box4 hS1.box
       clear hT hbT hS1)
    | (refine step_call (by rfl) 25 #[.slice ga gn gc] ?_ ?_
       · (simp [execOp, go_sem]; done)
       refine (HCG.out _ HS1.out).mono ?_
       rintro r u2 ⟨vG, rfl, hT, hbT⟩
       obtain ⟨aG, kG, rfl, _, _⟩ := hT.form
       refine ⟨_, rfl, ?_⟩
       have hS2 := HS1.out.below hbT
       rw [HGN.out] at hT ⊢
       have tG : Hid (Txs u2 u1.heap.size (.slice aG gn kG) p.G) := hT
       have bG : Hid (Below u1.heap.size u1 u2) := hbT
       obtain ⟨⟨_, b0, b1, b2, b3⟩, l0, l1, l2, l3⟩ := box4 hS2.box
       clear hT hbT hS2))
  all_goals
    (obtain ⟨u3, hu3, hBx, hR3, hb3, hRl, hRB⟩ := HDR.out.bx bL.out bG.out tL.out tG.out
     have HC : Hid (Calls Try.prog 26 #[.pointer (some ⟨w.heap.size, 0, none⟩), .int .i64 f] u3 (BxP w2.drew.heap.size w.heap.size u1.heap.size u3 (sendP p f))) := HSN.out _ _ _ _ _ u3 hBx
     have HR3 : Hid (u3.heap[w1.heap.size]? = some (ppO 0 0 (.slice none 0 0) (.slice none 0 0))) := hR3
     have HB3 : Hid (Below w.heap.size w u3) := hb3
     have HZ : Hid (w1.heap.size < w2.drew.heap.size ∧ w2.drew.heap.size ≤ u1.heap.size ∧ w.heap.size < w1.heap.size) := ⟨hRl, bL.out.size, HS0.out.hi⟩
     clear hBx hR3 hb3 hRl hRB HSN HCL HCG tL tG bL bG HS1 HDR HS0 hz c0 c1 c2 c3 f0 f1 f2 f3 a0 a1 a2 a3 k0 k1 k2 k3 b0 b1 b2 b3 l0 l1 l2 l3 e1 e2
     go_wp2_with fail
     try rw [hu3]
     clear hu3 hw1 hw2
     refine HC.out.mono ?_
     rintro e u4 ⟨rfl, vL, vG, hX4, hK4⟩
     obtain ⟨hR4, hB4, uf, huf, hRf, hA⟩ := hX4.ans hK4 HB3.out HR3.out HZ.out.1 HZ.out.2.1 (by have := HZ.out.2.2; omega) (Nat.le_refl _) (by have := HZ.out.2.2; omega) 0
     obtain ⟨a5, c5, h5, _⟩ := hX4.left
     obtain ⟨a6, c6, h6, _⟩ := hX4.got.form
     subst h5 h6
     obtain ⟨⟨z4, d0, d1, d2, d3⟩, o0, o1, o2, o3⟩ := box4 hB4
     obtain ⟨⟨z5, r0, r1, r2, r3⟩, m0, m1, m2, m3⟩ := box4 hR4
     obtain ⟨⟨zf, x0, x1, x2, x3⟩, _⟩ := box4 hRf
     have HA : Hid (Ans w (sendP p f) 0 (.returned (.tuple #[ppV (sendP p f).s (sendP p f).q (.slice a5 (sendP p f).L.length c5) (.slice a6 (sendP p f).G.length c6), .int .i64 0])) uf) := hA
     generalize (sendP p f).L.length = n5 at *
     generalize (sendP p f).G.length = n6 at *
     generalize (sendP p f).s = s5 at *
     generalize (sendP p f).q = q5 at *
     clear hA hX4 hK4 HB3 HR3 HZ HC hR4 hB4 hRf
     go_wp2
     try rw [huf]
     exact bodyPost_ret (v := .tuple #[ppV s5 q5 (.slice a5 n5 c5) (.slice a6 n6 c6), .int .i64 0]) (by simp [results, Try.results9, go_sem, zf, x0, x1, x2, x3]) rfl HA.out)
theorem step_any (p : Pp) (vL vG : Value) (f : Int) (w : World) (hL : Rts w vL p.L) (hG : Rts w vG p.G) :
    Calls Try.prog 9 #[ppV p.s p.q vL vG, .int .i64 f] w (Ans w (stP p f) (stC p f)) := by
  have hL' := hL
  have hG' := hG
  obtain ⟨la, lc, rfl, _, _, _⟩ := hL'
  obtain ⟨ga, gc, rfl, _, _, _⟩ := hG'
  by_cases h : argB p f = false
  · obtain ⟨e1, e2⟩ := stC_arg h
    rw [e1, e2]
    exact step_arg p la ga _ lc _ gc f w h
  have h : argB p f = true := by simpa using h
  by_cases hl : 200 < p.L.length ∨ 200 < p.G.length
  · obtain ⟨e1, e2⟩ := stC_large h hl
    rw [e1, e2]
    exact step_large p la ga _ lc _ gc f w h hl
  · obtain ⟨e1, e2⟩ := stC_ok h (by omega) (by omega)
    rw [e1, e2]
    exact step_ok p la ga lc gc f w h (by omega) (by omega) hL hG
end Go.Proofs.Ytgnffifohdgekaa.pipe
