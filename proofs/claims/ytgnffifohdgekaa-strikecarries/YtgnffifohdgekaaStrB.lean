/- strike: what struck and goThrough answer. -/
import Derived.Test.YtgnffifohdgekaaStrA
namespace Go.Proofs.Ytgnffifohdgekaa.strike
open Go.RowKit Go.Proofs.Ytgnffifohdgekaa.pipe
set_option linter.unusedVariables false
set_option linter.unusedSimpArgs false
set_option maxRecDepth 100000

theorem struck_any (s f : Int) (w : World) (hs : 0 ≤ s ∧ s ≤ 2) : Calls Try.prog 41 #[.int .i64 s, .int .i64 f] w fun e w' => e = .returned (.int .i64 (strk s f)) ∧ w = w' := by
  obtain ⟨h1, h2⟩ := hs
  unfold strk
  by_cases f2 : f = 2
  · subst f2
    rw [if_pos (.inl rfl)]
    go_enter Try.func41, Try.ntmps41; go_wp2; go_ret; exact ⟨rfl, rfl⟩
  have e2 : (f == 2) = false := by simpa using f2
  by_cases f3 : f = 3
  · subst f3
    rw [if_pos (.inr rfl)]
    go_enter Try.func41, Try.ntmps41; go_wp2; go_ret; exact ⟨rfl, rfl⟩
  have e3 : (f == 3) = false := by simpa using f3
  rw [if_neg (by omega)]
  by_cases f1 : f = 1
  · subst f1
    rw [if_pos rfl]
    go_enter Try.func41, Try.ntmps41; go_wp2; go_ret; exact ⟨rfl, rfl⟩
  have e1 : (f == 1) = false := by simpa using f1
  rw [if_neg f1]
  clear f1 f2 f3
  go_enter Try.func41, Try.ntmps41; go_wp2; go_ret; exact ⟨rfl, rfl⟩
theorem Rts.kept {w u : World} {v : Value} {l : List ByteArray} (h : Rts w v l) (hs : w.heap.size ≤ u.heap.size) (hk : ∀ g, g < w.heap.size → u.heap[g]? = w.heap[g]?) : Rts u v l := by
  obtain ⟨a, c, hv, h1, h2, h4⟩ := h
  refine ⟨a, c, hv, h1, h2, fun hn => ?_⟩
  obtain ⟨g, off, ha, hg, hc⟩ := h4 hn
  exact ⟨g, off, ha, Nat.lt_of_lt_of_le hg hs, fun j x hx => (World.cell?_of_block (a := ⟨g, off + j, none⟩) (hk g hg)).trans (hc j x hx)⟩
/-- a pipe whose lists lie in other blocks than Y -/
def Apx (Y : Nat) (w : World) (p : Pp) (vL vG : Value) : Prop := ∀ u : World, w.heap.size ≤ u.heap.size → (∀ g, g ≠ Y → g < w.heap.size → u.heap[g]? = w.heap[g]?) → Rp u p vL vG
theorem Apx.rp {Y : Nat} {w : World} {p : Pp} {vL vG : Value} (h : Apx Y w p vL vG) : Rp w p vL vG := h w (Nat.le_refl _) fun _ _ _ => rfl
/-- a pipe whose lists lie in other blocks than Y, X and R -/
def Ap (Y X R : Nat) (w : World) (p : Pp) (vL vG : Value) : Prop := ∀ u : World, w.heap.size ≤ u.heap.size → (∀ g, g ≠ Y → g ≠ X → g ≠ R → g < w.heap.size → u.heap[g]? = w.heap[g]?) → Rp u p vL vG
structure Gt (Y : Nat) (w : World) (X R : Nat) (wr : World) (p : Pp) (vL vG : Value) : Prop where
  box : wr.heap[X]? = some (ppO p.s p.q vL vG)
  res : wr.heap[R]? = some (ppO 0 0 (.slice none 0 0) (.slice none 0 0))
  ap : Ap Y X R wr p vL vG
  bel : Below w.heap.size w wr
theorem Gt.rp {Y : Nat} {w : World} {X R : Nat} {wr : World} {p : Pp} {vL vG : Value} (h : Gt Y w X R wr p vL vG) : Rp wr p vL vG := h.ap wr (Nat.le_refl _) fun _ _ _ _ _ => rfl
theorem Gt.made {Y : Nat} {w : World} {p : Pp} {vL vG : Value} (hp : Apx Y w p vL vG) : ∃ w1 w2, w.alloc (ppO p.s p.q vL vG) = w1 ∧ w1.alloc (ppO 0 0 (.slice none 0 0) (.slice none 0 0)) = w2 ∧ Gt Y w w.heap.size w1.heap.size w2 p vL vG ∧ w.heap.size < w1.heap.size := by
  obtain ⟨w1, w2, hw1, hw2, hS⟩ := S0.made w p vL vG
  refine ⟨w1, w2, hw1, hw2, ⟨hS.box, hS.res, ?_, hS.bel⟩, hS.hi⟩
  intro u hu hk
  have h1 := hS.hi
  exact hp u (Nat.le_trans hS.bel.size hu) fun g hY hg => (hk g hY (by omega) (by omega) (Nat.lt_of_lt_of_le hg hS.bel.size)).trans (hS.bel.block g hg)
/-- behind a Step: the pipe is put in X -/
theorem Gt.step {Y : Nat} {w : World} {X R : Nat} {wr : World} {p p' : Pp} {vL vG : Value} (h : Gt Y w X R wr p vL vG) (hY : Y < w.heap.size) (hX : w.heap.size ≤ X) (hXR : X < R) {u : World} {oL oG : Value} (hL : Ow (fun g => wr.heap.size ≤ g) u oL p'.L) (hG : Ow (fun g => wr.heap.size ≤ g) u oG p'.G) (hb : Below wr.heap.size wr u) :
    ∃ uf, (((u.setCell ⟨X, 0, none⟩ (.int .i64 p'.s)).setCell ⟨X, 1, none⟩ (.int .i64 p'.q)).setCell ⟨X, 2, none⟩ oL).setCell ⟨X, 3, none⟩ oG = uf ∧ u.heap[X]? = some (ppO p.s p.q vL vG) ∧ Gt Y w X R uf p' oL oG := by
  have hXl := (Array.getElem?_eq_some_iff.1 h.box).1
  have hRl := (Array.getElem?_eq_some_iff.1 h.res).1
  obtain ⟨uf, huf, hXf, hBf, hkf, hsf⟩ := pp_put u X _ _ _ _ p'.s p'.q oL oG (keep h.box hb)
  refine ⟨uf, huf, keep h.box hb, ⟨hXf, (hkf R (by omega)).trans (keep h.res hb), ?_, hBf _ _ hX (bsq h.bel hb)⟩⟩
  intro v hv hk
  have hkk : ∀ g, wr.heap.size ≤ g → g < u.heap.size → v.heap[g]? = u.heap[g]? := fun g h1 h2 => (hk g (by omega) (by omega) (by omega) (by omega)).trans (hkf g (by omega))
  exact ⟨(hL.kept (by omega) hkk).rts, (hG.kept (by omega) hkk).rts⟩
/-- the pipe is told, in R -/
theorem Gt.told {Y : Nat} {w : World} {X R : Nat} {wr : World} {p : Pp} {vL vG : Value} (h : Gt Y w X R wr p vL vG) (hX : w.heap.size ≤ X) (hXR : X < R) :
    ∃ uf, (((wr.setCell ⟨R, 0, none⟩ (.int .i64 p.s)).setCell ⟨R, 1, none⟩ (.int .i64 p.q)).setCell ⟨R, 2, none⟩ vL).setCell ⟨R, 3, none⟩ vG = uf ∧ uf.heap[R]? = some (ppO p.s p.q vL vG) ∧ Apx Y uf p vL vG ∧ Below w.heap.size w uf := by
  obtain ⟨uf, huf, hXf, hBf, hkf, hsf⟩ := pp_put wr R _ _ _ _ p.s p.q vL vG h.res
  refine ⟨uf, huf, hXf, fun v hv hk => ?_, hBf _ _ (by omega) h.bel⟩
  exact h.ap v (by omega) fun g hY _ hg hlt => (hk g hY (by omega)).trans (hkf g hg)
/-- what goThrough answers -/
def GAns (Y : Nat) (w : World) (T : List ByteArray) (r : Rs) (e : Ending) (w' : World) : Prop :=
  ∃ vL vG, e = .returned (.tuple #[ppV (atP T r.c).s (atP T r.c).q vL vG, .int .i64 r.k, .int .i64 (r.u : Int)]) ∧ Apx Y w' (atP T r.c) vL vG ∧ Below w.heap.size w w'
theorem rs_ext {a b : Rs} (h : a = b) : a.c = b.c ∧ a.k = b.k ∧ a.u = b.u := by subst h; exact ⟨rfl, rfl, rfl⟩
theorem strk_low {s f : Int} (h : 0 ≤ s ∧ s ≤ 2) (h3 : ¬ strk s f = 3) : 0 ≤ strk s f ∧ strk s f ≤ 2 := by
  unfold strk at *
  by_cases h2 : f = 2 ∨ f = 3
  · rw [if_pos h2] at *; omega
  · rw [if_neg h2] at *
    by_cases h1 : f = 1
    · rw [if_pos h1]; omega
    · rw [if_neg h1]; exact h
set_option maxHeartbeats 8000000 in
theorem through_any (Y : Nat) (T : List ByteArray) (vL vG : Value) (fa : Option Addr) (fc : Nat) (F : List Int) (w : World) (hY : Y < w.heap.size) (hT0 : 0 < T.length) (hT : T.length ≤ 200) (hFl : F.length ≤ 1000) (hFa : F.all fateB = true) (hp : Apx Y w ⟨0, 0, T, []⟩ vL vG) (hF : Ris w (.slice fa F.length fc) F) :
    Calls Try.prog 35 #[ppV 0 0 vL vG, .slice fa F.length fc] w (GAns Y w T (gt T.length (0, 0) 0 F)) := by
  obtain ⟨la, lc, hvL, _⟩ := hp.rp.1
  obtain ⟨ga, gc, hvG, _⟩ := hp.rp.2
  simp only [List.length_nil] at hvL hvG
  subst hvL hvG
  obtain ⟨w1, w2, hw1, hw2, hG, hXR⟩ := Gt.made hp
  simp only at hw1
  have HF : Hid (Ris w (.slice fa F.length fc) F) := hF
  obtain ⟨fn, hfn⟩ : ∃ n, F.length = n := ⟨_, rfl⟩
  have HFN : Hid (F.length = fn ∧ F.all fateB = true) := ⟨hfn, hFa⟩
  rw [hfn] at HF hFl ⊢
  obtain ⟨⟨hz, c0, c1, c2, c3⟩, f0, f1, f2, f3⟩ := box4 hG.box
  obtain ⟨⟨hz', d0, d1, d2, d3⟩, g0, g1, g2, g3⟩ := box4 hG.res
  have HG : Hid (Gt Y w w.heap.size w1.heap.size w2 ⟨0, 0, T, []⟩ (.slice la T.length lc) (.slice ga 0 gc)) := hG
  have HXR : Hid (w.heap.size < w1.heap.size ∧ Y < w.heap.size) := ⟨hXR, hY⟩
  have HT : Hid (0 < T.length ∧ T.length ≤ 200) := ⟨hT0, hT⟩
  obtain ⟨Z, hZ⟩ : ∃ Z, GAns Y w T (gt T.length (0, 0) 0 F) = Z := ⟨_, rfl⟩
  have HZ : Hid (GAns Y w T (gt T.length (0, 0) 0 F) = Z) := hZ
  rw [hZ]
  clear hZ hG hXR hY hT0 hT hFa hp hF hfn
  go_enter Try.func35, Try.ntmps35
  go_wp2
  clear c0 c1 c2 c3 d0 d1 d2 d3 f0 f1 f2 f3 g0 g1 g2 g3 hz hz' hw1 hw2
  go_loopw [7, 12] (fun sv i wr => ∃ (k : Nat) (s : Int) (cc : Nat × Nat) (oL oG : Value), k ≤ fn ∧ sv = .int .i64 s ∧ i = .int .i64 (k : Int) ∧ Hid (okc T.length cc ∧ cc.1 < T.length ∧ Gt Y w w.heap.size w1.heap.size wr (atP T cc) oL oG ∧ (gt T.length cc s (F.drop k)).up k = gt T.length (0, 0) 0 F ∧ (0 ≤ s ∧ s ≤ 2))) (fun _ i _ => fn - (intOf i).toNat)
  case atStart => exact ⟨0, 0, (0, 0), _, _, Nat.zero_le _, rfl, rfl, okc_zero _, HT.out.1, HG.out, rfl, by omega⟩
  case round =>
    obtain ⟨k, s, cc, oL, oG, hk, rfl, rfl, HQ⟩ := hrel
    obtain ⟨⟨hz, c0, c1, c2, c3⟩, f0, f1, f2, f3⟩ := box4 HQ.out.2.2.1.box
    obtain ⟨⟨hz', d0, d1, d2, d3⟩, g0, g1, g2, g3⟩ := box4 HQ.out.2.2.1.res
    obtain ⟨la', lc', hLf, _⟩ := HQ.out.2.2.1.rp.1
    obtain ⟨ga', gc', hGf, _⟩ := HQ.out.2.2.1.rp.2
    subst hLf hGf
    by_cases hlt : ¬ k < fn
    · obtain ⟨uf, huf, hRf, hRp, hBf⟩ := HQ.out.2.2.1.told (Nat.le_refl _) HXR.out.1
      obtain ⟨⟨zf, x0, x1, x2, x3⟩, _⟩ := box4 hRf
      have hend := HQ.out.2.2.2.1
      rw [List.drop_eq_nil_of_le (by have := HFN.out.1; omega), gt_nil] at hend
      have HA : Hid (Z (.returned (.tuple #[ppV (atP T cc).s (atP T cc).q (.slice la' (atP T cc).L.length lc') (.slice ga' (atP T cc).G.length gc'), .int .i64 10, .int .i64 (fn : Int)])) uf) := by
        show Z _ _
        rw [← HZ.out, ← hend]
        exact ⟨_, _, by show _ = Ending.returned (.tuple #[_, _, .int .i64 ((0 + k : Nat) : Int)]); rw [show 0 + k = fn by omega]; rfl, hRp, hBf⟩
      generalize (atP T cc).L.length = n5 at *
      generalize (atP T cc).G.length = n6 at *
      generalize (atP T cc).s = s5 at *
      generalize (atP T cc).q = q5 at *
      clear hend hRf hRp hBf HQ
      go_wp2
      try rw [huf]
      exact bodyPost_ret (v := .tuple #[ppV s5 q5 (.slice la' n5 lc') (.slice ga' n6 gc'), .int .i64 10, .int .i64 (fn : Int)]) (by simp [results, Try.results35, go_sem, zf, x0, x1, x2, x3]) rfl HA.out
    have hlt : k < fn := by omega
    have hkF : k < F.length := by have := HFN.out.1; omega
    obtain ⟨x, hx⟩ : ∃ x, F[k]? = some x := ⟨F[k], List.getElem?_eq_getElem hkF⟩
    have hxk : F[k] = x := (List.getElem?_eq_some_iff.1 hx).2
    obtain ⟨g, off, rfl, hcell⟩ := HF.out.at k x hx
    have cF := hcell wr HQ.out.2.2.1.bel
    have hfx : fateB x = true := List.all_eq_true.1 HFN.out.2 x (by rw [← hxk]; exact List.getElem_mem hkF)
    have hgt := HQ.out.2.2.2.1
    rw [List.drop_eq_getElem_cons hkF, hxk] at hgt
    clear hcell hx hxk hkF
    by_cases h5 : x = 5
    · subst h5
      obtain ⟨uf, huf, hRf, hRp, hBf⟩ := HQ.out.2.2.1.told (Nat.le_refl _) HXR.out.1
      obtain ⟨⟨zf, x0, x1, x2, x3⟩, _⟩ := box4 hRf
      rw [gt_stall] at hgt
      have HA : Hid (Z (.returned (.tuple #[ppV (atP T cc).s (atP T cc).q (.slice la' (atP T cc).L.length lc') (.slice ga' (atP T cc).G.length gc'), .int .i64 8, .int .i64 ((k : Int) + 1)])) uf) := by
        show Z _ _
        rw [← HZ.out, ← hgt]
        exact ⟨_, _, by show _ = Ending.returned (.tuple #[_, _, .int .i64 ((1 + k : Nat) : Int)]); rw [show ((1 + k : Nat) : Int) = (k : Int) + 1 by omega]; rfl, hRp, hBf⟩
      generalize (atP T cc).L.length = n5 at *
      generalize (atP T cc).G.length = n6 at *
      generalize (atP T cc).s = s5 at *
      generalize (atP T cc).q = q5 at *
      clear hgt hRf hRp hBf HQ hfx
      go_wp2
      try rw [huf]
      exact bodyPost_ret (v := .tuple #[ppV s5 q5 (.slice la' n5 lc') (.slice ga' n6 gc'), .int .i64 8, .int .i64 ((k : Int) + 1)]) (by simp [results, Try.results35, go_sem, zf, x0, x1, x2, x3]) rfl HA.out
    have e5 : (x == 5) = false := by simpa using h5
    obtain ⟨hc0, hcP⟩ := st_at HQ.out.1 HT.out.2 hfx
    have HST : Hid (Calls Try.prog 9 #[ppV (atP T cc).s (atP T cc).q (.slice la' (atP T cc).L.length lc') (.slice ga' (atP T cc).G.length gc'), .int .i64 x] wr (Ans wr (atP T (cs T.length cc x)) 0)) := by
      have := step_any (atP T cc) _ _ x wr HQ.out.2.2.1.rp.1 HQ.out.2.2.1.rp.2
      rw [hc0, hcP, send_at HQ.out.1] at this
      exact this
    have HQ2 : Hid (okc T.length (cs T.length cc x) ∧ Gt Y w w.heap.size w1.heap.size wr (atP T cc) (.slice la' (atP T cc).L.length lc') (.slice ga' (atP T cc).G.length gc') ∧ (gt T.length cc s (x :: F.drop (k + 1))).up k = gt T.length (0, 0) 0 F ∧ (0 ≤ s ∧ s ≤ 2)) := ⟨okc_cs HQ.out.1 x, HQ.out.2.2.1, hgt, HQ.out.2.2.2.2⟩
    have HSK : Hid (∀ u, Calls Try.prog 41 #[.int .i64 s, .int .i64 x] u fun e w' => e = .returned (.int .i64 (strk s x)) ∧ u = w') := fun u => struck_any s x u HQ.out.2.2.2.2
    obtain ⟨cc', hcc⟩ : ∃ c', cs T.length cc x = c' := ⟨_, rfl⟩
    have HC : Hid (cs T.length cc x = cc' ∧ ¬ x = 5) := ⟨hcc, h5⟩
    rw [hcc] at HST HQ2
    generalize (atP T cc).L.length = n5 at *
    generalize (atP T cc).G.length = n6 at *
    generalize hs5 : (atP T cc).s = s5 at *
    generalize hq5 : (atP T cc).q = q5 at *
    clear HQ hgt hfx hc0 hcP hcc h5 d0 d1 d2 d3 g0 g1 g2 g3 hz'
    go_wp2_with fail
    refine HST.out.mono ?_
    rintro e u ⟨o2L, o2G, rfl, hoL, hoG, hb⟩
    obtain ⟨u2, hu2, hXu, hG2⟩ := HQ2.out.2.1.step HXR.out.2 (Nat.le_refl _) HXR.out.1 hoL hoG hb
    rw [hs5, hq5] at hXu
    obtain ⟨⟨yz, y0, y1, y2, y3⟩, i0, i1, i2, i3⟩ := box4 hXu
    have HG2 : Hid (Gt Y w w.heap.size w1.heap.size u2 (atP T cc') o2L o2G) := hG2
    obtain ⟨la2, lc2, hLf, _⟩ := hG2.rp.1
    obtain ⟨ga2, gc2, hGf, _⟩ := hG2.rp.2
    subst hLf hGf
    obtain ⟨⟨hz', d0, d1, d2, d3⟩, g0, g1, g2, g3⟩ := box4 hG2.box
    obtain ⟨⟨hz'', j0, j1, j2, j3⟩, k0, k1, k2, k3⟩ := box4 hG2.res
    obtain ⟨uf, huf, hRf, hRp, hBf⟩ := HG2.out.told (Nat.le_refl _) HXR.out.1
    obtain ⟨⟨zf, x0, x1, x2, x3⟩, _⟩ := box4 hRf
    have hLl : (atP T cc').L.length = T.length - cc'.1 := atP_left T cc'
    have HUF : Hid (Apx Y uf (atP T cc') (.slice la2 (atP T cc').L.length lc2) (.slice ga2 (atP T cc').G.length gc2) ∧ Below w.heap.size w uf) := ⟨hRp, hBf⟩
    obtain ⟨n7, hn7⟩ : ∃ n, (atP T cc').L.length = n := ⟨_, rfl⟩
    obtain ⟨n8, hn8⟩ : ∃ n, (atP T cc').G.length = n := ⟨_, rfl⟩
    obtain ⟨s7, hs7⟩ : ∃ n, (atP T cc').s = n := ⟨_, rfl⟩
    obtain ⟨q7, hq7⟩ : ∃ n, (atP T cc').q = n := ⟨_, rfl⟩
    have HN : Hid ((atP T cc').L.length = n7 ∧ (atP T cc').G.length = n8 ∧ (atP T cc').s = s7 ∧ (atP T cc').q = q7) := ⟨hn7, hn8, hs7, hq7⟩
    have HL : Hid (n7 = T.length - cc'.1) := by rw [← hn7]; exact hLl
    rw [hn7, hn8] at HG2 HUF hu2 huf
    rw [hn7] at d2 x2
    rw [hn8] at d3 x3
    rw [hs7, hq7] at hu2 huf
    rw [hs7] at d0 x0
    rw [hq7] at d1 x1
    rw [hn7, hn8, hs7, hq7]
    clear hoL hoG hb hXu hG2 hRf hRp hBf hLl hn7 hn8 hs7 hq7 HST hs5 hq5 c0 c1 c2 c3 f0 f1 f2 f3 hz
    by_cases h0 : n7 = 0
    · subst h0
      have HA : Hid (Z (.returned (.tuple #[ppV s7 q7 (.slice la2 0 lc2) (.slice ga2 n8 gc2), .int .i64 0, .int .i64 ((k : Int) + 1)])) uf) := by
        show Z _ _
        have hgt := HQ2.out.2.2.1
        rw [gt_done HC.out.2 (by rw [HC.out.1]; have := HL.out; omega), HC.out.1] at hgt
        rw [← HZ.out, ← hgt, ← HN.out.2.2.1, ← HN.out.2.2.2]
        exact ⟨_, _, by show _ = Ending.returned (.tuple #[_, _, .int .i64 ((1 + k : Nat) : Int)]); rw [show ((1 + k : Nat) : Int) = (k : Int) + 1 by omega]; rfl, HUF.out.1, HUF.out.2⟩
      clear HN HL HUF HG2 HQ2 HSK HC
      go_wp2
      try rw [huf]
      exact bodyPost_ret (v := .tuple #[ppV s7 q7 (.slice la2 0 lc2) (.slice ga2 n8 gc2), .int .i64 0, .int .i64 ((k : Int) + 1)]) (by simp [results, Try.results35, go_sem, zf, x0, x1, x2, x3]) rfl HA.out
    have e0 : ((n7 : Int) == 0) = false := by rw [beq_eq_false_iff_ne]; omega
    have hcl : ¬ T.length ≤ cc'.1 := by have := HL.out; omega
    have HCL : Hid (¬ T.length ≤ cc'.1) := hcl
    clear hcl h0
    by_cases h3 : strk s x = 3
    · rw [h3] at HSK
      have HA : Hid (Z (.returned (.tuple #[ppV s7 q7 (.slice la2 n7 lc2) (.slice ga2 n8 gc2), .int .i64 9, .int .i64 ((k : Int) + 1)])) uf) := by
        show Z _ _
        have hgt := HQ2.out.2.2.1
        rw [gt_bus HC.out.2 (by rw [HC.out.1]; exact HCL.out) h3, HC.out.1] at hgt
        rw [← HZ.out, ← hgt, ← HN.out.2.2.1, ← HN.out.2.2.2]
        exact ⟨_, _, by show _ = Ending.returned (.tuple #[_, _, .int .i64 ((1 + k : Nat) : Int)]); rw [show ((1 + k : Nat) : Int) = (k : Int) + 1 by omega]; rfl, HUF.out.1, HUF.out.2⟩
      clear HN HL HUF HG2 HQ2 HC h3
      go_wp2_with fail
      try rw [hu2]
      refine (HSK.out _).mono ?_
      rintro e u3 ⟨rfl, rfl⟩
      go_wp2
      try rw [huf]
      exact bodyPost_ret (v := .tuple #[ppV s7 q7 (.slice la2 n7 lc2) (.slice ga2 n8 gc2), .int .i64 9, .int .i64 ((k : Int) + 1)]) (by simp [results, Try.results35, go_sem, zf, x0, x1, x2, x3]) rfl HA.out
    have HE : Hid (okc T.length cc' ∧ cc'.1 < T.length ∧ (gt T.length cc' (strk s x) (F.drop (k + 1))).up (k + 1) = gt T.length (0, 0) 0 F ∧ (0 ≤ strk s x ∧ strk s x ≤ 2)) := by
      have hgt := HQ2.out.2.2.1
      rw [gt_on HC.out.2 (by rw [HC.out.1]; exact HCL.out) h3, HC.out.1, Rs.up_up, Nat.add_comm 1 k] at hgt
      exact ⟨HQ2.out.1, by have := HCL.out; omega, hgt, strk_low HQ2.out.2.2.2 h3⟩
    have HG3 : Hid (Gt Y w w.heap.size w1.heap.size u2 (atP T cc') (.slice la2 n7 lc2) (.slice ga2 n8 gc2)) := HG2.out
    have e3 : (strk s x == 3) = false := by simpa using h3
    generalize strk s x = s' at *
    clear HN HL HUF HG2 HQ2 HC h3 HCL huf x0 x1 x2 x3 zf
    go_wp2_with fail
    try rw [hu2]
    refine (HSK.out _).mono ?_
    rintro e u3 ⟨rfl, rfl⟩
    go_wp2
    try rw [hu2]
    go_roundw
    case rel => exact ⟨k + 1, s', cc', _, _, by omega, rfl, by go_num, HE.out.1, HE.out.2.1, HG3.out, HE.out.2.2.1, HE.out.2.2.2⟩
    case measure => simp [intOf]; omega
end Go.Proofs.Ytgnffifohdgekaa.strike
