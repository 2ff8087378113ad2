/- pipe: what send does; what New answers. -/
import Derived.Test.YtgnffifohdgekaaPipB
namespace Go.Proofs.Ytgnffifohdgekaa.pipe
open Go.RowKit
set_option linter.unusedVariables false
set_option linter.unusedSimpArgs false
set_option maxRecDepth 100000

theorem arrP_L (p : Pp) (x : ByteArray) : (arrP p x).L = p.L := by unfold arrP; split <;> rfl
theorem arrP_s (p : Pp) (x : ByteArray) : (arrP p x).s = p.s := by unfold arrP; split <;> rfl
set_option maxHeartbeats 2000000 in
theorem send_any (b0 X B : Nat) (p : Pp) (vL vG : Value) (f : Int) (w : World) (h : Bx b0 X B w p vL vG) (hG : p.G.length ≤ 1000) (hs : p.s = 0 ∨ p.s = 1) (hq : p.q = 0 ∨ p.q = 1) :
    Calls Try.prog 26 #[.pointer (some ⟨X, 0, none⟩), .int .i64 f] w (BxP b0 X B w (sendP p f)) := by
  obtain ⟨⟨hz, c0, c1, c2, c3⟩, f0, f1, f2, f3⟩ := box4 h.box
  have H : Hid (Bx b0 X B w p vL vG) := h
  obtain ⟨la, lc, hv, hlc, _, _⟩ := h.left
  rw [hv] at c2
  by_cases hL : p.L = []
  · rw [send_none f hL]
    rw [hL, List.length_nil] at c2
    clear h hv
    go_enter Try.func26, Try.ntmps26
    go_wp2
    go_returns
    exact ⟨rfl, _, _, H.out, Kp.refl _ _ _⟩
  obtain ⟨x, r, hL⟩ : ∃ x r, p.L = x :: r := by
    cases hp : p.L with
    | nil => exact absurd hp hL
    | cons x r => exact ⟨x, r, rfl⟩
  have hn0 : ((p.L.length : Int) == 0) = false := by rw [hL]; simp; omega
  by_cases hf : ¬ (f = 1 ∨ f = 3)
  · have e1 : (f == 1) = false := by simp; omega
    have e3 : (f == 3) = false := by simp; omega
    rw [send_still (by omega) (by omega)]
    generalize p.L.length = n at *
    clear h hv hf hL
    go_enter Try.func26, Try.ntmps26
    go_wp2
    go_returns
    exact ⟨rfl, _, _, H.out, Kp.refl _ _ _⟩
  have hf := Classical.not_not.1 hf
  have HA : Hid (Calls Try.prog 36 #[.pointer (some ⟨X, 0, none⟩)] w (BxP b0 X B w (arrP p x))) := arrive_any b0 X B p vL vG x r w h hL hG hs hq
  by_cases h3 : f = 3
  · subst h3
    rw [send_deaf hL]
    generalize p.L.length = n at *
    clear h hv hf hL H
    go_enter Try.func26, Try.ntmps26
    go_wp2_with fail
    refine HA.out.mono ?_
    rintro e u ⟨rfl, h⟩
    have H : Hid (∃ vL vG, Bx b0 X B u (arrP p x) vL vG ∧ Kp X B w u) := h
    clear h
    go_wp2
    go_returns
    exact ⟨rfl, H.out⟩
  · have h1 : f = 1 := by omega
    subst h1
    rw [send_good hL]
    have HT : Hid (∀ u, Calls Try.prog 37 #[.int .i64 p.s] u fun e w' => e = .returned (.int .i64 (1 - p.s)) ∧ u = w') := fun u => turned_any p.s u hs
    have HL : Hid (p.L = x :: r) := hL
    generalize p.L.length = n at *
    clear h hv hf hL H h3
    go_enter Try.func26, Try.ntmps26
    go_wp2_with fail
    refine HA.out.mono ?_
    rintro e u ⟨rfl, v1, v2, h, hb⟩
    have hl := h.left
    rw [arrP_L, HL.out] at hl
    obtain ⟨a, c, rfl⟩ : ∃ a c, v1 = .slice a (x :: r).length c := by obtain ⟨a, c, h, _⟩ := hl; exact ⟨a, c, h⟩
    obtain ⟨g, off, rfl, _, _, _, hp, hg, _, a1, hsl, how⟩ := hl.rest
    have hS := h.setL (how u rfl hg)
    have hS2 := hS.set0 (1 - p.s)
    obtain ⟨u1, hu1⟩ : ∃ u1, u.setCell ⟨X, 2, none⟩ (.slice a1 r.length (c - 1)) = u1 := ⟨_, rfl⟩
    obtain ⟨⟨hz', d0, d1, d2, d3⟩, g0, g1, g2, g3⟩ := box4 h.box
    rw [hu1] at hS hS2
    obtain ⟨⟨hz'', x0, x1, x2, x3⟩, y0, y1, y2, y3⟩ := box4 hS.box
    simp only [arrP_s] at d0 x0
    have HS : Hid (Bx b0 X B (u1.setCell ⟨X, 0, none⟩ (.int .i64 (1 - p.s))) ⟨1 - p.s, (arrP p x).q, r, (arrP p x).G⟩ (.slice a1 r.length (c - 1)) v2) := hS2
    have HB : Hid (Kp X B w (u1.setCell ⟨X, 0, none⟩ (.int .i64 (1 - p.s)))) := by
      show Kp _ _ _ _
      rw [← hu1]; exact (hb.setX _ _).setX _ _
    simp only [List.length_cons] at hsl d2
    clear hS hS2 h hb hl how HA hp hg
    go_wp2_with fail
    try rw [hu1]
    clear hu1
    refine (HT.out _).mono ?_
    rintro e u2 ⟨rfl, rfl⟩
    go_wp2
    go_returns
    exact ⟨rfl, _, _, HS.out, HB.out⟩

/-- an empty pipe's box -/
theorem pp_zero : (Try.prog.info? 24).map (fun i => (i.zero, i.size)) = some (some (ppV 0 0 (.slice none 0 0) (.slice none 0 0)), 4) := by kernel_rfl
theorem pp_named (w : World) (s q : Int) (l g : Value) : ∃ w0, w.alloc (ppO s q l g) = w0 ∧ w0.heap[w.heap.size]? = some (ppO s q l g) ∧ Below w.heap.size w w0 := ⟨_, rfl, (MapKept.heap_alloc w _).1, balloc _ _⟩
/-- what a call answers: a pipe of its own, and a code -/
def Ans (w : World) (p : Pp) (code : Int) (e : Ending) (w' : World) : Prop :=
  ∃ vL vG, e = .returned (.tuple #[ppV p.s p.q vL vG, .int .i64 code]) ∧ Ow (fun g => w.heap.size ≤ g) w' vL p.L ∧ Ow (fun g => w.heap.size ≤ g) w' vG p.G ∧ Below w.heap.size w w'
theorem Ans.zero {w w' : World} (code : Int) (hb : Below w.heap.size w w') : Ans w zP code (.returned (.tuple #[ppV 0 0 (.slice none 0 0) (.slice none 0 0), .int .i64 code])) w' :=
  ⟨_, _, rfl, Ow.nil _ _, Ow.nil _ _, hb⟩
set_option maxHeartbeats 2000000 in
theorem new_no (a : Option Addr) (n c : Nat) (w : World) (hl : 200 < n) : Calls Try.prog 11 #[.slice a n c] w fun e w' => e = .returned (.tuple #[ppV 0 0 (.slice none 0 0) (.slice none 0 0), .int .i64 2]) ∧ Below w.heap.size w w' := by
  obtain ⟨w0, hw0, hX0, hb0⟩ := pp_named w 0 0 (.slice none 0 0) (.slice none 0 0)
  obtain ⟨uf, huf, hXf, hBf, _, _⟩ := pp_put w0 w.heap.size _ _ _ _ 0 0 (.slice none 0 0) (.slice none 0 0) hX0
  obtain ⟨⟨hz, c0, c1, c2, c3⟩, f0, f1, f2, f3⟩ := box4 hX0
  obtain ⟨⟨zf, x0, x1, x2, x3⟩, _⟩ := box4 hXf
  have HB : Hid (Below w.heap.size w uf) := hBf _ _ (Nat.le_refl _) hb0
  clear hBf hX0 hXf hb0
  go_enter Try.func11, Try.ntmps11
  go_wp2
  try rw [huf]
  exact bodyPost_ret (v := .tuple #[ppV 0 0 (.slice none 0 0) (.slice none 0 0), .int .i64 2]) (by simp [results, Try.results11, go_sem, zf, x0, x1, x2, x3]) rfl ⟨rfl, HB.out⟩
set_option maxHeartbeats 2000000 in
theorem new_ok (v : Value) (T : List ByteArray) (w : World) (h : Rts w v T) (hl : T.length ≤ 200) : Calls Try.prog 11 #[v] w fun e w' => ∃ a c, e = .returned (.tuple #[ppV 0 0 (.slice a T.length c) (.slice none 0 0), .int .i64 0]) ∧ Ow (fun g => w.heap.size ≤ g) w' (.slice a T.length c) T ∧ Below w.heap.size w w' := by
  obtain ⟨w0, hw0, hX0, hb0⟩ := pp_named w 0 0 (.slice none 0 0) (.slice none 0 0)
  have HC2 : Hid (Calls Try.prog 25 #[v] w0 fun e w' => ∃ v', e = .returned v' ∧ Txs w' w0.heap.size v' T ∧ Below w0.heap.size w0 w') := copied_any v T w0 (h.below hb0) (by omega)
  obtain ⟨a, c, rfl, hlc, hcm, _⟩ := h
  have HX0 : Hid (w0.heap[w.heap.size]? = some (ppO 0 0 (.slice none 0 0) (.slice none 0 0))) := hX0
  have HB0 : Hid (Below w.heap.size w w0) := hb0
  obtain ⟨n, hn⟩ : ∃ n, T.length = n := ⟨_, rfl⟩
  have HN : Hid (T.length = n) := hn
  rw [hn] at HC2 hl ⊢
  clear hX0 hb0 hn hlc
  go_enter Try.func11, Try.ntmps11
  go_wp2_with fail
  refine HC2.out.mono ?_
  rintro e w1 ⟨v', rfl, ht, hb1⟩
  have hX1 := keep HX0.out hb1
  obtain ⟨a', c', hv, _, _⟩ := ht.form
  obtain ⟨uf, huf, hXf, hBf, hkf, hsf⟩ := pp_put w1 w.heap.size _ _ _ _ 0 0 v' (.slice none 0 0) hX1
  subst hv
  obtain ⟨⟨hz, c0, c1, c2, c3⟩, f0, f1, f2, f3⟩ := box4 hX1
  obtain ⟨⟨zf, x0, x1, x2, x3⟩, _⟩ := box4 hXf
  have hlt : w.heap.size < w0.heap.size := (Array.getElem?_eq_some_iff.1 HX0.out).1
  have HE : Hid (Ow (fun g => w.heap.size ≤ g) uf (.slice a' T.length c') T ∧ Below w.heap.size w uf) := by
    refine ⟨?_, hBf _ _ (Nat.le_refl _) (bsq HB0.out hb1)⟩
    exact (ht.ow.kept (by omega) fun g hg _ => hkf g (by have := hg.2; omega)).mono fun g hg _ => by have := hg.2; omega
  rw [HN.out] at HE huf hXf x2
  clear HC2 HX0 HB0 ht hb1 hBf hkf hsf hX1 hXf hlt
  go_wp2
  try rw [HN.out]
  try rw [huf]
  exact bodyPost_ret (v := .tuple #[ppV 0 0 (.slice a' n c') (.slice none 0 0), .int .i64 0]) (by simp [results, Try.results11, go_sem, zf, x0, x1, x2, x3]) rfl ⟨a', c', rfl, HE.out⟩
theorem new_any (v : Value) (T : List ByteArray) (w : World) (h : Rts w v T) : Calls Try.prog 11 #[v] w (Ans w (nwP T) (nwC T)) := by
  unfold nwP nwC
  by_cases hl : 200 < T.length
  · rw [if_pos hl, if_pos hl]
    obtain ⟨a, c, rfl, hlc, hcm, _⟩ := h
    refine (new_no a _ c w hl).mono ?_
    rintro e u ⟨rfl, hb⟩
    exact Ans.zero 2 hb
  · rw [if_neg hl, if_neg hl]
    refine (new_ok v T w h (by omega)).mono ?_
    rintro e u ⟨a, c, rfl, ho, hb⟩
    exact ⟨_, _, rfl, ho, Ow.nil _ _, hb⟩
end Go.Proofs.Ytgnffifohdgekaa.pipe
