/- pipe: what Step answers. -/
import Derived.Test.YtgnffifohdgekaaPipC
namespace Go.Proofs.Ytgnffifohdgekaa.pipe
open Go.RowKit
set_option linter.unusedVariables false
set_option linter.unusedSimpArgs false
set_option maxRecDepth 100000

theorem step_call {P : Program} {ops : Array Oper} {o : Oper} {a : Act} {w : World} {K : Act → World → Prop} {Q : Exit → Act → World → Prop} {E : Prop} (hgd : o.guard = none) (f : Nat) (args : Array Value)
    (hx : (execOp a.eval o).run P w = .ok (.enter f args) w) (h : Calls P f args w (fun e w' => ∃ v, e = .returned v ∧ K (a.put o.dst v) w')) :
    if Region.wanted o (yielded ops a.tmps) = true then Oper.wp P o a w K Q else E := by
  have hw : Region.wanted o (yielded ops a.tmps) = true := by simp [Region.wanted, hgd]
  rw [if_pos hw]
  unfold Oper.wp
  rw [hx]
  simp only [Oper.upon]
  refine h.mono ?_
  rintro e w' ⟨v, rfl, hk⟩
  exact hk
theorem bit_cases {n : Int} (h : bitB n = true) : n = 0 ∨ n = 1 := by have := (bit_iff n).1 h; omega
theorem stC_arg {p : Pp} {f : Int} (h : argB p f = false) : stC p f = 1 ∧ stP p f = zP := by
  have h1 : stC p f = 1 := by unfold stC; rw [if_pos h]
  exact ⟨h1, by unfold stP; rw [h1]; rfl⟩
theorem stC_large {p : Pp} {f : Int} (h : argB p f = true) (hl : 200 < p.L.length ∨ 200 < p.G.length) : stC p f = 2 ∧ stP p f = zP := by
  have h1 : stC p f = 2 := by unfold stC; rw [if_neg (by rw [h]; decide), if_pos hl]
  exact ⟨h1, by unfold stP; rw [h1]; rfl⟩
theorem stC_ok {p : Pp} {f : Int} (h : argB p f = true) (h1 : p.L.length ≤ 200) (h2 : p.G.length ≤ 200) : stC p f = 0 ∧ stP p f = sendP p f := by
  have h1 : stC p f = 0 := by unfold stC; rw [if_neg (by rw [h]; decide), if_neg (by omega)]
  exact ⟨h1, by unfold stP; rw [if_pos h1]⟩
/-- the worlds in which Step begins -/
structure S0 (w : World) (p : Pp) (vL vG : Value) (X R : Nat) (u : World) : Prop where
  box : u.heap[X]? = some (ppO p.s p.q vL vG)
  res : u.heap[R]? = some (ppO 0 0 (.slice none 0 0) (.slice none 0 0))
  lo : w.heap.size ≤ X
  hi : X < R
  bel : Below w.heap.size w u
theorem S0.made (w : World) (p : Pp) (vL vG : Value) : ∃ w1 w2, w.alloc (ppO p.s p.q vL vG) = w1 ∧ w1.alloc (ppO 0 0 (.slice none 0 0) (.slice none 0 0)) = w2 ∧ S0 w p vL vG w.heap.size w1.heap.size w2 := by
  obtain ⟨w1, hw1, hX1, hb1⟩ := pp_named w p.s p.q vL vG
  obtain ⟨w2, hw2, hX2, hb2⟩ := pp_named w1 0 0 (.slice none 0 0) (.slice none 0 0)
  exact ⟨w1, w2, hw1, hw2, keep hX1 hb2, hX2, Nat.le_refl _, (Array.getElem?_eq_some_iff.1 hX1).1, bsq hb1 hb2⟩
theorem S0.below {w : World} {p : Pp} {vL vG : Value} {X R : Nat} {u u' : World} (h : S0 w p vL vG X R u) (hb : Below u.heap.size u u') : S0 w p vL vG X R u' :=
  ⟨keep h.box hb, keep h.res hb, h.lo, h.hi, bsq h.bel hb⟩
set_option maxHeartbeats 4000000 in
theorem step_arg (p : Pp) (la ga : Option Addr) (ln lc gn gc : Nat) (f : Int) (w : World) (h : argB p f = false) :
    Calls Try.prog 9 #[ppV p.s p.q (.slice la ln lc) (.slice ga gn gc), .int .i64 f] w (Ans w zP 1) := by
  obtain ⟨w1, w2, hw1, hw2, hS⟩ := S0.made w p (.slice la ln lc) (.slice ga gn gc)
  obtain ⟨⟨hz, c0, c1, c2, c3⟩, f0, f1, f2, f3⟩ := box4 hS.box
  obtain ⟨⟨hz', d0, d1, d2, d3⟩, g0, g1, g2, g3⟩ := box4 hS.res
  obtain ⟨uf, huf, hXf, hBf, _, _⟩ := pp_put w2 w1.heap.size _ _ _ _ 0 0 (.slice none 0 0) (.slice none 0 0) hS.res
  obtain ⟨⟨zf, x0, x1, x2, x3⟩, _⟩ := box4 hXf
  have HB : Hid (Below w.heap.size w uf) := hBf _ _ (by have := hS.lo; have := hS.hi; omega) hS.bel
  have HS : Hid (∀ u, Calls Try.prog 23 #[.int .i64 p.s] u fun e w' => e = .returned (.bool (bitB p.s)) ∧ u = w') := fun u => isBit_any p.s u
  have HQ : Hid (∀ u, Calls Try.prog 23 #[.int .i64 p.q] u fun e w' => e = .returned (.bool (bitB p.q)) ∧ u = w') := fun u => isBit_any p.q u
  have HF : Hid (∀ u, Calls Try.prog 24 #[.int .i64 f] u fun e w' => e = .returned (.bool (fateB f)) ∧ u = w') := fun u => isFate_any f u
  obtain ⟨s, q, L, G⟩ := p
  simp only [argB] at *
  cases h1 : bitB s
  · rw [h1] at HS
    clear hBf hXf hS HQ HF h h1
    go_enter Try.func9, Try.ntmps9
    go_wp2_with fail
    refine (HS.out _).mono ?_
    rintro e u ⟨rfl, rfl⟩
    go_wp2
    try rw [huf]
    exact bodyPost_ret (v := .tuple #[ppV 0 0 (.slice none 0 0) (.slice none 0 0), .int .i64 1]) (by simp [results, Try.results9, go_sem, zf, x0, x1, x2, x3]) rfl (Ans.zero 1 HB.out)
  rw [h1] at HS h
  cases h2 : bitB q
  · rw [h2] at HQ
    clear hBf hXf hS HF h h1 h2
    go_enter Try.func9, Try.ntmps9
    go_wp2_with fail
    refine (HS.out _).mono ?_
    rintro e u ⟨rfl, rfl⟩
    go_wp2_with fail
    refine (HQ.out _).mono ?_
    rintro e u ⟨rfl, rfl⟩
    go_wp2
    try rw [huf]
    exact bodyPost_ret (v := .tuple #[ppV 0 0 (.slice none 0 0) (.slice none 0 0), .int .i64 1]) (by simp [results, Try.results9, go_sem, zf, x0, x1, x2, x3]) rfl (Ans.zero 1 HB.out)
  rw [h2] at HQ h
  simp only [Bool.true_and] at h
  rw [h] at HF
  clear hBf hXf hS h h1 h2
  go_enter Try.func9, Try.ntmps9
  go_wp2_with fail
  refine (HS.out _).mono ?_
  rintro e u ⟨rfl, rfl⟩
  go_wp2_with fail
  refine (HQ.out _).mono ?_
  rintro e u ⟨rfl, rfl⟩
  go_wp2_with fail
  refine (HF.out _).mono ?_
  rintro e u ⟨rfl, rfl⟩
  go_wp2
  try rw [huf]
  exact bodyPost_ret (v := .tuple #[ppV 0 0 (.slice none 0 0) (.slice none 0 0), .int .i64 1]) (by simp [results, Try.results9, go_sem, zf, x0, x1, x2, x3]) rfl (Ans.zero 1 HB.out)
theorem argB_parts {p : Pp} {f : Int} (h : argB p f = true) : bitB p.s = true ∧ bitB p.q = true ∧ fateB f = true := by
  unfold argB at h
  simp only [Bool.and_eq_true] at h
  exact ⟨h.1.1, h.1.2, h.2⟩
set_option maxHeartbeats 4000000 in
theorem step_large (p : Pp) (la ga : Option Addr) (ln lc gn gc : Nat) (f : Int) (w : World) (h : argB p f = true) (hl : 200 < ln ∨ 200 < gn) :
    Calls Try.prog 9 #[ppV p.s p.q (.slice la ln lc) (.slice ga gn gc), .int .i64 f] w (Ans w zP 2) := by
  obtain ⟨w1, w2, hw1, hw2, hS⟩ := S0.made w p (.slice la ln lc) (.slice ga gn gc)
  obtain ⟨⟨hz, c0, c1, c2, c3⟩, f0, f1, f2, f3⟩ := box4 hS.box
  obtain ⟨⟨hz', d0, d1, d2, d3⟩, g0, g1, g2, g3⟩ := box4 hS.res
  obtain ⟨uf, huf, hXf, hBf, _, _⟩ := pp_put w2 w1.heap.size _ _ _ _ 0 0 (.slice none 0 0) (.slice none 0 0) hS.res
  obtain ⟨⟨zf, x0, x1, x2, x3⟩, _⟩ := box4 hXf
  have HB : Hid (Below w.heap.size w uf) := hBf _ _ (by have := hS.lo; have := hS.hi; omega) hS.bel
  obtain ⟨h1, h2, h3⟩ := argB_parts h
  have HS : Hid (∀ u, Calls Try.prog 23 #[.int .i64 p.s] u fun e w' => e = .returned (.bool true) ∧ u = w') := fun u => by have := isBit_any p.s u; rw [h1] at this; exact this
  have HQ : Hid (∀ u, Calls Try.prog 23 #[.int .i64 p.q] u fun e w' => e = .returned (.bool true) ∧ u = w') := fun u => by have := isBit_any p.q u; rw [h2] at this; exact this
  have HF : Hid (∀ u, Calls Try.prog 24 #[.int .i64 f] u fun e w' => e = .returned (.bool true) ∧ u = w') := fun u => by have := isFate_any f u; rw [h3] at this; exact this
  obtain ⟨s, q, L, G⟩ := p
  simp only at *
  by_cases hln : 200 < ln
  · have e1 : decide ((ln : Int) > 200) = true := by rw [decide_eq_true_eq]; omega
    clear hBf hXf hS h h1 h2 h3 hl hln
    go_enter Try.func9, Try.ntmps9
    go_wp2_with fail
    refine (HS.out _).mono ?_
    rintro e u ⟨rfl, rfl⟩
    go_wp2_with fail
    refine (HQ.out _).mono ?_
    rintro e u ⟨rfl, rfl⟩
    go_wp2_with fail
    refine (HF.out _).mono ?_
    rintro e u ⟨rfl, rfl⟩
    go_wp2
    try rw [huf]
    exact bodyPost_ret (v := .tuple #[ppV 0 0 (.slice none 0 0) (.slice none 0 0), .int .i64 2]) (by simp [results, Try.results9, go_sem, zf, x0, x1, x2, x3]) rfl (Ans.zero 2 HB.out)
  · have e1 : decide ((ln : Int) > 200) = false := by rw [decide_eq_false_iff_not]; omega
    have e2 : decide ((gn : Int) > 200) = true := by rw [decide_eq_true_eq]; omega
    clear hBf hXf hS h h1 h2 h3 hl hln
    go_enter Try.func9, Try.ntmps9
    go_wp2_with fail
    refine (HS.out _).mono ?_
    rintro e u ⟨rfl, rfl⟩
    go_wp2_with fail
    refine (HQ.out _).mono ?_
    rintro e u ⟨rfl, rfl⟩
    go_wp2_with fail
    refine (HF.out _).mono ?_
    rintro e u ⟨rfl, rfl⟩
    go_wp2
    try rw [huf]
    exact bodyPost_ret (v := .tuple #[ppV 0 0 (.slice none 0 0) (.slice none 0 0), .int .i64 2]) (by simp [results, Try.results9, go_sem, zf, x0, x1, x2, x3]) rfl (Ans.zero 2 HB.out)
end Go.Proofs.Ytgnffifohdgekaa.pipe
