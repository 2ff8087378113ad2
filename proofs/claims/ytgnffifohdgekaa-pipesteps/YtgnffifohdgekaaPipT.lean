/- plugref: what Pipe answers. -/
import Derived.Test.YtgnffifohdgekaaPipR
namespace Go.Proofs.Ytgnffifohdgekaa.pipe
open Go.RowKit
set_option linter.unusedVariables false
set_option linter.unusedSimpArgs false
set_option maxRecDepth 100000

set_option maxHeartbeats 1000000 in
theorem refPipe_arg (p : Pp) (la ga : Option Addr) (ln lc gn gc : Nat) (f : Int) (w : World) (h : argB p f = false) :
    Calls Try.prog 10 #[ppV p.s p.q (.slice la ln lc) (.slice ga gn gc), .int .i64 f] w (RAns w zP 1) := by
  obtain ⟨w1, w2, hw1, hw2, hS⟩ := S0.made w p (.slice la ln lc) (.slice ga gn gc)
  obtain ⟨⟨hz, c0, c1, c2, c3⟩, f0, f1, f2, f3⟩ := box4 hS.box
  obtain ⟨⟨hz', d0, d1, d2, d3⟩, g0, g1, g2, g3⟩ := box4 hS.res
  obtain ⟨uf, huf, hXf, hBf, hkf, hsf⟩ := pp_put w2 w1.heap.size _ _ _ _ 0 0 (.slice none 0 0) (.slice none 0 0) hS.res
  obtain ⟨⟨zf, x0, x1, x2, x3⟩, _⟩ := box4 hXf
  have HB : Hid (Below w.heap.size w uf) := hBf _ _ (by have := hS.lo; have := hS.hi; omega) hS.bel
  have HS : Hid (∀ u, Calls Try.prog 27 #[.int .i64 p.s, .int .i64 0, .int .i64 1] u fun e w' => e = .returned (.bool (bitB p.s)) ∧ u = w') := fun u => by have := between_any p.s 0 1 u; rw [bit_between] at this; exact this
  have HQ : Hid (∀ u, Calls Try.prog 27 #[.int .i64 p.q, .int .i64 0, .int .i64 1] u fun e w' => e = .returned (.bool (bitB p.q)) ∧ u = w') := fun u => by have := between_any p.q 0 1 u; rw [bit_between] at this; exact this
  have HF : Hid (∀ u, Calls Try.prog 28 #[.int .i64 f] u fun e w' => e = .returned (.bool (fateB f)) ∧ u = w') := fun u => refFate_any f u
  obtain ⟨s, q, L, G⟩ := p
  simp only [argB] at *
  clear hkf hsf hBf hXf hS
  cases h1 : bitB s
  · rw [h1] at HS
    clear HQ HF h h1
    go_enter Try.func10, Try.ntmps10
    go_wp2_with fail
    refine (HS.out _).mono ?_
    rintro e u ⟨rfl, rfl⟩
    go_wp2
    try rw [huf]
    exact bodyPost_ret (v := .tuple #[ppV 0 0 (.slice none 0 0) (.slice none 0 0), .int .i64 1]) (by simp [results, Try.results10, go_sem, zf, x0, x1, x2, x3]) rfl (RAns.zero 1 HB.out)
  rw [h1] at HS h
  cases h2 : bitB q
  · rw [h2] at HQ
    clear HF h h1 h2
    go_enter Try.func10, Try.ntmps10
    go_wp2_with fail
    refine (HS.out _).mono ?_
    rintro e u ⟨rfl, rfl⟩
    go_wp2_with fail
    refine (HQ.out _).mono ?_
    rintro e u ⟨rfl, rfl⟩
    go_wp2
    try rw [huf]
    exact bodyPost_ret (v := .tuple #[ppV 0 0 (.slice none 0 0) (.slice none 0 0), .int .i64 1]) (by simp [results, Try.results10, go_sem, zf, x0, x1, x2, x3]) rfl (RAns.zero 1 HB.out)
  rw [h2] at HQ h
  simp only [Bool.true_and] at h
  rw [h] at HF
  clear h h1 h2
  go_enter Try.func10, Try.ntmps10
  go_wp2_with fail
  refine (HS.out _).mono ?_
  rintro e u ⟨rfl, rfl⟩
  go_wp2_with fail
  refine (HQ.out _).mono ?_
  rintro e u ⟨rfl, rfl⟩
  go_wp2_with fail
  refine (HF.out _).mono ?_
  rintro e u ⟨rfl, rfl⟩
  go_wp2
  try rw [huf]
  exact bodyPost_ret (v := .tuple #[ppV 0 0 (.slice none 0 0) (.slice none 0 0), .int .i64 1]) (by simp [results, Try.results10, go_sem, zf, x0, x1, x2, x3]) rfl (RAns.zero 1 HB.out)
set_option maxHeartbeats 1000000 in
theorem refPipe_large (p : Pp) (la ga : Option Addr) (ln lc gn gc : Nat) (f : Int) (w : World) (h : argB p f = true) (hl : 200 < ln ∨ 200 < gn) :
    Calls Try.prog 10 #[ppV p.s p.q (.slice la ln lc) (.slice ga gn gc), .int .i64 f] w (RAns w zP 2) := by
  obtain ⟨w1, w2, hw1, hw2, hS⟩ := S0.made w p (.slice la ln lc) (.slice ga gn gc)
  obtain ⟨⟨hz, c0, c1, c2, c3⟩, f0, f1, f2, f3⟩ := box4 hS.box
  obtain ⟨⟨hz', d0, d1, d2, d3⟩, g0, g1, g2, g3⟩ := box4 hS.res
  obtain ⟨uf, huf, hXf, hBf, hkf, hsf⟩ := pp_put w2 w1.heap.size _ _ _ _ 0 0 (.slice none 0 0) (.slice none 0 0) hS.res
  obtain ⟨⟨zf, x0, x1, x2, x3⟩, _⟩ := box4 hXf
  have HB : Hid (Below w.heap.size w uf) := hBf _ _ (by have := hS.lo; have := hS.hi; omega) hS.bel
  obtain ⟨h1, h2, h3⟩ := argB_parts h
  have HS : Hid (∀ u, Calls Try.prog 27 #[.int .i64 p.s, .int .i64 0, .int .i64 1] u fun e w' => e = .returned (.bool true) ∧ u = w') := fun u => by have := between_any p.s 0 1 u; rw [bit_between, h1] at this; exact this
  have HQ : Hid (∀ u, Calls Try.prog 27 #[.int .i64 p.q, .int .i64 0, .int .i64 1] u fun e w' => e = .returned (.bool true) ∧ u = w') := fun u => by have := between_any p.q 0 1 u; rw [bit_between, h2] at this; exact this
  have HF : Hid (∀ u, Calls Try.prog 28 #[.int .i64 f] u fun e w' => e = .returned (.bool true) ∧ u = w') := fun u => by have := refFate_any f u; rw [h3] at this; exact this
  obtain ⟨s, q, L, G⟩ := p
  simp only at *
  clear hkf hsf hBf hXf hS h h1 h2 h3
  by_cases hln : 200 < ln
  · have e1 : decide ((ln : Int) > 200) = true := by rw [decide_eq_true_eq]; omega
    clear hl hln
    go_enter Try.func10, Try.ntmps10
    go_wp2_with fail
    refine (HS.out _).mono ?_
    rintro e u ⟨rfl, rfl⟩
    go_wp2_with fail
    refine (HQ.out _).mono ?_
    rintro e u ⟨rfl, rfl⟩
    go_wp2_with fail
    refine (HF.out _).mono ?_
    rintro e u ⟨rfl, rfl⟩
    go_wp2
    try rw [huf]
    exact bodyPost_ret (v := .tuple #[ppV 0 0 (.slice none 0 0) (.slice none 0 0), .int .i64 2]) (by simp [results, Try.results10, go_sem, zf, x0, x1, x2, x3]) rfl (RAns.zero 2 HB.out)
  · have e1 : decide ((ln : Int) > 200) = false := by rw [decide_eq_false_iff_not]; omega
    have e2 : decide ((gn : Int) > 200) = true := by rw [decide_eq_true_eq]; omega
    clear hl hln
    go_enter Try.func10, Try.ntmps10
    go_wp2_with fail
    refine (HS.out _).mono ?_
    rintro e u ⟨rfl, rfl⟩
    go_wp2_with fail
    refine (HQ.out _).mono ?_
    rintro e u ⟨rfl, rfl⟩
    go_wp2_with fail
    refine (HF.out _).mono ?_
    rintro e u ⟨rfl, rfl⟩
    go_wp2
    try rw [huf]
    exact bodyPost_ret (v := .tuple #[ppV 0 0 (.slice none 0 0) (.slice none 0 0), .int .i64 2]) (by simp [results, Try.results10, go_sem, zf, x0, x1, x2, x3]) rfl (RAns.zero 2 HB.out)
end Go.Proofs.Ytgnffifohdgekaa.pipe
