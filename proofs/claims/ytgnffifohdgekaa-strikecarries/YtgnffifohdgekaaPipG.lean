/- plugref: are two pipes the same. -/
import Derived.Test.YtgnffifohdgekaaPipF
namespace Go.Proofs.Ytgnffifohdgekaa.pipe
open Go.RowKit
set_option linter.unusedVariables false
set_option linter.unusedSimpArgs false
set_option maxRecDepth 100000

def samB (p r : Pp) : Bool := (p.s == r.s) && ((p.q == r.q) && (decide (p.L = r.L) && decide (p.G = r.G)))
theorem samB_same (p : Pp) : samB p p = true := by simp [samB]
/-- a pipe that is read -/
def Rp (w : World) (p : Pp) (vL vG : Value) : Prop := Rts w vL p.L ∧ Rts w vG p.G
theorem Rp.below {w u : World} {p : Pp} {vL vG : Value} (h : Rp w p vL vG) (hb : Below w.heap.size w u) : Rp u p vL vG := ⟨h.1.below hb, h.2.below hb⟩
theorem Rp.nil (w : World) : Rp w zP (.slice none 0 0) (.slice none 0 0) := ⟨Rts.nil w, Rts.nil w⟩
/-- what a call answers, as far as it is read -/
def RAns (w : World) (p : Pp) (code : Int) (e : Ending) (w' : World) : Prop :=
  ∃ vL vG, e = .returned (.tuple #[ppV p.s p.q vL vG, .int .i64 code]) ∧ Rp w' p vL vG ∧ Below w.heap.size w w'
theorem Ans.read {w w' : World} {p : Pp} {code : Int} {e : Ending} (h : Ans w p code e w') : RAns w p code e w' := by
  obtain ⟨vL, vG, he, h1, h2, hb⟩ := h
  exact ⟨vL, vG, he, ⟨h1.rts, h2.rts⟩, hb⟩
theorem RAns.zero {w w' : World} (code : Int) (hb : Below w.heap.size w w') : RAns w zP code (.returned (.tuple #[ppV 0 0 (.slice none 0 0) (.slice none 0 0), .int .i64 code])) w' := (Ans.zero code hb).read
set_option maxHeartbeats 4000000 in
theorem samePipe_any (p r : Pp) (vL vG wL wG : Value) (w : World) (hp : Rp w p vL vG) (hr : Rp w r wL wG) :
    Calls Try.prog 12 #[ppV p.s p.q vL vG, ppV r.s r.q wL wG] w fun e w' => e = .returned (.bool (samB p r)) ∧ Below w.heap.size w w' := by
  obtain ⟨w1, hw1, hX1, hb1⟩ := pp_named w p.s p.q vL vG
  obtain ⟨w2, hw2, hX2, hb2⟩ := pp_named w1 r.s r.q wL wG
  have hX12 := keep hX1 hb2
  have HB2 : Hid (Below w.heap.size w w2) := bsq hb1 hb2
  have HEL : Hid (∀ u, Below w2.heap.size w2 u → Calls Try.prog 13 #[vL, wL] u fun e w' => e = .returned (.bool (decide (p.L = r.L))) ∧ Below u.heap.size u w') := fun u hu => equalT_any vL wL p.L r.L u (hp.1.below (bsq HB2.out hu)) (hr.1.below (bsq HB2.out hu))
  have HEG : Hid (∀ u, Below w2.heap.size w2 u → Calls Try.prog 13 #[vG, wG] u fun e w' => e = .returned (.bool (decide (p.G = r.G))) ∧ Below u.heap.size u w') := fun u hu => equalT_any vG wG p.G r.G u (hp.2.below (bsq HB2.out hu)) (hr.2.below (bsq HB2.out hu))
  have HX : Hid (∀ u, Below w2.heap.size w2 u → u.heap[w.heap.size]? = some (ppO p.s p.q vL vG) ∧ u.heap[w1.heap.size]? = some (ppO r.s r.q wL wG)) := fun u hu => ⟨keep hX12 hu, keep hX2 hu⟩
  obtain ⟨a1, n1, c1, rfl⟩ : ∃ a n c, vL = .slice a n c := by obtain ⟨a, c, h, _⟩ := hp.1; exact ⟨_, _, _, h⟩
  obtain ⟨a2, n2, c2, rfl⟩ : ∃ a n c, vG = .slice a n c := by obtain ⟨a, c, h, _⟩ := hp.2; exact ⟨_, _, _, h⟩
  obtain ⟨a3, n3, c3, rfl⟩ : ∃ a n c, wL = .slice a n c := by obtain ⟨a, c, h, _⟩ := hr.1; exact ⟨_, _, _, h⟩
  obtain ⟨a4, n4, c4, rfl⟩ : ∃ a n c, wG = .slice a n c := by obtain ⟨a, c, h, _⟩ := hr.2; exact ⟨_, _, _, h⟩
  obtain ⟨⟨hz, x0, x1, x2, x3⟩, _⟩ := box4 hX12
  obtain ⟨⟨hz', y0, y1, y2, y3⟩, _⟩ := box4 hX2
  unfold samB
  generalize p.s = s at *
  generalize p.q = q at *
  generalize r.s = t at *
  generalize r.q = v at *
  clear hp hr hX1 hX2 hX12 hb1 hb2
  cases hs : (s == t)
  · clear HEL HEG HX
    go_enter Try.func12, Try.ntmps12
    go_wp2
    go_ret
    exact ⟨rfl, HB2.out⟩
  cases hq : (q == v)
  · clear HEL HEG HX
    go_enter Try.func12, Try.ntmps12
    go_wp2
    go_ret
    exact ⟨rfl, HB2.out⟩
  by_cases hL : ¬ p.L = r.L
  · rw [decide_eq_false hL] at HEL ⊢
    clear HEG HX
    go_enter Try.func12, Try.ntmps12
    go_wp2_with fail
    refine (HEL.out _ (Below.refl _ _)).mono ?_
    rintro e u ⟨rfl, hb⟩
    have HB : Hid (Below w.heap.size w u) := bsq HB2.out hb
    clear hb HEL HB2 hL
    go_wp2
    go_ret
    exact ⟨rfl, HB.out⟩
  rw [decide_eq_true (Classical.not_not.1 hL)] at HEL ⊢
  clear hL
  generalize decide (p.G = r.G) = b at *
  go_enter Try.func12, Try.ntmps12
  go_wp2_with fail
  refine (HEL.out _ (Below.refl _ _)).mono ?_
  rintro e u ⟨rfl, hb⟩
  obtain ⟨h1, h2⟩ := HX.out u hb
  obtain ⟨⟨_, i0, i1, i2, i3⟩, _⟩ := box4 h1
  obtain ⟨⟨_, j0, j1, j2, j3⟩, _⟩ := box4 h2
  have HC := HEG.out u hb
  have HC2 : Hid (Calls Try.prog 13 #[.slice a2 n2 c2, .slice a4 n4 c4] u fun e w' => e = .returned (.bool b) ∧ Below u.heap.size u w') := HC
  have HB3 : Hid (Below w.heap.size w u) := bsq HB2.out hb
  clear h1 h2 hb HC HEL HEG HB2 HX x0 x1 x2 x3 y0 y1 y2 y3
  go_wp2_with fail
  refine HC2.out.mono ?_
  rintro e u2 ⟨rfl, hb⟩
  have HB : Hid (Below w.heap.size w u2) := bsq HB3.out hb
  clear hb HC2 HB3
  go_wp2
  go_ret
  exact ⟨rfl, HB.out⟩
end Go.Proofs.Ytgnffifohdgekaa.pipe
