/- plugkeep: pipeLives. -/
import Derived.Test.YtgnffifohdgekaaPipG
namespace Go.Proofs.Ytgnffifohdgekaa.pipe
open Go.RowKit
set_option linter.unusedVariables false
set_option linter.unusedSimpArgs false
set_option maxRecDepth 100000

/-- a pipe that was told, in a place of its own -/
theorem pp_laid (u : World) (s q : Int) (vL vG : Value) : ∃ u1 uf, u.alloc (ppO 0 0 (.slice none 0 0) (.slice none 0 0)) = u1 ∧ (((u1.setCell ⟨u.heap.size, 0, none⟩ (.int .i64 s)).setCell ⟨u.heap.size, 1, none⟩ (.int .i64 q)).setCell ⟨u.heap.size, 2, none⟩ vL).setCell ⟨u.heap.size, 3, none⟩ vG = uf ∧
    u1.heap[u.heap.size]? = some (ppO 0 0 (.slice none 0 0) (.slice none 0 0)) ∧ uf.heap[u.heap.size]? = some (ppO s q vL vG) ∧ Below u.heap.size u uf := by
  obtain ⟨u1, hu1, hX1, hb1⟩ := pp_named u 0 0 (.slice none 0 0) (.slice none 0 0)
  obtain ⟨uf, huf, hXf, hBf, _, _⟩ := pp_put u1 u.heap.size _ _ _ _ s q vL vG hX1
  exact ⟨u1, uf, hu1, huf, hX1, hXf, hBf _ _ (Nat.le_refl _) hb1⟩
theorem Rts.form {w : World} {v : Value} {l : List ByteArray} (h : Rts w v l) : ∃ a c, v = .slice a l.length c ∧ l.length ≤ c ∧ c ≤ maxLen := by
  obtain ⟨a, c, h, h1, h2, _⟩ := h; exact ⟨_, _, h, h1, h2⟩
def tA : ByteArray := ⟨#[97]⟩
def tB : ByteArray := ⟨#[98]⟩
theorem lives_run : rnC [tA, tB] [3, 1, 2, 3] = 0 ∧ rnP [tA, tB] [3, 1, 2, 3] = ⟨1, 0, [tB], [tA, tB]⟩ := by
  have h := rnC_ok (T := [tA, tB]) (F := [3, 1, 2, 3]) (by decide) (by decide) (by decide)
  exact ⟨h.1, h.2.trans rfl⟩
/-- texts and numbers that were laid down -/
theorem rts_laid (w : World) (l : List ByteArray) (h : l.length ≤ 1000) : Rts (w.alloc (.cells (l.map Value.string).toArray 9)) (.slice (some ⟨w.heap.size, 0, none⟩) l.length l.length) l := by
  refine ⟨_, _, rfl, Nat.le_refl _, by unfold maxLen; omega, fun _ => ⟨_, _, rfl, by simp, fun j x hx => ?_⟩⟩
  rw [Nat.zero_add, cell_of_row _ _ _ _ _ (0, 0) (MapKept.heap_alloc w _).1]
  simp [hx]
theorem ris_laid (w : World) (l : List Int) (h : l.length ≤ 1000) : Ris (w.alloc (.cells (l.map (Value.int .i64)).toArray 3)) (.slice (some ⟨w.heap.size, 0, none⟩) l.length l.length) l := by
  refine ⟨_, _, rfl, Nat.le_refl _, by unfold maxLen; omega, fun _ => ⟨_, _, rfl, by simp, fun j x hx => ?_⟩⟩
  rw [Nat.zero_add, cell_of_row _ _ _ _ _ (0, 0) (MapKept.heap_alloc w _).1]
  simp [hx]
set_option maxHeartbeats 600000 in
theorem lives_any (w : World) : Calls Try.prog 22 #[] w fun e w' => e = .returned (.bool true) ∧ Below w.heap.size w w' := by
  obtain ⟨w1, hw1⟩ : ∃ w1, w.alloc (.cells #[.string ⟨#[97]⟩, .string ⟨#[98]⟩] 9) = w1 := ⟨_, rfl⟩
  obtain ⟨w2, hw2⟩ : ∃ w2, w1.alloc (.cells #[.int .i64 3, .int .i64 1, .int .i64 2, .int .i64 3] 3) = w2 := ⟨_, rfl⟩
  have hb1 : Below w.heap.size w w1 := by rw [← hw1]; exact balloc _ _
  have hb2 : Below w1.heap.size w1 w2 := by rw [← hw2]; exact balloc _ _
  have h1 : Rts w1 (.slice (some ⟨w.heap.size, 0, none⟩) 2 2) [tA, tB] := by rw [← hw1]; exact rts_laid w [tA, tB] (by decide)
  have h2 : Ris w2 (.slice (some ⟨w1.heap.size, 0, none⟩) 4 4) [3, 1, 2, 3] := by rw [← hw2]; exact ris_laid w1 [3, 1, 2, 3] (by decide)
  have HR : Hid (Calls Try.prog 14 #[.slice (some ⟨w.heap.size, 0, none⟩) 2 2, .slice (some ⟨w1.heap.size, 0, none⟩) 4 4] w2 fun e w' => ∃ vL vG, e = .returned (.tuple #[ppV 1 0 vL vG, .int .i64 0]) ∧ Rp w' ⟨1, 0, [tB], [tA, tB]⟩ vL vG ∧ Below w2.heap.size w2 w') := by
    refine (run_any _ _ [tA, tB] [3, 1, 2, 3] w2 (h1.below hb2) h2).mono ?_
    intro e w' h
    rw [lives_run.1, lives_run.2] at h
    exact h.read
  have HB2 : Hid (Below w.heap.size w w2) := bsq hb1 hb2
  clear hb1 hb2 h1 h2
  go_enter Try.func22, Try.ntmps22
  go_wp2_with fail
  refine HR.out.mono ?_
  rintro e u ⟨vL, vG, rfl, hR, hb⟩
  obtain ⟨u1, hu1, hX1, hb1⟩ := pp_named u 0 0 (.slice none 0 0) (.slice none 0 0)
  obtain ⟨uf, huf, hXf, hBf, _, hsf⟩ := pp_put u1 u.heap.size _ _ _ _ 1 0 vL vG hX1
  have hbf : Below u.heap.size u uf := hBf _ _ (Nat.le_refl _) hb1
  obtain ⟨u2, hu2⟩ : ∃ u2, uf.alloc (.cells #[.string ⟨#[98]⟩] 9) = u2 := ⟨_, rfl⟩
  have hb2 : Below uf.heap.size uf u2 := by rw [← hu2]; exact balloc _ _
  have hB : Rts u2 (.slice (some ⟨uf.heap.size, 0, none⟩) 1 1) [tB] := by rw [← hu2]; exact rts_laid uf [tB] (by decide)
  have HE : Hid (Calls Try.prog 13 #[vL, .slice (some ⟨uf.heap.size, 0, none⟩) 1 1] u2 fun e w' => e = .returned (.bool true) ∧ Below u2.heap.size u2 w') := by
    have := equalT_any vL (.slice (some ⟨uf.heap.size, 0, none⟩) 1 1) [tB] [tB] u2 (hR.1.below (bsq hbf hb2)) hB
    rw [decide_eq_true rfl] at this
    exact this
  have HU : Hid (Rp uf ⟨1, 0, [tB], [tA, tB]⟩ vL vG ∧ Below w.heap.size w uf ∧ Below uf.heap.size uf u2 ∧ uf.heap[u.heap.size]? = some (ppO 1 0 vL vG)) := ⟨hR.below hbf, bsq HB2.out (bsq hb hbf), hb2, hXf⟩
  obtain ⟨a1, n1, c1, rfl⟩ : ∃ a n c, vL = .slice a n c := by obtain ⟨a, c, h, _⟩ := hR.1; exact ⟨_, _, _, h⟩
  obtain ⟨a2, n2, c2, rfl⟩ : ∃ a n c, vG = .slice a n c := by obtain ⟨a, c, h, _⟩ := hR.2; exact ⟨_, _, _, h⟩
  obtain ⟨⟨hz, x0, x1, x2, x3⟩, f0, f1, f2, f3⟩ := box4 hX1
  obtain ⟨⟨hz', y0, y1, y2, y3⟩, _⟩ := box4 hXf
  clear hR hb hX1 hb1 hXf hBf hbf hb2 hB HR HB2 hsf
  go_wp2_with fail
  refine HE.out.mono ?_
  rintro e u3 ⟨rfl, hb3⟩
  obtain ⟨u4, hu4⟩ : ∃ u4, u3.alloc (.cells #[.string ⟨#[97]⟩, .string ⟨#[98]⟩] 9) = u4 := ⟨_, rfl⟩
  have hb4 : Below u3.heap.size u3 u4 := by rw [← hu4]; exact balloc _ _
  have hB : Rts u4 (.slice (some ⟨u3.heap.size, 0, none⟩) 2 2) [tA, tB] := by rw [← hu4]; exact rts_laid u3 [tA, tB] (by decide)
  have HE2 : Hid (Calls Try.prog 13 #[.slice a2 n2 c2, .slice (some ⟨u3.heap.size, 0, none⟩) 2 2] u4 fun e w' => e = .returned (.bool true) ∧ Below u4.heap.size u4 w') := by
    have := equalT_any (.slice a2 n2 c2) (.slice (some ⟨u3.heap.size, 0, none⟩) 2 2) [tA, tB] [tA, tB] u4 (HU.out.1.2.below (bsq HU.out.2.2.1 (bsq hb3 hb4))) hB
    rw [decide_eq_true rfl] at this
    exact this
  have HB4 : Hid (Below w.heap.size w u4) := bsq HU.out.2.1 (bsq HU.out.2.2.1 (bsq hb3 hb4))
  obtain ⟨⟨hz3, z0, z1, z2, z3⟩, _⟩ := box4 (keep HU.out.2.2.2 (bsq HU.out.2.2.1 hb3))
  clear hb3 hb4 hB HU HE x0 x1 x2 x3 y0 y1 y2 y3 f0 f1 f2 f3 hu1 huf hu2
  go_wp2_with fail
  refine HE2.out.mono ?_
  rintro e u5 ⟨rfl, hb5⟩
  have HB5 : Hid (Below w.heap.size w u5) := bsq HB4.out hb5
  clear hb5 HE2 HB4
  go_wp2
  go_ret
  exact ⟨rfl, HB5.out⟩
end Go.Proofs.Ytgnffifohdgekaa.pipe
