/- DescReads: the walk (once configOf and plugref's ReadConfig answer as they should). -/
import Derived.Test.YtilfenijbbhfjaaDescPa
import Derived.Test.YtilfenijbbhfjaaDescZ
import Derived.Test.YtilfenijbbhfjaaDescSa
namespace Go.Proofs.Ytilfenijbbhfjaa.descReads
open Go.RowKit Go.PlainAid Go.Proofs.Ytilfenijbbhfjaa.lane Go.Proofs.Ytilfenijbbhfjaa.desc
set_option linter.unusedVariables false
set_option linter.unusedSimpArgs false
set_option maxRecDepth 100000

/-- what both readings come to: one code, and configurations that are alike -/
theorem both {s : ByteArray} {u u' v v' : World} {e e' : Ending} (h1 : RcP s u e u') (h2 : RrP s v e' v') :
    (∃ z, z ≠ 0 ∧ e = .returned (.tuple #[cfV noC (.slice none 0 0), .int .i64 z]) ∧ e' = .returned (.tuple #[cfV noC (.slice none 0 0), .int .i64 z]) ∧ Below u.heap.size u u' ∧ Below v.heap.size v v') ∨
    (∃ c vf L vg M, e = .returned (.tuple #[cfV c vf, .int .i64 0]) ∧ e' = .returned (.tuple #[cfV c vg, .int .i64 0]) ∧ Rc u' vf c L ∧ Rc v' vg c M ∧ Below u.heap.size u u' ∧ Below v.heap.size v v') := by
  rcases h1 with ⟨a1, a2, a3⟩ | ⟨a1, a2, a3, a4⟩ | ⟨c, vf, L, X, a1, a2, a3, a4, a5⟩
  · rcases h2 with ⟨b1, b2, b3⟩ | ⟨b1, _⟩ | ⟨_, _, _, b1, _⟩
    · exact .inl ⟨_, a1, a2, b2, a3, b3⟩
    · exact absurd b1 a1
    · exact absurd b1 a1
  · rcases h2 with ⟨b1, _⟩ | ⟨b1, b2, b3, b4⟩ | ⟨c', _, _, _, b2, _⟩
    · exact absurd a1 b1
    · exact .inl ⟨4, by decide, a3, b3, a4, b4⟩
    · exact absurd b2 (a2 c')
  · rcases h2 with ⟨b1, _⟩ | ⟨_, b2, _⟩ | ⟨c', vg, M, _, b2, b3, b4, b5⟩
    · exact absurd a1 b1
    · exact absurd a2 (b2 c)
    · have hc := isT_one a2 b2
      subst hc
      exact .inr ⟨c, vf, L, vg, M, a3, b3, ⟨a4.rc.fs, a5⟩, b4, a4.bel, b5⟩
/-- plugref's ReadConfig answers as it should -/
def RrAll : Prop := ∀ (s : ByteArray) (w : World), s.size ≤ maxLen → Calls Try.prog 19 #[.string s] w (RrP s w)
set_option maxHeartbeats 4000000 in
theorem walk_of (hco : CoAll) (hrr : RrAll) (a0 : ByteArray) (w0 : a0.size ≤ maxLen) (w : World) :
    Calls Try.prog 6 #[.string a0] w fun e w' => e = .returned (.bool true) ∧ Below w.heap.size w w' := by
  have HR : Hid (∀ w : World, Calls Try.prog 18 #[.string a0] w (RcP a0 w)) := fun w => readConfig_of hco a0 w w0
  have HS : Hid (∀ w : World, Calls Try.prog 19 #[.string a0] w (RrP a0 w)) := fun w => hrr a0 w w0
  have HZ : Hid (∀ w : World, Calls Try.prog 20 #[.agg #[.int .i64 0, .int .i64 0, .int .i64 0, .int .i64 0, .slice none 0 0], .agg #[.int .i64 0, .int .i64 0, .int .i64 0, .int .i64 0, .slice none 0 0]] w fun e w' => e = .returned (.bool true) ∧ Below w.heap.size w w') := fun w => sameConfig_same noC (.slice none 0 0) (.slice none 0 0) [] [] w (Rc.empty w 0 0 0 0) (Rc.empty w 0 0 0 0)
  clear hco hrr w0
  go_enter Try.func6, Try.ntmps6
  go_wp2_with fail
  refine (HR.out _).mono ?_
  rintro e wa h1
  have H1 : Hid (RcP a0 w e wa) := h1
  have h1' : (∃ z, z ≠ 0 ∧ e = .returned (.tuple #[cfV noC (.slice none 0 0), .int .i64 z]) ∧ Below w.heap.size w wa) ∨ (∃ c vf L, e = .returned (.tuple #[cfV c vf, .int .i64 0]) ∧ Rc wa vf c L ∧ Below w.heap.size w wa ∧ splC (nums a0) = 0 ∧ isT (nums a0) c) := by
    rcases h1 with ⟨a1, a2, a3⟩ | ⟨a1, a2, a3, a4⟩ | ⟨c, vf, L, X, a1, a2, a3, a4, a5⟩
    · exact .inl ⟨_, a1, a2, a3⟩
    · exact .inl ⟨4, by decide, a3, a4⟩
    · exact .inr ⟨c, vf, L, a3, ⟨a4.rc.fs, a5⟩, a4.bel, a1, a2⟩
  clear h1
  rcases h1' with ⟨z, hz, rfl, hba⟩ | ⟨c, vf, L, rfl, hrc, hba, hs0, ht0⟩
  · have HBa : Hid (Below w.heap.size w wa) := hba
    have HZN : Hid (z ≠ 0) := hz
    obtain ⟨w4, hw4⟩ : ∃ w4, wa.alloc (cfO 0 0 0 0 (.slice none 0 0)) = w4 := ⟨_, rfl⟩
    have hb4 : Below wa.heap.size wa w4 := by rw [← hw4]; exact balloc _ _
    have hX4 : w4.heap[wa.heap.size]? = some (cfO 0 0 0 0 (.slice none 0 0)) := by rw [← hw4]; exact (MapKept.heap_alloc wa _).1
    obtain ⟨⟨hzX, x0, x1, x2, x3, x4⟩, y0, y1, y2, y3, y4⟩ := box5f hX4
    obtain ⟨wg, hwg, hXg, hBg, _⟩ := ch5 w4 wa.heap.size _ _ _ _ _ 0 0 0 0 (.slice none 0 0) hX4
    have HBg : Hid (Below w.heap.size w wg) := bsq HBa.out (hBg wa (Nat.le_refl _) hb4)
    have HXg : Hid (wg.heap[wa.heap.size]? = some (cfO 0 0 0 0 (.slice none 0 0))) := hXg
    simp only [noC]
    clear hb4 hX4 hXg hBg hba hz
    go_wp2_with fail
    refine (HS.out _).mono ?_
    rintro e' wc h2
    have h3 : e' = .returned (.tuple #[cfV noC (.slice none 0 0), .int .i64 z]) ∧ Below wg.heap.size wg wc := by
      rcases both H1.out h2 with ⟨z', _, q1, q2, _, q3⟩ | ⟨c', _, _, _, _, q1, _⟩
      · injection q1 with q1
        simp at q1
        rw [q1]
        exact ⟨q2, q3⟩
      · injection q1 with q1
        simp at q1
        exact absurd q1.2 HZN.out
    obtain ⟨rfl, hbc⟩ := h3
    obtain ⟨w5, hw5⟩ : ∃ w5, wc.alloc (cfO 0 0 0 0 (.slice none 0 0)) = w5 := ⟨_, rfl⟩
    have hb5 : Below wc.heap.size wc w5 := by rw [← hw5]; exact balloc _ _
    have hX5 : w5.heap[wc.heap.size]? = some (cfO 0 0 0 0 (.slice none 0 0)) := by rw [← hw5]; exact (MapKept.heap_alloc wc _).1
    obtain ⟨⟨hzX5, u0, u1, u2, u3, u4⟩, v0, v1, v2, v3, v4⟩ := box5f hX5
    obtain ⟨wh, hwh, hXh, hBh, _⟩ := ch5 w5 wc.heap.size _ _ _ _ _ 0 0 0 0 (.slice none 0 0) hX5
    have hbh := hBh wc (Nat.le_refl _) hb5
    have HBh : Hid (Below w.heap.size w wh) := bsq HBg.out (bsq hbc hbh)
    obtain ⟨⟨hz1, q0, q1, q2, q3, q4⟩, _⟩ := box5f hXh
    obtain ⟨⟨hz2, s0, s1, s2, s3, s4⟩, _⟩ := box5f (res_below (res_below HXg.out hbc) hbh)
    simp only [noC]
    clear h2 hbc hb5 hX5 hXh hBh hbh x0 x1 x2 x3 x4 y0 y1 y2 y3 y4
    go_wp2_with fail
    refine (HZ.out _).mono ?_
    rintro e wi ⟨rfl, hbi⟩
    have HBi : Hid (Below w.heap.size w wi) := bsq HBh.out hbi
    clear hbi
    go_wp2
    go_ret
    exact ⟨rfl, HBi.out⟩
  · have HBa : Hid (Below w.heap.size w wa) := hba
    obtain ⟨fa, fn, fc, rfl⟩ : ∃ a n c, vf = .slice a n c := by obtain ⟨a, c, h, _⟩ := hrc.fs.row; exact ⟨_, _, _, h⟩
    obtain ⟨w4, hw4⟩ : ∃ w4, wa.alloc (cfO c.va c.na c.atr c.po (.slice fa fn fc)) = w4 := ⟨_, rfl⟩
    have hb4 : Below wa.heap.size wa w4 := by rw [← hw4]; exact balloc _ _
    have HX4 : Hid (w4.heap[wa.heap.size]? = some (cfO c.va c.na c.atr c.po (.slice fa fn fc))) := by rw [← hw4]; exact (MapKept.heap_alloc wa _).1
    have HB4 : Hid (Below w.heap.size w w4) := bsq HBa.out hb4
    have HR4 : Hid (Rc w4 (.slice fa fn fc) c L) := hrc.below hb4
    have HST : Hid (splC (nums a0) = 0 ∧ isT (nums a0) c) := ⟨hs0, ht0⟩
    clear hb4 hrc hba hs0 ht0
    go_wp2_with fail
    refine (HS.out _).mono ?_
    rintro e' wc h2
    have h3 : ∃ vg M, e' = .returned (.tuple #[cfV c vg, .int .i64 0]) ∧ Rc wc vg c M ∧ Below w4.heap.size w4 wc := by
      rcases h2 with ⟨b1, _⟩ | ⟨_, b2, _⟩ | ⟨c', vg, M, _, b2, b3, b4, b5⟩
      · exact absurd HST.out.1 b1
      · exact absurd HST.out.2 (b2 c)
      · have hc := isT_one HST.out.2 b2
        subst hc
        exact ⟨vg, M, b3, b4, b5⟩
    obtain ⟨vg, M, rfl, hrg, hbc⟩ := h3
    obtain ⟨ga, gn, gc, rfl⟩ : ∃ a n c, vg = .slice a n c := by obtain ⟨a, c, h, _⟩ := hrg.fs.row; exact ⟨_, _, _, h⟩
    obtain ⟨w5, hw5⟩ : ∃ w5, wc.alloc (cfO c.va c.na c.atr c.po (.slice ga gn gc)) = w5 := ⟨_, rfl⟩
    have hb5 : Below wc.heap.size wc w5 := by rw [← hw5]; exact balloc _ _
    have hX5 : w5.heap[wc.heap.size]? = some (cfO c.va c.na c.atr c.po (.slice ga gn gc)) := by rw [← hw5]; exact (MapKept.heap_alloc wc _).1
    obtain ⟨⟨hz1, q0, q1, q2, q3, q4⟩, _⟩ := box5f hX5
    obtain ⟨⟨hz2, s0, s1, s2, s3, s4⟩, _⟩ := box5f (res_below (res_below HX4.out hbc) hb5)
    have HB5 : Hid (Below w.heap.size w w5) := bsq HB4.out (bsq hbc hb5)
    have HSC : Hid (Calls Try.prog 20 #[cfV c (.slice fa fn fc), cfV c (.slice ga gn gc)] w5 fun e w' => e = .returned (.bool true) ∧ Below w5.heap.size w5 w') := sameConfig_same c _ _ L M w5 ((HR4.out.below hbc).below hb5) (hrg.below hb5)
    obtain ⟨va, na, atr, po, fs⟩ := c
    simp only at *
    clear h2 hbc hb5 hX5 hrg
    go_wp2_with fail
    refine HSC.out.mono ?_
    rintro e wi ⟨rfl, hbi⟩
    have HBi : Hid (Below w.heap.size w wi) := bsq HB5.out hbi
    clear hbi
    go_wp2
    go_ret
    exact ⟨rfl, HBi.out⟩
end Go.Proofs.Ytilfenijbbhfjaa.descReads
