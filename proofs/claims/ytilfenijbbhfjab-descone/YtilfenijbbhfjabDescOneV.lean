/- DescOne: the walk, once configOf answers as it should. -/
import Derived.Test.YtilfenijbbhfjabDescZ
import Derived.Test.YtilfenijbbhfjabDescGa
namespace Go.Proofs.Ytilfenijbbhfjab.descOne
open Go.RowKit Go.PlainAid Go.Proofs.Ytilfenijbbhfjab.lane Go.Proofs.Ytilfenijbbhfjab.desc
set_option linter.unusedVariables false
set_option linter.unusedSimpArgs false

set_option maxHeartbeats 1000000 in
theorem eqFunc_nil (f : Value) (w : World) : Calls Try.prog 28 #[.slice none 0 0, .slice none 0 0, f] w fun e w' => e = .returned (.bool true) ∧ w = w' := by
  go_enter Try.func28, Try.ntmps28
  go_wp2
  go_loopw [17] (fun i wr => i = .int .i64 0 ∧ wr = w) (fun i _ => 0)
  case atStart => exact ⟨rfl, rfl⟩
  case round =>
    obtain ⟨rfl, rfl⟩ := hrel
    go_wp2
    go_ret
    exact ⟨rfl, rfl⟩
set_option maxHeartbeats 1000000 in
theorem sameConfig_zero (w : World) : Calls Try.prog 14 #[cfV noC (.slice none 0 0), cfV noC (.slice none 0 0)] w fun e w' => e = .returned (.bool true) ∧ Below w.heap.size w w' := by
  have HE : Hid (∀ (f : Value) (w : World), Calls Try.prog 28 #[.slice none 0 0, .slice none 0 0, f] w fun e w' => e = .returned (.bool true) ∧ w = w') := eqFunc_nil
  obtain ⟨wa, hwa⟩ : ∃ wa, w.alloc (cfO 0 0 0 0 (.slice none 0 0)) = wa := ⟨_, rfl⟩
  obtain ⟨wb, hwb⟩ : ∃ wb, wa.alloc (cfO 0 0 0 0 (.slice none 0 0)) = wb := ⟨_, rfl⟩
  have hba : Below w.heap.size w wa := by rw [← hwa]; exact balloc _ _
  have hbb : Below wa.heap.size wa wb := by rw [← hwb]; exact balloc _ _
  have HB : Hid (Below w.heap.size w wb) := bsq hba hbb
  have hA : wb.heap[w.heap.size]? = some (cfO 0 0 0 0 (.slice none 0 0)) := res_below (by rw [← hwa]; exact (MapKept.heap_alloc w _).1) hbb
  have hB : wb.heap[wa.heap.size]? = some (cfO 0 0 0 0 (.slice none 0 0)) := by rw [← hwb]; exact (MapKept.heap_alloc wa _).1
  obtain ⟨⟨_, x0, x1, x2, x3, x4⟩, _⟩ := box5f hA
  obtain ⟨⟨_, y0, y1, y2, y3, y4⟩, _⟩ := box5f hB
  clear hba hbb hA hB
  simp only [noC]
  go_enter Try.func14, Try.ntmps14
  go_wp2_with fail
  refine (HE.out _ _).mono ?_
  rintro e w2 ⟨rfl, rfl⟩
  go_wp2
  go_ret
  exact ⟨rfl, HB.out⟩
/-- what follows the device -/
def CodeOk (s : ByteArray) : Prop := rdE s = 0 → wdT (rdD s) = s ∧ wdC (rdD s) = 0
theorem codeOk (s : ByteArray) : CodeOk s := by
  unfold CodeOk rdE rdD
  intro h
  by_cases h1 : s.size < 18
  · rw [if_pos h1] at h; omega
  · rw [if_neg h1] at h ⊢
    by_cases h2 : isDev s = true
    · rw [if_pos h2]
      have h3 := h2
      unfold isDev at h3
      simp only [Bool.and_eq_true, decide_eq_true_eq] at h3
      unfold wdT wdC
      rw [if_pos h3.1, if_pos h3.1]
      exact ⟨h3.2, rfl⟩
    · rw [if_neg h2] at h; omega
set_option maxRecDepth 100000 in
set_option maxHeartbeats 4000000 in
theorem walk_of (hco : CoAll) (a0 : ByteArray) (a1 : ByteArray) (w0 : a0.size ≤ maxLen) (w1 : a1.size ≤ maxLen) (w : World) :
    Calls Try.prog 4 #[.string a0, .string a1] w fun e w' => e = .returned (.bool true) ∧ Below w.heap.size w w' := by
  have HL : Hid (∀ w : World, Calls Try.prog 12 #[] w fun e w' => e = .returned (.bool true) ∧ Below w.heap.size w w') := descLives_any
  have HZ : Hid (∀ w : World, Calls Try.prog 14 #[.agg #[.int .i64 0, .int .i64 0, .int .i64 0, .int .i64 0, .slice none 0 0], .agg #[.int .i64 0, .int .i64 0, .int .i64 0, .int .i64 0, .slice none 0 0]] w fun e w' => e = .returned (.bool true) ∧ Below w.heap.size w w') := sameConfig_zero
  have HD : Hid (∀ w : World, Calls Try.prog 10 #[.string a0] w fun e w' => e = .returned (.tuple #[dvV (rdD a0), .int .i64 (rdE a0)]) ∧ Below w.heap.size w w') := fun w => readDevice_any a0 w w0
  have HWD : Hid (∀ w : World, Calls Try.prog 9 #[dvV (rdD a0)] w fun e w' => e = .returned (.tuple #[.string (wdT (rdD a0)), .int .i64 (wdC (rdD a0))]) ∧ Below w.heap.size w w') := fun w => writeDevice_any _ w
  have HR : Hid (∀ w : World, Calls Try.prog 13 #[.string a1] w (RcP a1 w)) := fun w => readConfig_of hco a1 w w1
  have hck := codeOk a0
  unfold CodeOk at hck
  generalize rdD a0 = d at *
  generalize rdE a0 = z at *
  obtain ⟨d0, d1, d2, d3, d4, d5, d6, d7, d8, d9, d10, d11⟩ := d
  by_cases hz : z = 0
  · obtain ⟨k1, k2⟩ := hck hz
    subst hz
    rw [k1, k2] at HWD
    clear hck k1 k2 w0 w1
    go_enter Try.func4, Try.ntmps4
    go_wp2_with fail
    refine (HD.out _).mono ?_
    rintro e wa ⟨rfl, hba⟩
    have HBa : Hid (Below w.heap.size w wa) := hba
    clear hba
    go_wp2_with fail
    refine (HWD.out _).mono ?_
    rintro e wb ⟨rfl, hbb⟩
    have HBb : Hid (Below w.heap.size w wb) := bsq (bsq HBa.out (balloc _ _)) hbb
    clear hbb
    go_wp2_with fail
    refine (HR.out _).mono ?_
    rintro e wc hres
    rcases hres with ⟨h1, rfl, hb⟩ | ⟨h1, h2, rfl, hb⟩ | ⟨c, vf, L, X, h1, h2, rfl, hI, hLc⟩
    · have hzn : (splC (nums a1) != 0) = true := by simpa using h1
      generalize splC (nums a1) = z1 at *
      clear h1
      have HBc : Hid (Below w.heap.size w wc) := bsq HBb.out hb
      obtain ⟨w4, hw4⟩ : ∃ w4, wc.alloc (cfO 0 0 0 0 (.slice none 0 0)) = w4 := ⟨_, rfl⟩
      have hb4 : Below wc.heap.size wc w4 := by rw [← hw4]; exact balloc _ _
      have hX4 : w4.heap[wc.heap.size]? = some (cfO 0 0 0 0 (.slice none 0 0)) := by rw [← hw4]; exact (MapKept.heap_alloc wc _).1
      obtain ⟨⟨hzX, x0, x1, x2, x3, x4⟩, y0, y1, y2, y3, y4⟩ := box5f hX4
      obtain ⟨wg, hwg, hXg, hBg, _⟩ := ch5 w4 wc.heap.size _ _ _ _ _ 0 0 0 0 (.slice none 0 0) hX4
      have HBg : Hid (Below w.heap.size w wg) := bsq HBc.out (hBg wc (Nat.le_refl _) hb4)
      have HXg : Hid (wg.heap[wc.heap.size]? = some (cfO 0 0 0 0 (.slice none 0 0))) := hXg
      simp only [noC]
      clear hb hb4 hX4 hXg hBg
      go_wp2_with fail
      refine (HL.out _).mono ?_
      rintro e wd ⟨rfl, hbd⟩
      have HBd : Hid (Below w.heap.size w wd) := bsq HBg.out hbd
      obtain ⟨⟨hzY, q0, q1, q2, q3, q4⟩, _⟩ := box5f (res_below HXg.out hbd)
      clear hbd x0 x1 x2 x3 x4 y0 y1 y2 y3 y4
      go_wp2_with fail
      refine (HZ.out _).mono ?_
      rintro e we ⟨rfl, hbe⟩
      have HBe : Hid (Below w.heap.size w we) := bsq HBd.out hbe
      clear hbe
      go_wp2
      go_ret
      exact ⟨rfl, HBe.out⟩
    · clear h1 h2
      have HBc : Hid (Below w.heap.size w wc) := bsq HBb.out hb
      obtain ⟨w4, hw4⟩ : ∃ w4, wc.alloc (cfO 0 0 0 0 (.slice none 0 0)) = w4 := ⟨_, rfl⟩
      have hb4 : Below wc.heap.size wc w4 := by rw [← hw4]; exact balloc _ _
      have hX4 : w4.heap[wc.heap.size]? = some (cfO 0 0 0 0 (.slice none 0 0)) := by rw [← hw4]; exact (MapKept.heap_alloc wc _).1
      obtain ⟨⟨hzX, x0, x1, x2, x3, x4⟩, y0, y1, y2, y3, y4⟩ := box5f hX4
      obtain ⟨wg, hwg, hXg, hBg, _⟩ := ch5 w4 wc.heap.size _ _ _ _ _ 0 0 0 0 (.slice none 0 0) hX4
      have HBg : Hid (Below w.heap.size w wg) := bsq HBc.out (hBg wc (Nat.le_refl _) hb4)
      have HXg : Hid (wg.heap[wc.heap.size]? = some (cfO 0 0 0 0 (.slice none 0 0))) := hXg
      simp only [noC]
      clear hb hb4 hX4 hXg hBg
      go_wp2_with fail
      refine (HL.out _).mono ?_
      rintro e wd ⟨rfl, hbd⟩
      have HBd : Hid (Below w.heap.size w wd) := bsq HBg.out hbd
      obtain ⟨⟨hzY, q0, q1, q2, q3, q4⟩, _⟩ := box5f (res_below HXg.out hbd)
      clear hbd x0 x1 x2 x3 x4 y0 y1 y2 y3 y4
      go_wp2_with fail
      refine (HZ.out _).mono ?_
      rintro e we ⟨rfl, hbe⟩
      have HBe : Hid (Below w.heap.size w we) := bsq HBd.out hbe
      clear hbe
      go_wp2
      go_ret
      exact ⟨rfl, HBe.out⟩
    · obtain ⟨va, na, atr, po, fs⟩ := c
      simp only at hI hLc
      subst hLc
      obtain ⟨fa, fc, rfl, _, _⟩ := own_form hI.row
      have HBc : Hid (Below w.heap.size w wc) := bsq HBb.out hI.bel
      obtain ⟨w4, hw4⟩ : ∃ w4, wc.alloc (cfO va na atr po (.slice fa L.length fc)) = w4 := ⟨_, rfl⟩
      have hb4 : Below wc.heap.size wc w4 := by rw [← hw4]; exact balloc _ _
      have hX4 : w4.heap[wc.heap.size]? = some (cfO va na atr po (.slice fa L.length fc)) := by rw [← hw4]; exact (MapKept.heap_alloc wc _).1
      obtain ⟨⟨hzX, x0, x1, x2, x3, x4⟩, _⟩ := box5f hX4
      have HB4 : Hid (Below w.heap.size w w4) := bsq HBc.out hb4
      have HW : Hid (Calls Try.prog 11 #[cfV ⟨va, na, atr, po, L.map Prod.fst⟩ (.slice fa L.length fc)] w4 fun e w' => e = .returned (.tuple #[.string (wcT ⟨va, na, atr, po, L.map Prod.fst⟩), .int .i64 (chkC ⟨va, na, atr, po, L.map Prod.fst⟩)]) ∧ Below w4.heap.size w4 w') := writeConfig_any _ _ L w4 (hI.below hb4).rc
      rw [show wcT ⟨va, na, atr, po, L.map Prod.fst⟩ = a1 by unfold wcT; rw [if_pos h2.1, h2.2, str_nums], h2.1] at HW
      obtain ⟨m, hm⟩ : ∃ m, L.length = m := ⟨_, rfl⟩
      rw [hm] at HW x4 hw4
      rw [hm]
      clear hI hb4 hX4 h1 h2 hm
      go_wp2_with fail
      refine HW.out.mono ?_
      rintro e wd ⟨rfl, hbd⟩
      have HBd : Hid (Below w.heap.size w wd) := bsq HB4.out hbd
      clear hbd x0 x1 x2 x3 x4
      go_wp2_with fail
      refine (HL.out _).mono ?_
      rintro e we ⟨rfl, hbe⟩
      have HBe : Hid (Below w.heap.size w we) := bsq HBd.out hbe
      clear hbe
      go_wp2
      go_ret
      exact ⟨rfl, HBe.out⟩
  · have hzn0 : (z == 0) = false := by simpa using hz
    clear hck w0 w1 hz HWD
    go_enter Try.func4, Try.ntmps4
    go_wp2_with fail
    refine (HD.out _).mono ?_
    rintro e wa ⟨rfl, hba⟩
    have HBa : Hid (Below w.heap.size w wa) := hba
    clear hba
    go_wp2_with fail
    refine (HR.out _).mono ?_
    rintro e wc hres
    rcases hres with ⟨h1, rfl, hb⟩ | ⟨h1, h2, rfl, hb⟩ | ⟨c, vf, L, X, h1, h2, rfl, hI, hLc⟩
    · have hzn : (splC (nums a1) != 0) = true := by simpa using h1
      generalize splC (nums a1) = z1 at *
      clear h1
      have HBc : Hid (Below w.heap.size w wc) := bsq (bsq HBa.out (balloc _ _)) hb
      obtain ⟨w4, hw4⟩ : ∃ w4, wc.alloc (cfO 0 0 0 0 (.slice none 0 0)) = w4 := ⟨_, rfl⟩
      have hb4 : Below wc.heap.size wc w4 := by rw [← hw4]; exact balloc _ _
      have hX4 : w4.heap[wc.heap.size]? = some (cfO 0 0 0 0 (.slice none 0 0)) := by rw [← hw4]; exact (MapKept.heap_alloc wc _).1
      obtain ⟨⟨hzX, x0, x1, x2, x3, x4⟩, y0, y1, y2, y3, y4⟩ := box5f hX4
      obtain ⟨wg, hwg, hXg, hBg, _⟩ := ch5 w4 wc.heap.size _ _ _ _ _ 0 0 0 0 (.slice none 0 0) hX4
      have HBg : Hid (Below w.heap.size w wg) := bsq HBc.out (hBg wc (Nat.le_refl _) hb4)
      have HXg : Hid (wg.heap[wc.heap.size]? = some (cfO 0 0 0 0 (.slice none 0 0))) := hXg
      simp only [noC]
      clear hb hb4 hX4 hXg hBg
      go_wp2_with fail
      refine (HL.out _).mono ?_
      rintro e wd ⟨rfl, hbd⟩
      have HBd : Hid (Below w.heap.size w wd) := bsq HBg.out hbd
      obtain ⟨⟨hzY, q0, q1, q2, q3, q4⟩, _⟩ := box5f (res_below HXg.out hbd)
      clear hbd x0 x1 x2 x3 x4 y0 y1 y2 y3 y4
      go_wp2_with fail
      refine (HZ.out _).mono ?_
      rintro e we ⟨rfl, hbe⟩
      have HBe : Hid (Below w.heap.size w we) := bsq HBd.out hbe
      clear hbe
      go_wp2
      go_ret
      exact ⟨rfl, HBe.out⟩
    · clear h1 h2
      have HBc : Hid (Below w.heap.size w wc) := bsq (bsq HBa.out (balloc _ _)) hb
      obtain ⟨w4, hw4⟩ : ∃ w4, wc.alloc (cfO 0 0 0 0 (.slice none 0 0)) = w4 := ⟨_, rfl⟩
      have hb4 : Below wc.heap.size wc w4 := by rw [← hw4]; exact balloc _ _
      have hX4 : w4.heap[wc.heap.size]? = some (cfO 0 0 0 0 (.slice none 0 0)) := by rw [← hw4]; exact (MapKept.heap_alloc wc _).1
      obtain ⟨⟨hzX, x0, x1, x2, x3, x4⟩, y0, y1, y2, y3, y4⟩ := box5f hX4
      obtain ⟨wg, hwg, hXg, hBg, _⟩ := ch5 w4 wc.heap.size _ _ _ _ _ 0 0 0 0 (.slice none 0 0) hX4
      have HBg : Hid (Below w.heap.size w wg) := bsq HBc.out (hBg wc (Nat.le_refl _) hb4)
      have HXg : Hid (wg.heap[wc.heap.size]? = some (cfO 0 0 0 0 (.slice none 0 0))) := hXg
      simp only [noC]
      clear hb hb4 hX4 hXg hBg
      go_wp2_with fail
      refine (HL.out _).mono ?_
      rintro e wd ⟨rfl, hbd⟩
      have HBd : Hid (Below w.heap.size w wd) := bsq HBg.out hbd
      obtain ⟨⟨hzY, q0, q1, q2, q3, q4⟩, _⟩ := box5f (res_below HXg.out hbd)
      clear hbd x0 x1 x2 x3 x4 y0 y1 y2 y3 y4
      go_wp2_with fail
      refine (HZ.out _).mono ?_
      rintro e we ⟨rfl, hbe⟩
      have HBe : Hid (Below w.heap.size w we) := bsq HBd.out hbe
      clear hbe
      go_wp2
      go_ret
      exact ⟨rfl, HBe.out⟩
    · obtain ⟨va, na, atr, po, fs⟩ := c
      simp only at hI hLc
      subst hLc
      obtain ⟨fa, fc, rfl, _, _⟩ := own_form hI.row
      have HBc : Hid (Below w.heap.size w wc) := bsq (bsq HBa.out (balloc _ _)) hI.bel
      obtain ⟨w4, hw4⟩ : ∃ w4, wc.alloc (cfO va na atr po (.slice fa L.length fc)) = w4 := ⟨_, rfl⟩
      have hb4 : Below wc.heap.size wc w4 := by rw [← hw4]; exact balloc _ _
      have hX4 : w4.heap[wc.heap.size]? = some (cfO va na atr po (.slice fa L.length fc)) := by rw [← hw4]; exact (MapKept.heap_alloc wc _).1
      obtain ⟨⟨hzX, x0, x1, x2, x3, x4⟩, _⟩ := box5f hX4
      have HB4 : Hid (Below w.heap.size w w4) := bsq HBc.out hb4
      have HW : Hid (Calls Try.prog 11 #[cfV ⟨va, na, atr, po, L.map Prod.fst⟩ (.slice fa L.length fc)] w4 fun e w' => e = .returned (.tuple #[.string (wcT ⟨va, na, atr, po, L.map Prod.fst⟩), .int .i64 (chkC ⟨va, na, atr, po, L.map Prod.fst⟩)]) ∧ Below w4.heap.size w4 w') := writeConfig_any _ _ L w4 (hI.below hb4).rc
      rw [show wcT ⟨va, na, atr, po, L.map Prod.fst⟩ = a1 by unfold wcT; rw [if_pos h2.1, h2.2, str_nums], h2.1] at HW
      obtain ⟨m, hm⟩ : ∃ m, L.length = m := ⟨_, rfl⟩
      rw [hm] at HW x4 hw4
      rw [hm]
      clear hI hb4 hX4 h1 h2 hm
      go_wp2_with fail
      refine HW.out.mono ?_
      rintro e wd ⟨rfl, hbd⟩
      have HBd : Hid (Below w.heap.size w wd) := bsq HB4.out hbd
      clear hbd x0 x1 x2 x3 x4
      go_wp2_with fail
      refine (HL.out _).mono ?_
      rintro e we ⟨rfl, hbe⟩
      have HBe : Hid (Below w.heap.size w we) := bsq HBd.out hbe
      clear hbe
      go_wp2
      go_ret
      exact ⟨rfl, HBe.out⟩
end Go.Proofs.Ytilfenijbbhfjab.descOne
