/- DescDevices: the walk. -/
import Derived.Test.YtilfenijbbhfjaaDescDz
import Derived.Test.YtilfenijbbhfjaaDescDb
namespace Go.Proofs.Ytilfenijbbhfjaa.descDevices
open Go.RowKit Go.PlainAid Go.Proofs.Ytilfenijbbhfjaa.lane Go.Proofs.Ytilfenijbbhfjaa.desc
set_option linter.unusedVariables false
set_option linter.unusedSimpArgs false
set_option maxRecDepth 100000

set_option maxHeartbeats 4000000 in
theorem walk (a0 : Dv) (a1 : ByteArray) (w1 : a1.size ≤ maxLen) (w : World) :
    Calls Try.prog 4 #[dvV a0, .string a1] w fun e w' => e = .returned (.bool true) ∧ Below w.heap.size w w' := by
  have H1 : Hid (∀ u : World, Calls Try.prog 12 #[dvV a0] u fun e w' => e = .returned (.tuple #[.string (wdT a0), .int .i64 (wdC a0)]) ∧ Below u.heap.size u w') := fun u => writeDevice_any _ u
  have H2 : Hid (∀ u : World, Calls Try.prog 13 #[dvV a0] u fun e w' => e = .returned (.tuple #[.string (wdT a0), .int .i64 (wdC a0)]) ∧ Below u.heap.size u w') := fun u => deviceText_any _ u
  have H3 : Hid (∀ u : World, Calls Try.prog 14 #[.string a1] u fun e w' => e = .returned (.tuple #[dvV (rdD a1), .int .i64 (rdE a1)]) ∧ Below u.heap.size u w') := fun u => readDevice_any a1 u w1
  have H4 : Hid (∀ u : World, Calls Try.prog 15 #[.string a1] u fun e w' => e = .returned (.tuple #[dvV (rdD a1), .int .i64 (rdE a1)]) ∧ Below u.heap.size u w') := fun u => rreadDevice_any a1 u w1
  obtain ⟨wa, hwa⟩ : ∃ wa, w.alloc (dvO a0) = wa := ⟨_, rfl⟩
  have hba : Below w.heap.size w wa := by rw [← hwa]; exact balloc _ _
  have hA : wa.heap[w.heap.size]? = some (dvO a0) := by rw [← hwa]; exact (MapKept.heap_alloc w _).1
  have HB : Hid (Below w.heap.size w wa) := hba
  have HX : Hid (∀ u, Below wa.heap.size wa u → DvC u w.heap.size a0) := fun u hu => (box12 (res_below hA hu)).1
  generalize wdT a0 = T at *
  generalize wdC a0 = z at *
  generalize rdD a1 = d at *
  generalize rdE a1 = y at *
  obtain ⟨d0, d1, d2, d3, d4, d5, d6, d7, d8, d9, d10, d11⟩ := a0
  obtain ⟨e0, e1, e2, e3, e4, e5, e6, e7, e8, e9, e10, e11⟩ := d
  obtain ⟨hzD, q0, q1, q2, q3, q4, q5, q6, q7, q8, q9, q10, q11⟩ := HX.out wa (Below.refl _ _)
  simp only at *
  clear hba hA w1
  go_enter Try.func4, Try.ntmps4
  go_wp2_with fail
  refine (H1.out _).mono ?_
  rintro e wb ⟨rfl, hbb⟩
  have HBb : Hid (Below wa.heap.size wa wb) := hbb
  clear hbb q0 q1 q2 q3 q4 q5 q6 q7 q8 q9 q10 q11 hzD
  obtain ⟨hzD, q0, q1, q2, q3, q4, q5, q6, q7, q8, q9, q10, q11⟩ := HX.out wb HBb.out
  simp only at q0 q1 q2 q3 q4 q5 q6 q7 q8 q9 q10 q11
  go_wp2_with fail
  refine (H2.out _).mono ?_
  rintro e wc ⟨rfl, hbc⟩
  have HBc : Hid (Below w.heap.size w wc) := bsq HB.out (bsq HBb.out hbc)
  clear hbc q0 q1 q2 q3 q4 q5 q6 q7 q8 q9 q10 q11 hzD
  go_wp2_with fail
  refine (H3.out _).mono ?_
  rintro e wd ⟨rfl, hbd⟩
  obtain ⟨we, hwe⟩ : ∃ we, wd.alloc (dvO ⟨e0, e1, e2, e3, e4, e5, e6, e7, e8, e9, e10, e11⟩) = we := ⟨_, rfl⟩
  have hbe : Below wd.heap.size wd we := by rw [← hwe]; exact balloc _ _
  have HBe : Hid (Below w.heap.size w we) := bsq HBc.out (bsq hbd hbe)
  have HE : Hid (we.heap[wd.heap.size]? = some (dvO ⟨e0, e1, e2, e3, e4, e5, e6, e7, e8, e9, e10, e11⟩)) := by rw [← hwe]; exact (MapKept.heap_alloc wd _).1
  clear hbd hbe
  go_wp2_with fail
  refine (H4.out _).mono ?_
  rintro e wf ⟨rfl, hbf⟩
  obtain ⟨wg, hwg⟩ : ∃ wg, wf.alloc (dvO ⟨e0, e1, e2, e3, e4, e5, e6, e7, e8, e9, e10, e11⟩) = wg := ⟨_, rfl⟩
  have hbg : Below wf.heap.size wf wg := by rw [← hwg]; exact balloc _ _
  have HBg : Hid (Below w.heap.size w wg) := bsq HBe.out (bsq hbf hbg)
  obtain ⟨hzp, p0, p1, p2, p3, p4, p5, p6, p7, p8, p9, p10, p11⟩ := (box12 (d := ⟨e0, e1, e2, e3, e4, e5, e6, e7, e8, e9, e10, e11⟩) (res_below (res_below HE.out hbf) hbg)).1
  obtain ⟨hzr, r0, r1, r2, r3, r4, r5, r6, r7, r8, r9, r10, r11⟩ := (box12 (u := wg) (X := wf.heap.size) (T := 29) (d := ⟨e0, e1, e2, e3, e4, e5, e6, e7, e8, e9, e10, e11⟩) (by rw [← hwg]; exact (MapKept.heap_alloc wf _).1)).1
  simp only at p0 p1 p2 p3 p4 p5 p6 p7 p8 p9 p10 p11 r0 r1 r2 r3 r4 r5 r6 r7 r8 r9 r10 r11
  clear hbf hbg
  go_wp2
  go_ret
  exact ⟨rfl, HBg.out⟩
end Go.Proofs.Ytilfenijbbhfjaa.descDevices
