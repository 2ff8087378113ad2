/- DescWrites: the walk. -/
import Derived.Test.YtilfenijbbhfjaaDescWc
namespace Go.Proofs.Ytilfenijbbhfjaa.descWrites
open Go.RowKit Go.PlainAid Go.Proofs.Ytilfenijbbhfjaa.lane Go.Proofs.Ytilfenijbbhfjaa.desc
set_option linter.unusedVariables false
set_option linter.unusedSimpArgs false
set_option maxRecDepth 100000

set_option maxHeartbeats 2000000 in
theorem walk (a0 : Cf) (c0 : Value) (L0 : FL) (w : World) (hc0 : Rc w c0 a0 L0) :
    Calls Try.prog 5 #[cfV a0 c0] w fun e w' => e = .returned (.bool true) ∧ Below w.heap.size w w' := by
  have HW : Hid (∀ u, Below w.heap.size w u → Calls Try.prog 16 #[cfV a0 c0] u fun e w' => e = .returned (.tuple #[.string (wcT a0), .int .i64 (chkC a0)]) ∧ Below u.heap.size u w') := fun u hu => writeConfig_any a0 c0 L0 u (hc0.below hu)
  have HT : Hid (∀ u, Below w.heap.size w u → Calls Try.prog 17 #[cfV a0 c0] u fun e w' => e = .returned (.tuple #[.string (wcT a0), .int .i64 (chkC a0)]) ∧ Below u.heap.size u w') := fun u hu => configText_any a0 c0 L0 u (hc0.below hu)
  obtain ⟨fa, fn, fc, rfl⟩ : ∃ a n c, c0 = .slice a n c := by obtain ⟨a, c, h, _⟩ := hc0.fs.row; exact ⟨_, _, _, h⟩
  obtain ⟨w0, hw0⟩ : ∃ w0, w.alloc (cfO a0.va a0.na a0.atr a0.po (.slice fa fn fc)) = w0 := ⟨_, rfl⟩
  have hb0 : Below w.heap.size w w0 := by rw [← hw0]; exact balloc _ _
  have hC0 : w0.heap[w.heap.size]? = some (cfO a0.va a0.na a0.atr a0.po (.slice fa fn fc)) := by rw [← hw0]; exact (MapKept.heap_alloc w _).1
  have HX : Hid (∀ u, Below w0.heap.size w0 u → u.cell? ⟨w.heap.size, 0, none⟩ = some (.int .i64 a0.va) ∧ u.cell? ⟨w.heap.size, 1, none⟩ = some (.int .i64 a0.na) ∧ u.cell? ⟨w.heap.size, 2, none⟩ = some (.int .i64 a0.atr) ∧ u.cell? ⟨w.heap.size, 3, none⟩ = some (.int .i64 a0.po) ∧ u.cell? ⟨w.heap.size, 4, none⟩ = some (.slice fa fn fc)) := fun u hu => (box5f (res_below hC0 hu)).1.2
  have HB0 : Hid (Below w.heap.size w w0) := hb0
  obtain ⟨x0, x1, x2, x3, x4⟩ := HX.out w0 (Below.refl _ _)
  generalize wcT a0 = T at *
  generalize chkC a0 = z at *
  obtain ⟨va, na, atr, po, fs⟩ := a0
  simp only at *
  clear hb0 hC0 hc0
  go_enter Try.func5, Try.ntmps5
  go_wp2_with fail
  refine (HW.out w0 HB0.out).mono ?_
  rintro e wa ⟨rfl, hba⟩
  have HBa : Hid (Below w0.heap.size w0 wa) := hba
  clear hba x0 x1 x2 x3 x4
  obtain ⟨x0, x1, x2, x3, x4⟩ := HX.out wa HBa.out
  go_wp2_with fail
  refine (HT.out wa (bsq HB0.out HBa.out)).mono ?_
  rintro e wb ⟨rfl, hbb⟩
  have HBb : Hid (Below w.heap.size w wb) := bsq HB0.out (bsq HBa.out hbb)
  clear hbb x0 x1 x2 x3 x4
  go_wp2
  go_ret
  exact ⟨rfl, HBb.out⟩
end Go.Proofs.Ytilfenijbbhfjaa.descWrites
