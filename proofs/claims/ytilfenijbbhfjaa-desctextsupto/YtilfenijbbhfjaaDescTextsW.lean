/- DescTexts: the walk. -/
import Derived.Test.YtilfenijbbhfjaaDescU
namespace Go.Proofs.Ytilfenijbbhfjaa.descTexts
open Go.RowKit Go.PlainAid Go.Proofs.Ytilfenijbbhfjaa.lane Go.Proofs.Ytilfenijbbhfjaa.utf Go.Proofs.Ytilfenijbbhfjaa.desc
set_option linter.unusedVariables false

set_option maxHeartbeats 2000000 in
theorem walk (a0 a1 : ByteArray) (w0 : a0.size ≤ maxLen) (w1 : a1.size ≤ maxLen) (hs0 : a0.size ≤ 1048576) (hs1 : a1.size ≤ 1048576) (w : World) :
    Calls Try.prog 7 #[.string a0, .string a1] w fun e w' => e = .returned (.bool true) ∧ Below w.heap.size w w' := by
  have H1 : Hid (∀ w : World, Calls Try.prog 21 #[.string a0] w fun e w' => e = .returned (.tuple #[.string (dtxt a0), .int .i64 (werr a0)]) ∧ Below w.heap.size w w') := fun w => writeText_any a0 w
  have H2 : Hid (∀ w : World, Calls Try.prog 22 #[.string a0] w fun e w' => e = .returned (.tuple #[.string (dtxt a0), .int .i64 (werr a0)]) ∧ Below w.heap.size w w') := fun w => rtextText_any a0 w (by omega)
  have H3 : Hid (∀ w : World, Calls Try.prog 23 #[.string a1] w fun e w' => e = .returned (.tuple #[.string (rdT a1), .int .i64 (rdC a1)]) ∧ Below w.heap.size w w') := fun w => readText_any a1 w w1
  have H4 : Hid (∀ w : World, Calls Try.prog 24 #[.string a1] w fun e w' => e = .returned (.tuple #[.string (rdT a1), .int .i64 (rdC a1)]) ∧ Below w.heap.size w w') := fun w => rreadText_any a1 w w1
  generalize dtxt a0 = x at *
  generalize werr a0 = z at *
  generalize rdT a1 = y at *
  generalize rdC a1 = u at *
  clear w0 w1
  go_enter Try.func7, Try.ntmps7
  go_wp2_with fail
  refine (H1.out _).mono ?_
  rintro e wa ⟨rfl, ha⟩
  go_wp2_with fail
  refine (H2.out _).mono ?_
  rintro e wb ⟨rfl, hb⟩
  go_wp2_with fail
  refine (H3.out _).mono ?_
  rintro e wc ⟨rfl, hc⟩
  go_wp2_with fail
  refine (H4.out _).mono ?_
  rintro e wd ⟨rfl, hd⟩
  go_wp2
  go_ret
  exact ⟨rfl, desc.bsq ha (desc.bsq hb (desc.bsq hc hd))⟩
end Go.Proofs.Ytilfenijbbhfjaa.descTexts
