/- UtfNarrow: the walk. -/
import Derived.Test.YtfonnejaffhncaaUtfS
namespace Go.Proofs.Ytfonnejaffhncaa.utfNarrow
open Go.RowKit Go.PlainAid Go.Lib Go.Proofs.Ytfonnejaffhncaa.lane Go.Proofs.Ytfonnejaffhncaa.utf
set_option linter.unusedVariables false

set_option maxHeartbeats 1000000 in
theorem walk (a0 : ByteArray) (w0 : a0.size ≤ maxLen) (w : World) :
    Calls Try.prog 4 #[.string a0] w fun e w' => e = .returned (.bool true) ∧ Below w.heap.size w w' := by
  have H1 : Hid (∀ w, Calls Try.prog 9 #[.string a0] w fun e w' => e = .returned (.tuple #[.string (ntxt a0), .int .i64 (nerr a0)]) ∧ Below w.heap.size w w') := fun w => narrow_any a0 w w0
  have H2 : Hid (∀ w, Calls Try.prog 10 #[.string a0] w fun e w' => e = .returned (.tuple #[.string (ntxt a0), .int .i64 (nerr a0)]) ∧ Below w.heap.size w w') := fun w => rnarrow_any a0 w w0
  generalize ntxt a0 = x at *
  generalize nerr a0 = z at *
  go_enter Try.func4, Try.ntmps4
  go_wp2_with fail
  refine (H1.out _).mono ?_
  rintro e u ⟨rfl, hb⟩
  go_wp2_with fail
  refine (H2.out _).mono ?_
  rintro e u1 ⟨rfl, hb2⟩
  replace hb := bsq hb hb2
  clear hb2
  go_wp2
  go_ret
  exact ⟨rfl, hb⟩
end Go.Proofs.Ytfonnejaffhncaa.utfNarrow
