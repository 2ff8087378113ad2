/- UtfWide: the walk. -/
import Derived.Test.YtfonnejaffhncaaUtfW
namespace Go.Proofs.Ytfonnejaffhncaa.utfWide
open Go.RowKit Go.PlainAid Go.Lib Go.Proofs.Ytfonnejaffhncaa.lane Go.Proofs.Ytfonnejaffhncaa.utf
set_option linter.unusedVariables false

set_option maxHeartbeats 1000000 in
theorem walk (a0 : ByteArray) (w0 : a0.size ≤ maxLen) (hs0 : a0.size ≤ 1048576) (w : World) :
    Calls Try.prog 3 #[.string a0] w fun e w' => e = .returned (.bool true) ∧ Below w.heap.size w w' := by
  have H1 : Hid (∀ w, Calls Try.prog 7 #[.string a0] w fun e w' => e = .returned (.tuple #[.string (wtxt a0), .int .i64 (werr a0)]) ∧ Below w.heap.size w w') := fun w => wide_any a0 w
  have H2 : Hid (∀ w, Calls Try.prog 8 #[.string a0] w fun e w' => e = .returned (.tuple #[.string (wtxt a0), .int .i64 (werr a0)]) ∧ Below w.heap.size w w') := fun w => rwide_any a0 w (by omega)
  generalize wtxt a0 = x at *
  generalize werr a0 = z at *
  go_enter Try.func3, Try.ntmps3
  go_wp2_with fail
  refine (H1.out _).mono ?_
  rintro e u ⟨rfl, hb⟩
  go_wp2_with fail
  refine (H2.out _).mono ?_
  rintro e u1 ⟨rfl, hb2⟩
  replace hb := bsq hb hb2
  clear hb2
  go_wp2
  go_ret
  exact ⟨rfl, hb⟩
end Go.Proofs.Ytfonnejaffhncaa.utfWide
