/- plugref's devices: what ReadDevice answers of any text. -/
import Derived.Test.YtilfenijbbhfjaaDescDc
import Derived.Test.YtilfenijbbhfjaaDescDn
import Derived.Test.YtilfenijbbhfjaaDescDy
namespace Go.Proofs.Ytilfenijbbhfjaa.desc
open Go.RowKit Go.PlainAid Go.Proofs.Ytilfenijbbhfjaa.lane
set_option linter.unusedVariables false
set_option linter.unusedSimpArgs false

theorem rreadDevice_any (s : ByteArray) (w : World) (hs : s.size ≤ maxLen) :
    Calls Try.prog 15 #[.string s] w fun e w' => e = .returned (.tuple #[dvV (rdD s), .int .i64 (rdE s)]) ∧ Below w.heap.size w w' := by
  by_cases h18 : s.size < 18
  · exact rread_short s w hs h18
  · by_cases hd : isDev s = true
    · exact rread_yes s w hs h18 hd
    · exact rread_no s w hs h18 hd
end Go.Proofs.Ytilfenijbbhfjaa.desc
