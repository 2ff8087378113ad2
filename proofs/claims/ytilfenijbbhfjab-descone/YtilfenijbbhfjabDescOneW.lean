/- DescOne: the walk. -/
import Derived.Test.YtilfenijbbhfjabDescCo
import Derived.Test.YtilfenijbbhfjabDescOneV
namespace Go.Proofs.Ytilfenijbbhfjab.descOne
open Go.RowKit Go.PlainAid Go.Proofs.Ytilfenijbbhfjab.lane Go.Proofs.Ytilfenijbbhfjab.desc

theorem walk (a0 : ByteArray) (a1 : ByteArray) (w0 : a0.size ≤ maxLen) (w1 : a1.size ≤ maxLen) (w : World) :
    Calls Try.prog 4 #[.string a0, .string a1] w fun e w' => e = .returned (.bool true) ∧ Below w.heap.size w w' := walk_of coAll a0 a1 w0 w1 w
end Go.Proofs.Ytilfenijbbhfjab.descOne
