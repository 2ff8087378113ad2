/- DescBack: the walk. -/
import Derived.Test.YtilfenijbbhfjabDescBackV
import Derived.Test.YtilfenijbbhfjabDescCo
namespace Go.Proofs.Ytilfenijbbhfjab.descBack
open Go.RowKit Go.PlainAid Go.Proofs.Ytilfenijbbhfjab.lane Go.Proofs.Ytilfenijbbhfjab.desc

theorem walk (a0 : Dv) (a1 : Cf) (c1 : Value) (L1 : FL) (w : World) (hc1 : Rc w c1 a1 L1) :
    Calls Try.prog 3 #[dvV a0, cfV a1 c1] w fun e w' => e = .returned (.bool true) ∧ Below w.heap.size w w' := walk_of coAll a0 a1 c1 L1 w hc1
end Go.Proofs.Ytilfenijbbhfjab.descBack
