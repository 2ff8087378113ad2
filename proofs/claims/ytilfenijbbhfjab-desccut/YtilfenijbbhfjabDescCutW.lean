/- DescCut: the walk. -/
import Derived.Test.YtilfenijbbhfjabDescCo
import Derived.Test.YtilfenijbbhfjabDescCutV
namespace Go.Proofs.Ytilfenijbbhfjab.descCut
open Go.RowKit Go.PlainAid Go.Proofs.Ytilfenijbbhfjab.lane Go.Proofs.Ytilfenijbbhfjab.desc

theorem walk (a0 : Cf) (c0 : Value) (L0 : FL) (a1 : Int) (w1 : (Lit.int .i64 a1).wf = true) (w : World) (hc0 : Rc w c0 a0 L0) :
    Calls Try.prog 5 #[cfV a0 c0, .int .i64 a1] w fun e w' => e = .returned (.bool true) ∧ Below w.heap.size w w' := walk_of coAll a0 c0 L0 a1 w1 w hc0
end Go.Proofs.Ytilfenijbbhfjab.descCut
