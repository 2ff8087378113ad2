/- DescOwn: the walk. -/
import Derived.Test.YtilfenijbbhfjabDescOwnV
import Derived.Test.YtilfenijbbhfjabDescCo
namespace Go.Proofs.Ytilfenijbbhfjab.descOwn
open Go.RowKit Go.PlainAid Go.Proofs.Ytilfenijbbhfjab.lane Go.Proofs.Ytilfenijbbhfjab.desc

theorem walk (a0 : Cf) (c0 : Value) (L0 : FL) (w : World) (hc0 : Rc w c0 a0 L0) (hbk : L0.length * 80 ≤ 140737488351232 ∧ ∀ q ∈ L0, q.1.ex.length * 16 ≤ 140737488351232 ∧ q.1.en.length * 40 ≤ 140737488351232) :
    Calls Try.prog 8 #[cfV a0 c0] w fun e w' => e = .returned (.bool true) ∧ Below w.heap.size w w' := walk_of coAll a0 c0 L0 w hc0 hbk
end Go.Proofs.Ytilfenijbbhfjab.descOwn
