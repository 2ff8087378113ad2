/- DescReads: the walk. -/
import Derived.Test.YtilfenijbbhfjaaDescReadsV
import Derived.Test.YtilfenijbbhfjaaDescPd
import Derived.Test.YtilfenijbbhfjaaDescCo
namespace Go.Proofs.Ytilfenijbbhfjaa.descReads
open Go.RowKit Go.PlainAid Go.Proofs.Ytilfenijbbhfjaa.lane Go.Proofs.Ytilfenijbbhfjaa.desc

theorem walk (a0 : ByteArray) (w0 : a0.size ≤ maxLen) (w : World) :
    Calls Try.prog 6 #[.string a0] w fun e w' => e = .returned (.bool true) ∧ Below w.heap.size w w' := walk_of coAll (fun s w hs => rreadConfig_any s w hs) a0 w0 w
end Go.Proofs.Ytilfenijbbhfjaa.descReads
