/- plugref's gadget: what Control answers, whatever is asked. -/
import Derived.Test.YtebaepkghbihkaaGadV0
import Derived.Test.YtebaepkghbihkaaGadV1
import Derived.Test.YtebaepkghbihkaaGadV2
import Derived.Test.YtebaepkghbihkaaGadV3
import Derived.Test.YtebaepkghbihkaaGadV4
import Derived.Test.YtebaepkghbihkaaGadV5
import Derived.Test.YtebaepkghbihkaaGadV6
import Derived.Test.YtebaepkghbihkaaGadV7
import Derived.Test.YtebaepkghbihkaaGadV8
namespace Go.Proofs.Ytebaepkghbihkaa.gadget
open Go.RowKit Go.PlainAid Go.Proofs.Ytebaepkghbihkaa.lane Go.Proofs.Ytebaepkghbihkaa.desc
open Go.Proofs.Ytebaepkghbihkaa.setup (rK rN rC good_words)
set_option linter.unusedVariables false
theorem rcontrol_any (d : Dv) (c : Cf) (L : FL) (v : Value) (T : List (List Int)) (tv : Value) (s a h : Int) (q : ByteArray) (w : World) (hs : Shr w c L v T tv) (hq : q.size ≤ maxLen) (hbig : ∀ t ∈ T, t.length ≤ 17000000000000) :
    Calls Try.prog 12 #[shV d c v tv, gdV s a h, .string q] w fun e w' => e = .returned (ansV (ctl d c T s a h q)) ∧ Below w.heap.size w w' := by
  by_cases hx : chkS d c T = 0 ∧ gR s a h = true ∧ rC q = 0
  · obtain ⟨h1, h2, h3⟩ := hx
    obtain ⟨⟨k1, k2⟩, _⟩ := good_words (read_good h3)
    by_cases q1 : rK q = 1
    · exact rcontrol_1 d c L v T tv s a h q w hs hq hbig h1 h2 h3 q1
    by_cases q2 : rK q = 2
    · exact rcontrol_2 d c L v T tv s a h q w hs hq hbig h1 h2 h3 q2
    by_cases q3 : rK q = 3
    · exact rcontrol_3 d c L v T tv s a h q w hs hq hbig h1 h2 h3 q3
    by_cases q4 : rK q = 4
    · exact rcontrol_4 d c L v T tv s a h q w hs hq hbig h1 h2 h3 q4
    by_cases q5 : rK q = 5
    · exact rcontrol_5 d c L v T tv s a h q w hs hq hbig h1 h2 h3 q5
    by_cases q6 : rK q = 6
    · exact rcontrol_6 d c L v T tv s a h q w hs hq hbig h1 h2 h3 q6
    by_cases q7 : rK q = 7
    · exact rcontrol_7 d c L v T tv s a h q w hs hq hbig h1 h2 h3 q7
    exact rcontrol_8 d c L v T tv s a h q w hs hq hbig h1 h2 h3 (by omega)
  · exact rcontrol_bad d c L v T tv s a h q w hs hq hbig hx
end Go.Proofs.Ytebaepkghbihkaa.gadget
