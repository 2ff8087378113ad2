/- desc: configOf answers as it should; so does ReadConfig. -/
import Derived.Test.YtonheibhbilhhaaDescY
import Derived.Test.YtonheibhbilhhaaDescZ
namespace Go.Proofs.Ytonheibhbilhhaa.desc
open Go.RowKit Go.PlainAid Go.Proofs.Ytonheibhbilhhaa.lane

theorem coAll : CoAll := fun v ps w h hb hl hn => by
  cases ps with
  | nil => exact configOf_none v [] w h hb hl hn (fun p r he => by cases he)
  | cons p r =>
    by_cases h9 : p.length = 9
    · exact configOf_some v p r w h hb (fun q hq => hl q (by simp [hq])) (by simp at hn; omega) h9
    · exact configOf_none v (p :: r) w h hb hl hn (fun p' r' he => by injection he with e1 e2; subst e1; exact h9)
theorem readConfig_any (s : ByteArray) (w : World) (hs : s.size ≤ maxLen) : Calls Try.prog 73 #[.string s] w (RcP s w) := readConfig_of coAll s w hs
end Go.Proofs.Ytonheibhbilhhaa.desc
