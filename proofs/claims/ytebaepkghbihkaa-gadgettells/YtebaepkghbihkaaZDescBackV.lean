/- DescBack: the walk, once configOf answers as it should. -/
import Derived.Test.YtebaepkghbihkaaZDescZ
import Derived.Test.YtebaepkghbihkaaZBd
import Derived.Test.YtebaepkghbihkaaZBe
namespace Go.Proofs.Ytebaepkghbihkaa.descBack
open Go.RowKit Go.PlainAid Go.Proofs.Ytebaepkghbihkaa.lane Go.Proofs.Ytebaepkghbihkaa.desc
set_option linter.unusedVariables false
set_option linter.unusedSimpArgs false

/-- a right configuration's text is read as that configuration -/
theorem readBack (hco : CoAll) (c : Cf) (u : World) (hz : chkC c = 0) (hbb : ∀ f ∈ c.fs, BB f.ex) :
    Calls Try.prog 19 #[.string (strOfNums (confL c))] u fun e w' => ∃ vf L X, e = .returned (.tuple #[cfV c vf, .int .i64 0]) ∧ Inv u w' X c.va c.na c.atr c.po vf L ∧ L.map Prod.fst = c.fs := by
  have hok := chkC_ok hz
  have hcl := confL_le hok
  have hns := nums_str _ (byt_confL hok hbb)
  have hss := str_size (confL c)
  have hist : isT (nums (strOfNums (confL c))) c := ⟨hz, hns.symm⟩
  refine (readConfig_of hco _ u (by unfold maxLen; omega)).mono ?_
  intro e w' hr
  rcases hr with ⟨h1, _⟩ | ⟨_, h2, _⟩ | ⟨c', vf, L, X, _, h2, h3, h4, h5⟩
  · exfalso
    apply h1
    unfold splC
    rw [hns, if_neg (by omega), split_confL hok]
  · exact absurd hist (h2 c)
  · have := isT_one hist h2
    subst this
    exact ⟨vf, L, X, h3, h4, h5⟩
end Go.Proofs.Ytebaepkghbihkaa.descBack
