/- route: what the listed variables hold: the two errors of strconv. -/
import Derived.Test.YtllfokmpnalojaaDoorRouU
import Derived.LaidLaws
import Derived.Lib.LaidU8
namespace Go.Proofs.YtllfokmpnalojaaDoor.route
open Go Go.RowKit
set_option linter.unusedVariables false

theorem err_reads {W : World} {n nm : String} {d : DataW Unit} (h : Lib.VarReads Tryd.prog W n (.iface nm d)) (ht : (Tryd.prog.globalNamed n).bind (fun g => (Tryd.prog.globals[g]?).map (·.type)) = some 45) : ∃ t p, W.var? Tryd.prog n = some #[.iface t p] := by
  obtain ⟨g, t, cs, fuel, p, h1, h2, h3, h4⟩ := h
  rw [h1, Option.bind_some, h2] at ht
  injection ht with ht
  subst ht
  obtain ⟨_, u, v, e, _⟩ := iface_of_trod Tryd.underlying45 h4
  refine ⟨u, v, ?_⟩
  rw [h3]
  congr 1
  cases cs
  simp at e
  rw [e]
theorem vr_of {W : World} {l : List (String × DataW Unit)} (hL : laidMet Tryd.prog l W) (h1 : ("strconv.ErrSyntax", Rows.laid_strconv_ErrSyntax) ∈ l) (h2 : ("strconv.ErrRange", Rows.laid_strconv_ErrRange) ∈ l) : Vr W := by
  obtain ⟨t1, p1, e1⟩ := err_reads (Lib.laidMet.reads hL h1) (by kernel_rfl)
  obtain ⟨t2, p2, e2⟩ := err_reads (Lib.laidMet.reads hL h2) (by kernel_rfl)
  exact ⟨t1, p1, t2, p2, e1, e2⟩
end Go.Proofs.YtllfokmpnalojaaDoor.route
