/- RoutePacks: P16.1, P16.2: the walk. -/
import Derived.Test.YtllfokmpnalojaaRouF
import Derived.Test.YtllfokmpnalojaaRouI
import Derived.Test.YtllfokmpnalojaaRouO
namespace Go.Proofs.Ytllfokmpnalojaa.routePacks
open Go Go.RowKit Go.Proofs.Ytllfokmpnalojaa.route
set_option linter.unusedVariables false
set_option linter.unusedSimpArgs false
set_option maxRecDepth 100000

theorem pa_rp (P : List Int) : paN P = rpN P := rfl
set_option maxHeartbeats 4000000 in
theorem walk (v : Value) (l : List Int) (n : Int) (hw : (Lit.int .i64 n).wf = true) (w : World) (hp : Ris w v l) :
    Calls Try.prog 3 #[v, .int .i64 n] w fun e w' => e = .returned (.bool true) ∧ Below w.heap.size w w' := by
  obtain ⟨hm0, hm⟩ := wf64 hw
  have HP : Hid (Ris w v l) := hp
  obtain ⟨a, c, rfl, hlc, hcm⟩ := hp.form
  obtain ⟨k, hk⟩ : ∃ k, l.length = k := ⟨_, rfl⟩
  rw [hk] at HP ⊢
  clear hp hk hlc hcm hw
  go_enter Try.func3, Try.ntmps3
  go_wp2_with fail
  refine (pack_any _ l w HP.out).mono ?_
  rintro e u1 ⟨rfl, hb⟩
  have H1 : Hid (Below w.heap.size w u1) := hb
  clear hb
  go_wp2_with fail
  refine (pathNum_any _ l u1 (HP.out.below H1.out)).mono ?_
  rintro e u2 ⟨rfl, rfl⟩
  go_wp2_with fail
  refine (unpack_any n u1 hm).mono ?_
  rintro e u2 ⟨v1, rfl, hi, hb⟩
  have H2 : Hid (Below w.heap.size w u2) := bsq H1.out hb
  have HI : Hid (Iw u2 u1.heap.size v1 (upL n)) := hi
  clear hi hb
  go_wp2_with fail
  refine (numPath_any n u2 hm hm0).mono ?_
  rintro e u3 ⟨v2, rfl, hi, hb⟩
  have H3 : Hid (Below w.heap.size w u3) := bsq H2.out hb
  have HI1 : Hid (Ris u3 v1 (upL n)) := HI.out.ris.below hb
  have HI2 : Hid (Ris u3 v2 (upL n)) := hi.ris
  clear hi hb
  go_wp2_with fail
  refine (check_any _ l u3 (HP.out.below H3.out)).mono ?_
  rintro e u4 ⟨rfl, rfl⟩
  go_wp2_with fail
  refine (path_any _ l u3 (HP.out.below H3.out)).mono ?_
  rintro e u4 ⟨rfl, rfl⟩
  rw [← pa_rp l]
  have e1 : (chk l == chk l) = true := by simp
  have e2 : (paN l == paN l) = true := by simp
  have e3 : (upC n == upC n) = true := by simp
  generalize chk l = z1 at e1
  generalize paN l = z2 at e2
  generalize upC n = z3 at e3
  go_wp2_with fail
  refine (equalI_any _ _ _ _ u3 HI1.out HI2.out).mono ?_
  rintro e u4 ⟨rfl, hb⟩
  have H4 : Hid (Below w.heap.size w u4) := bsq H3.out hb
  clear hb
  have ed : decide (upL n = upL n) = true := by simp
  rw [ed]
  go_wp2
  go_ret
  exact ⟨rfl, H4.out⟩
end Go.Proofs.Ytllfokmpnalojaa.routePacks
