/- RouteShows: P16.3: the walk. -/
import Derived.Test.YtllfokmpnalojaaDoorRouVr
import Derived.Test.YtllfokmpnalojaaDoorRouX
import Derived.Test.YtllfokmpnalojaaDoorRouO
namespace Go.Proofs.YtllfokmpnalojaaDoor.routeShows
open Go Go.RowKit Go.Proofs.YtllfokmpnalojaaDoor.route
set_option linter.unusedVariables false
set_option linter.unusedSimpArgs false
set_option maxRecDepth 100000

set_option maxHeartbeats 4000000 in
theorem walk (v : Value) (l : List Int) (s : ByteArray) (hws : s.size ≤ maxLen) (hs : s.size ≤ 140737488351232) (w : World) (hp : Ris w v l) (hk : l.length * 8 ≤ reachBytes) (hL : laidMet Tryd.prog Rows.routeShowsRow.laid w) :
    Calls Tryd.prog 3 #[v, .string s] w fun e w' => e = .returned (.bool true) ∧ Below w.heap.size w w' := by
  have hV : Vr w := vr_of hL (.tail _ (.tail _ (.tail _ (.tail _ (.tail _ (.head _)))))) (.tail _ (.tail _ (.tail _ (.tail _ (.head _)))))
  have HV : Hid (Vr w) := hV
  have HP : Hid (Ris w v l) := hp
  have hrt := rt_rd s
  have HT : Hid (rtC s = rdC s ∧ rtL s = rdL s) := hrt
  clear hL hV hp hk hws hrt
  go_enter Tryd.func3, Tryd.ntmps3
  go_wp2_with fail
  refine (show_any _ l w HP.out).mono ?_
  rintro e u1 ⟨rfl, hb⟩
  have H1 : Hid (Below w.heap.size w u1) := hb
  clear hb
  go_wp2_with fail
  refine (pathText_any _ l u1 (HP.out.below H1.out)).mono ?_
  rintro e u2 ⟨rfl, hb⟩
  have H2 : Hid (Below w.heap.size w u2) := bsq H1.out hb
  clear hb
  go_wp2_with fail
  refine (read_any s u2 hs (HV.out.below H2.out)).mono ?_
  rintro e u3 ⟨v3, rfl, hi, hb⟩
  have H3 : Hid (Below w.heap.size w u3) := bsq H2.out hb
  have HR3 : Hid (Ris u3 v3 (rdL s)) := hi.ris
  clear hb hi
  go_wp2_with fail
  refine (textPath_any s u3 hs).mono ?_
  rintro e u4 ⟨v4, rfl, hi, hb⟩
  have H4 : Hid (Below w.heap.size w u4) := bsq H3.out hb
  have HR4 : Hid (Ris u4 v3 (rdL s)) := HR3.out.below hb
  have HQ4 : Hid (Ris u4 v4 (rdL s)) := by have := hi.ris; rw [HT.out.2] at this; exact this
  clear hb hi HR3
  rw [HT.out.1]
  have e1 : ((shT l).toList == (shT l).toList) = true := by simp
  have e2 : (chk l == chk l) = true := by simp
  have e3 : (rdC s == rdC s) = true := by simp
  generalize shT l = S at e1
  generalize chk l = z at e2
  generalize rdC s = y at e3
  go_wp2_with fail
  refine (equalI_any _ _ _ _ u4 HR4.out HQ4.out).mono ?_
  rintro e u5 ⟨rfl, hb⟩
  have H5 : Hid (Below w.heap.size w u5) := bsq H4.out hb
  clear hb
  rw [show decide (rdL s = rdL s) = true from decide_eq_true rfl]
  go_wp2
  go_ret
  exact ⟨rfl, H5.out⟩
end Go.Proofs.YtllfokmpnalojaaDoor.routeShows
