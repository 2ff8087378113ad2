/- plugkeep: routeLives. -/
import Derived.Test.YtllfokmpnalojaaDoorRouC
import Derived.Test.YtllfokmpnalojaaDoorRouF
import Derived.Test.YtllfokmpnalojaaDoorRouS
namespace Go.Proofs.YtllfokmpnalojaaDoor.route
open Go Go.RowKit
set_option linter.unusedVariables false
set_option linter.unusedSimpArgs false
set_option maxRecDepth 100000

theorem lit_ris (w : World) (l : List Int) (h : l.length ≤ 1000) : Ris (w.alloc (.cells (icells l).toArray 3)) (.slice (some ⟨w.heap.size, 0, none⟩) l.length l.length) l := by
  refine ⟨_, _, rfl, Nat.le_refl _, by unfold maxLen; omega, fun _ => ⟨w.heap.size, 0, rfl, by simp, fun j y hy => ?_⟩⟩
  rw [World.cell?_alloc_at _ _ _ _ rfl, Nat.zero_add, List.getElem?_toArray]
  exact icells_at hy
theorem lit_ris3 (w : World) (x y z : Int) : Ris (w.alloc (.cells #[.int .i64 x, .int .i64 y, .int .i64 z] 3)) (.slice (some ⟨w.heap.size, 0, none⟩) 3 3) [x, y, z] := lit_ris w [x, y, z] (by simp)
theorem lit_ris2 (w : World) (x y : Int) : Ris (w.alloc (.cells #[.int .i64 x, .int .i64 y] 3)) (.slice (some ⟨w.heap.size, 0, none⟩) 2 2) [x, y] := lit_ris w [x, y] (by simp)
theorem e_show : shT [2, 15, 1] = ⟨#[50, 46, 49, 53, 46, 49]⟩ := by
  have : (shT [2, 15, 1]).data = #[50, 46, 49, 53, 46, 49] := by decide +kernel
  cases h : shT [2, 15, 1]
  rw [h] at this
  simpa using this
theorem e_chk : chk [2, 15, 1] = 0 := by decide +kernel
theorem e_pack : paN [2, 15, 1] = 498 := by decide +kernel
theorem e_hop : hop [1, 2] [1, 3, 4] = 3 := by decide +kernel
set_option maxHeartbeats 4000000 in
theorem lives_any (w : World) : Calls Tryd.prog 14 #[] w fun e w' => e = .returned (.bool true) ∧ Below w.heap.size w w' := by
  go_enter Tryd.func14, Tryd.ntmps14
  go_wp2_with fail
  refine (show_any _ [2, 15, 1] _ (lit_ris3 w 2 15 1)).mono ?_
  rintro e u1 ⟨rfl, hb⟩
  rw [e_show, e_chk]
  have H1 : Hid (Below w.heap.size w u1) := bsq (balloc _ _) hb
  clear hb
  go_wp2_with fail
  refine (pack_any _ [2, 15, 1] _ (lit_ris3 u1 2 15 1)).mono ?_
  rintro e u2 ⟨rfl, hb⟩
  rw [e_pack, e_chk]
  have H2 : Hid (Below w.heap.size w u2) := bsq H1.out (bsq (balloc _ _) hb)
  clear hb
  go_wp2_with fail
  obtain ⟨u3, hu3⟩ : ∃ u3, u2.alloc (.cells #[.int .i64 1, .int .i64 2] 3) = u3 := ⟨_, rfl⟩
  have hr2 := lit_ris2 u2 1 2
  rw [hu3] at hr2
  have hb3 : Below u2.heap.size u2 u3 := by rw [← hu3]; exact balloc _ _
  have hs3 : u3.heap.size = u2.heap.size + 1 := by rw [← hu3]; simp
  rw [hu3]
  refine (hops_any _ _ [1, 2] [1, 3, 4] _ (hr2.below (balloc _ _)) (by rw [← hs3]; exact lit_ris3 u3 1 3 4) (by simp) (by simp)).mono ?_
  rintro e u4 ⟨rfl, hb⟩
  rw [e_hop]
  have H4 : Hid (Below w.heap.size w u4) := bsq H2.out (bsq hb3 (bsq (balloc _ _) hb))
  clear hb hr2 hb3 hu3 hs3
  go_wp2
  go_ret
  exact ⟨rfl, H4.out⟩
end Go.Proofs.YtllfokmpnalojaaDoor.route
