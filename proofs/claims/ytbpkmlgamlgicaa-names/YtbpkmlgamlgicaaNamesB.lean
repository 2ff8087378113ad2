/- Names: the numbers of errors, kinds and limits are as the document has them: the call returns true. -/
import Derived.Test.YtbpkmlgamlgicaaNamesA
import Derived.WalkSmall
namespace Go.Proofs.Ytbpkmlgamlgicaa.names
open Go.RowKit

theorem cells_at (w : World) (xs : List Int) (t : TypeId) (n b i : Nat) (hb : b = w.heap.size) (hn : n = xs.length) (hi : i < n) :
    (w.alloc (.cells (xs.map (Value.int .i64)).toArray t)).cell? ⟨b, i, none⟩ = some (.int .i64 (xs.getD i 0)) := by
  subst hn
  rw [World.cell?_alloc_at _ _ _ _ hb]
  simp [List.getD, List.getElem?_eq_getElem hi]
theorem cell_drewN (w : World) (n : Nat) (a : Addr) : (w.drewN n).cell? a = w.cell? a := rfl

set_option maxRecDepth 100000 in
set_option maxHeartbeats 4000000 in
theorem walk (w : World) :
    Calls Try.prog 3 #[] w fun e w' => e = .returned (.bool true) ∧ Below w.heap.size w w' := by
  go_enter Try.func3, Try.ntmps3
  go_wp2
  go_rounds 18
  refine wp_loop_rounds 8 ?_
  repeat (first | (rw [rounds_succ]; go_wp2_with fail) | (refine wp_loop_rounds 15 ?_))
  refine (equal_any _ _ 9 _ _ [1, 2, 3, 5, 9, 10, 11, 13, 14] _ (by omega) ?_ ?_).mono ?_
  · intro i hi
    iterate 4 ((try rw [cell_drewN]); rw [World.cell?_alloc_past _ _ _ (by simp)])
    exact cells_at _ [1, 2, 3, 5, 9, 10, 11, 13, 14] _ 9 _ i (by simp) rfl hi
  · intro i hi
    try rw [cell_drewN]
    exact cells_at _ [1, 2, 3, 5, 9, 10, 11, 13, 14] _ 9 _ i (by simp) rfl hi
  rintro e w' ⟨rfl, m0, rfl⟩
  go_wp2_with fail
  refine (equal_any _ _ 7 _ _ [1, 5, 9, 11, 12, 17, 19] _ (by omega) ?_ ?_).mono ?_
  · intro i hi
    iterate 4 ((try rw [cell_drewN]); rw [World.cell?_alloc_past _ _ _ (by simp)])
    exact cells_at _ [1, 5, 9, 11, 12, 17, 19] _ 7 _ i (by simp) rfl hi
  · intro i hi
    try rw [cell_drewN]
    exact cells_at _ [1, 5, 9, 11, 12, 17, 19] _ 7 _ i (by simp) rfl hi
  rintro e w' ⟨rfl, m1, rfl⟩
  go_wp2_with fail
  refine (equal_any _ _ 8 _ _ [0, 1, 2, 3, 0, 1, 2, 3] _ (by omega) ?_ ?_).mono ?_
  · intro i hi
    iterate 4 ((try rw [cell_drewN]); rw [World.cell?_alloc_past _ _ _ (by simp)])
    exact cells_at _ [0, 1, 2, 3, 0, 1, 2, 3] _ 8 _ i (by simp) rfl hi
  · intro i hi
    try rw [cell_drewN]
    exact cells_at _ [0, 1, 2, 3, 0, 1, 2, 3] _ 8 _ i (by simp) rfl hi
  rintro e w' ⟨rfl, m2, rfl⟩
  go_wp2_with fail
  refine (equal_any _ _ 38 _ _ [80, 1000, 64, 126, 512, 4, 4, 2, 8, 200, 1000, 4096, 65536, 64, 4096, 64, 8, 65535, 64, 8, 6, 4, 40, 3, 64, 16, 4, 200, 256, 512, 4, 400, 16, 1000, 16, 65535, 200, 300] _ (by omega) ?_ ?_).mono ?_
  · intro i hi
    iterate 4 ((try rw [cell_drewN]); rw [World.cell?_alloc_past _ _ _ (by simp)])
    exact cells_at _ [80, 1000, 64, 126, 512, 4, 4, 2, 8, 200, 1000, 4096, 65536, 64, 4096, 64, 8, 65535, 64, 8, 6, 4, 40, 3, 64, 16, 4, 200, 256, 512, 4, 400, 16, 1000, 16, 65535, 200, 300] _ 38 _ i (by simp) rfl hi
  · intro i hi
    try rw [cell_drewN]
    exact cells_at _ [80, 1000, 64, 126, 512, 4, 4, 2, 8, 200, 1000, 4096, 65536, 64, 4096, 64, 8, 65535, 64, 8, 6, 4, 40, 3, 64, 16, 4, 200, 256, 512, 4, 400, 16, 1000, 16, 65535, 200, 300] _ 38 _ i (by simp) rfl hi
  rintro e w' ⟨rfl, m3, rfl⟩
  go_wp2_with fail
  go_ret
  refine ⟨rfl, ?_⟩
  repeat (first | exact Below.refl _ _ | (refine below_drewN ?_ _) | (refine Below.alloc ?_ (by simp; omega) _) | (refine Below.alloc ?_ (by simp) _))
end Go.Proofs.Ytbpkmlgamlgicaa.names
