/- LaneStuffs: the walk. -/
import Derived.Test.YtbpkmlgamlgicaaDoorLaneV
namespace Go.Proofs.YtbpkmlgamlgicaaDoor.laneStuffs
open Go.RowKit Go.PlainAid Go.Proofs.YtbpkmlgamlgicaaDoor.lane

theorem bseq {w w1 w2 : World} (h1 : Below w.heap.size w w1) (h2 : Below w1.heap.size w1 w2) : Below w.heap.size w w2 := h1.trans (h2.mono h1.size)

set_option maxHeartbeats 2000000 in
theorem walk (a0 : ByteArray) (hs0 : a0.size ≤ 1048576) (w : World) (m : Int) (hm : w.cell? ⟨0, 0, none⟩ = some (.int .i64 m)) :
    Calls Tryd.prog 3 #[.string a0] w fun e w' => e = .returned (.bool true) ∧ Below w.heap.size w w' := by
  have hlow : 0 < w.heap.size := World.block_lt_of_cell? w _ hm
  have HM : Hid (∀ u : World, Below w.heap.size w u → u.cell? ⟨0, 0, none⟩ = some (.int .i64 m)) := fun u hb => (hb.cell (p := ⟨0, 0, none⟩) hlow).trans hm
  clear hm hlow
  go_enter Tryd.func3, Tryd.ntmps3
  go_wp2_with fail
  cases hr : rowB (nums a0)
  · refine (stuff_no a0 _ (by omega) hr).mono ?_
    rintro e u1 ⟨rfl, hb1⟩
    go_wp2_with fail
    refine (rstuff_no a0 _ (by omega) hr).mono ?_
    rintro e u2 ⟨rfl, hb2⟩
    go_wp2_with fail
    refine (unstuff_no a0 _ (by omega) hr).mono ?_
    rintro e u3 ⟨rfl, hb3⟩
    go_wp2_with fail
    refine (runstuff_no a0 _ (by omega) hr).mono ?_
    rintro e u4 ⟨rfl, hb4⟩
    go_wp2
    go_ret
    exact ⟨rfl, bseq (bseq (bseq hb1 hb2) hb3) hb4⟩
  · refine (stuff_ok a0 _ (by omega) hr).mono ?_
    rintro e u1 ⟨rfl, hb1⟩
    go_wp2_with fail
    refine (rstuff_ok a0 _ m (HM.out _ hb1) (by omega) hr).mono ?_
    rintro e u2 ⟨rfl, hb2⟩
    replace hb1 := bseq hb1 hb2
    clear hb2
    go_wp2_with fail
    refine (unstuff_ok a0 _ (by omega) hr).mono ?_
    rintro e u3 ⟨rfl, hb3⟩
    replace hb1 := bseq hb1 hb3
    clear hb3
    go_wp2_with fail
    refine (runstuff_ok a0 _ m (HM.out _ hb1) (by omega) hr).mono ?_
    rintro e u4 ⟨rfl, hb4⟩
    go_wp2
    go_ret
    exact ⟨rfl, bseq hb1 hb4⟩
end Go.Proofs.YtbpkmlgamlgicaaDoor.laneStuffs
