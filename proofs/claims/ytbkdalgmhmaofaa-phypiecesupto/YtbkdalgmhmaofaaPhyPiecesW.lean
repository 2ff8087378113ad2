/- PhyPieces: the walk. -/
import Derived.Test.YtbkdalgmhmaofaaPhyR
import Derived.Shelf.Vars
namespace Go.Proofs.Ytbkdalgmhmaofaa.phyPieces
open Go.RowKit Go.PlainAid Go.Proofs.Ytbkdalgmhmaofaa.lane

theorem room (w : World) (h : w.ShapedOpen Try.prog) : ∃ m, w.cell? ⟨0, 0, none⟩ = some (.int .i64 m) :=
  Go.Proofs.cell_of_shapedOpen_int (zero := #[.int .i64 0]) (t := 3) h (of_decide_eq_true (by kernel_rfl)) (by kernel_rfl) rfl (by kernel_rfl) (by kernel_rfl) Try.underlying3
set_option linter.unusedVariables false
set_option maxHeartbeats 2000000 in
theorem walk (a0 : ByteArray) (w0 : a0.size ≤ maxLen) (hs0 : a0.size ≤ 1048576) (w : World) (hsh : w.ShapedOpen Try.prog) :
    Calls Try.prog 3 #[.string a0] w fun e w' => e = .returned (.bool true) ∧ Below w.heap.size w w' := by
  obtain ⟨m, hm⟩ := room w hsh
  have hlow : 0 < w.heap.size := World.block_lt_of_cell? w _ hm
  have HM : Hid (∀ u : World, Below w.heap.size w u → u.cell? ⟨0, 0, none⟩ = some (.int .i64 m)) := fun u hb => (hb.cell (p := ⟨0, 0, none⟩) hlow).trans hm
  have HA : Hid (∀ w, Calls Try.prog 7 #[.string a0] w fun e w' => e = .returned (.tuple #[.string (pieceS a0), .int .i64 (pieceC a0)]) ∧ Below w.heap.size w w') := fun w => piece_any a0 w (by omega)
  have HB : Hid (∀ u, Below w.heap.size w u → Calls Try.prog 8 #[.string a0] u fun e w' => e = .returned (.tuple #[.string (pieceS a0), .int .i64 (pieceC a0)]) ∧ Below u.heap.size u w') := fun u hu => rpiece_any a0 u m (HM.out u hu) hs0
  generalize pieceS a0 = t at HA HB
  generalize pieceC a0 = c at HA HB
  clear w0 hsh hm hlow HM
  go_enter Try.func3, Try.ntmps3
  go_wp2_with fail
  refine (HA.out _).mono ?_
  rintro e u ⟨rfl, hb⟩
  go_wp2_with fail
  refine (HB.out _ hb).mono ?_
  rintro e u2 ⟨rfl, hb2⟩
  replace hb := bsq hb hb2
  clear hb2
  go_wp2
  go_ret
  exact ⟨rfl, hb⟩
end Go.Proofs.Ytbkdalgmhmaofaa.phyPieces
