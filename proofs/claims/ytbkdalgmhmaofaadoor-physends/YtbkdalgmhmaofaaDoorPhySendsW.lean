/- PhySends: the walk. -/
import Derived.Test.YtbkdalgmhmaofaaDoorPhyS
namespace Go.Proofs.YtbkdalgmhmaofaaDoor.phySends
open Go.RowKit Go.PlainAid Go.Proofs.YtbkdalgmhmaofaaDoor.lane

set_option linter.unusedVariables false
set_option maxHeartbeats 2000000 in
theorem walk (a0 : ByteArray) (w0 : a0.size ≤ maxLen) (w : World) (m : Int) (hm : w.cell? ⟨0, 0, none⟩ = some (.int .i64 m)) :
    Calls Tryd.prog 3 #[.string a0] w fun e w' => e = .returned (.bool true) ∧ Below w.heap.size w w' := by
  have hlow : 0 < w.heap.size := World.block_lt_of_cell? w _ hm
  have HM : Hid (∀ u : World, Below w.heap.size w u → u.cell? ⟨0, 0, none⟩ = some (.int .i64 m)) := fun u hb => (hb.cell (p := ⟨0, 0, none⟩) hlow).trans hm
  have HA : Hid (∀ w, Calls Tryd.prog 5 #[.string a0] w fun e w' => e = .returned (.tuple #[.string (sentS a0), .int .i64 (sizedL a0.size)]) ∧ Below w.heap.size w w') := fun w => send_any a0 w w0
  have HB : Hid (∀ u, Below w.heap.size w u → Calls Tryd.prog 6 #[.string a0] u fun e w' => e = .returned (.tuple #[.string (sentS a0), .int .i64 (sizedL a0.size)]) ∧ Below u.heap.size u w') := fun u hu => rsent_any a0 u m (HM.out u hu) w0
  generalize sentS a0 = t at HA HB
  generalize sizedL a0.size = c at HA HB
  clear w0 hm hlow HM
  go_enter Tryd.func3, Tryd.ntmps3
  go_wp2_with fail
  refine (HA.out _).mono ?_
  rintro e u ⟨rfl, hb⟩
  go_wp2_with fail
  refine (HB.out _ hb).mono ?_
  rintro e u2 ⟨rfl, hb2⟩
  replace hb := bsq hb hb2
  clear hb2
  go_wp2
  go_ret
  exact ⟨rfl, hb⟩
end Go.Proofs.YtbkdalgmhmaofaaDoor.phySends
