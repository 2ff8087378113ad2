/- SetupReads: the walk. -/
import Derived.Test.YtebmdnkccddhlaaSetT
import Derived.Handy
namespace Go.Proofs.Ytebmdnkccddhlaa.setupReads
open Go.RowKit Go.PlainAid Go.Proofs.Ytebmdnkccddhlaa.lane Go.Proofs.Ytebmdnkccddhlaa.setup
set_option linter.unusedVariables false

set_option maxHeartbeats 2000000 in
theorem walk (a0 : ByteArray) (w0 : a0.size ≤ maxLen) (w : World) :
    Calls Try.prog 4 #[.string a0] w fun e w' => e = .returned (.bool true) ∧ Below w.heap.size w w' := by
  have HW : Hid (∀ w : World, Calls Try.prog 10 #[.string a0] w fun e w' => e = .returned (.tuple #[setup.ask (rK a0) (rN a0 2) (rN a0 4) (rN a0 6), .int .i64 (rC a0)]) ∧ Below w.heap.size w w') := read_any a0 w0
  have HT : Hid (∀ w : World, Calls Try.prog 11 #[.string a0] w fun e w' => e = .returned (.tuple #[setup.ask (rK a0) (rN a0 2) (rN a0 4) (rN a0 6), .int .i64 (rC a0)]) ∧ Below w.heap.size w w') := readAsk_any a0 w0
  clear w0
  generalize rK a0 = k at *
  generalize rN a0 2 = v at *
  generalize rN a0 4 = i at *
  generalize rN a0 6 = l at *
  generalize rC a0 = c at *
  have heq := eql_ask k v i l k v i l
  rw [same_self] at heq
  go_enter Try.func4, Try.ntmps4
  go_wp2_with fail
  refine (HW.out _).mono ?_
  rintro r u1 ⟨rfl, hb1⟩
  have HB1 : Hid (Below w.heap.size w u1) := hb1
  clear hb1
  go_wp2_with fail
  refine (HT.out _).mono ?_
  rintro r u2 ⟨rfl, hb2⟩
  obtain ⟨hz, c0, c1, c2, c3⟩ := (ak_alloc u1 k v i l).below (by simp) hb2
  have HB2 : Hid (Below w.heap.size w u2) := bsq (bsq HB1.out (balloc _ _)) hb2
  clear hb2
  go_wp2
  go_ret
  exact ⟨rfl, bsq HB2.out (balloc _ _)⟩
end Go.Proofs.Ytebmdnkccddhlaa.setupReads
