/- SetupWrites: the walk. -/
import Derived.Test.YtebmdnkccddhlaaSetS
import Derived.Handy
namespace Go.Proofs.Ytebmdnkccddhlaa.setupWrites
open Go.RowKit Go.PlainAid Go.Proofs.Ytebmdnkccddhlaa.lane Go.Proofs.Ytebmdnkccddhlaa.setup
set_option linter.unusedVariables false

set_option maxHeartbeats 2000000 in
theorem walk (a0k a0v a0i a0l : Int)
    (w0k : (Lit.int .i64 a0k).wf = true) (w0v : (Lit.int .i64 a0v).wf = true) (w0i : (Lit.int .i64 a0i).wf = true) (w0l : (Lit.int .i64 a0l).wf = true) (w : World) :
    Calls Try.prog 3 #[setup.ask a0k a0v a0i a0l] w fun e w' => e = .returned (.bool true) ∧ Below w.heap.size w w' := by
  have b0 := bounds_i64 w0i
  clear w0k w0v w0i w0l
  have HW : Hid (∀ w : World, Calls Try.prog 8 #[setup.ask a0k a0v a0i a0l] w fun r w' => r = .returned (.tuple #[.string (wrT a0k a0v a0i a0l), .int .i64 (wrC a0k a0v a0i a0l)]) ∧ Below w.heap.size w w') := write_any a0k a0v a0i a0l b0
  have HT : Hid (∀ w : World, Calls Try.prog 9 #[setup.ask a0k a0v a0i a0l] w fun r w' => r = .returned (.tuple #[.string (wrT a0k a0v a0i a0l), .int .i64 (wrC a0k a0v a0i a0l)]) ∧ Below w.heap.size w w') := askText_any a0k a0v a0i a0l
  have HP : Hid (∀ u, Below (w.alloc (askc a0k a0v a0i a0l)).heap.size (w.alloc (askc a0k a0v a0i a0l)) u → Ak u w.heap.size a0k a0v a0i a0l ∧ Below w.heap.size w u) :=
    fun u hu => ⟨(ak_alloc w a0k a0v a0i a0l).below (by simp) hu, bsq (balloc _ _) hu⟩
  clear b0
  generalize wrT a0k a0v a0i a0l = T at *
  generalize wrC a0k a0v a0i a0l = c at *
  go_enter Try.func3, Try.ntmps3
  go_wp2_with fail
  refine (HW.out _).mono ?_
  rintro r u1 ⟨rfl, hb1⟩
  obtain ⟨⟨hz, c0, c1, c2, c3⟩, hB⟩ := HP.out u1 hb1
  have HB1 : Hid (Below w.heap.size w u1) := hB
  clear hb1 hB
  go_wp2_with fail
  refine (HT.out _).mono ?_
  rintro r u2 ⟨rfl, hb2⟩
  have HB2 : Hid (Below w.heap.size w u2) := bsq HB1.out hb2
  clear hb2
  go_wp2
  go_ret
  exact ⟨rfl, HB2.out⟩
end Go.Proofs.Ytebmdnkccddhlaa.setupWrites
