/- SetupApart: the walk. -/
import Derived.Test.YtebmdnkccddhlaaSetG
import Derived.Handy
namespace Go.Proofs.Ytebmdnkccddhlaa.setupApart
open Go.RowKit Go.PlainAid Go.Proofs.Ytebmdnkccddhlaa.lane Go.Proofs.Ytebmdnkccddhlaa.setup
set_option linter.unusedVariables false

set_option maxHeartbeats 2000000 in
theorem walk (a0k a0v a0i a0l a1k a1v a1i a1l : Int)
    (w0k : (Lit.int .i64 a0k).wf = true) (w0v : (Lit.int .i64 a0v).wf = true) (w0i : (Lit.int .i64 a0i).wf = true) (w0l : (Lit.int .i64 a0l).wf = true)
    (w1k : (Lit.int .i64 a1k).wf = true) (w1v : (Lit.int .i64 a1v).wf = true) (w1i : (Lit.int .i64 a1i).wf = true) (w1l : (Lit.int .i64 a1l).wf = true) (w : World) :
    Calls Try.prog 6 #[setup.ask a0k a0v a0i a0l, setup.ask a1k a1v a1i a1l] w fun e w' => e = .returned (.bool true) ∧ Below w.heap.size w w' := by
  have b0 := bounds_i64 w0i
  have b1 := bounds_i64 w1i
  clear w0k w0v w0i w0l w1k w1v w1i w1l
  have HW : Hid (∀ w : World, Calls Try.prog 8 #[setup.ask a0k a0v a0i a0l] w fun r w' => r = .returned (.tuple #[.string (wrT a0k a0v a0i a0l), .int .i64 (wrC a0k a0v a0i a0l)]) ∧ Below w.heap.size w w') := write_any a0k a0v a0i a0l b0
  have HW' : Hid (∀ w : World, Calls Try.prog 8 #[setup.ask a1k a1v a1i a1l] w fun r w' => r = .returned (.tuple #[.string (wrT a1k a1v a1i a1l), .int .i64 (wrC a1k a1v a1i a1l)]) ∧ Below w.heap.size w w') := write_any a1k a1v a1i a1l b1
  have HL : Hid (∀ w : World, Calls Try.prog 12 #[] w fun r w' => r = .returned (.bool true) ∧ Below w.heap.size w w') := lives_any
  have heq := eql_ask a0k a0v a0i a0l a1k a1v a1i a1l
  have hcs : wrC a0k a0v a0i a0l = 1 ∨ wrC a1k a1v a1i a1l = 1 ∨ (wrC a0k a0v a0i a0l = 0 ∧ wrC a1k a1v a1i a1l = 0 ∧ ((wrT a0k a0v a0i a0l).toList == (wrT a1k a1v a1i a1l).toList) = same a0k a0v a0i a0l a1k a1v a1i a1l) := by
    unfold wrC wrT
    cases h : good a0k a0v a0i a0l
    · left; rfl
    · cases h' : good a1k a1v a1i a1l
      · right; left; rfl
      · right; right
        refine ⟨rfl, rfl, ?_⟩
        rw [if_pos rfl, if_pos rfl, toList_beq, Bool.eq_iff_iff, same_iff, decide_eq_true_iff]
        constructor
        · intro e
          have := congrArg nums e
          rw [nums_str _ (txt_byt h), nums_str _ (txt_byt h')] at this
          exact txt_inj h h' this
        · rintro ⟨rfl, rfl, rfl, rfl⟩; rfl
  have HP : Hid (∀ u, Below ((w.alloc (askc a0k a0v a0i a0l)).alloc (askc a1k a1v a1i a1l)).heap.size ((w.alloc (askc a0k a0v a0i a0l)).alloc (askc a1k a1v a1i a1l)) u → Ak u w.heap.size a0k a0v a0i a0l ∧ Ak u (w.heap.size + 1) a1k a1v a1i a1l ∧ Below w.heap.size w u) := by
    intro u hu
    refine ⟨((ak_alloc w a0k a0v a0i a0l).below (B := (w.alloc (askc a0k a0v a0i a0l)).heap.size) (by simp) (balloc _ _)).below (by simp; omega) hu, ?_, bsq (bsq (balloc _ _) (balloc _ _)) hu⟩
    have := (ak_alloc (w.alloc (askc a0k a0v a0i a0l)) a1k a1v a1i a1l).below (by simp) hu
    simpa using this
  clear b0 b1
  generalize wrT a0k a0v a0i a0l = T at *
  generalize wrT a1k a1v a1i a1l = T' at *
  generalize wrC a0k a0v a0i a0l = c at *
  generalize wrC a1k a1v a1i a1l = c' at *
  generalize same a0k a0v a0i a0l a1k a1v a1i a1l = sm at *
  go_enter Try.func6, Try.ntmps6
  go_wp2_with fail
  refine (HW.out _).mono ?_
  rintro r u1 ⟨rfl, hb1⟩
  have HB1 : Hid (Below ((w.alloc (askc a0k a0v a0i a0l)).alloc (askc a1k a1v a1i a1l)).heap.size ((w.alloc (askc a0k a0v a0i a0l)).alloc (askc a1k a1v a1i a1l)) u1) := hb1
  obtain ⟨_, ⟨hz, d0, d1, d2, d3⟩, _⟩ := HP.out u1 hb1
  clear hb1
  go_wp2_with fail
  refine (HW'.out _).mono ?_
  rintro r u2 ⟨rfl, hb2⟩
  have HB2 : Hid (Below ((w.alloc (askc a0k a0v a0i a0l)).alloc (askc a1k a1v a1i a1l)).heap.size ((w.alloc (askc a0k a0v a0i a0l)).alloc (askc a1k a1v a1i a1l)) u2) := bsq HB1.out hb2
  clear hb2 d0 d1 d2 d3 hz
  go_wp2_with fail
  refine (HL.out _).mono ?_
  rintro r u3 ⟨rfl, hb3⟩
  obtain ⟨⟨hz, c0, c1, c2, c3⟩, ⟨hz', d0, d1, d2, d3⟩, hB⟩ := HP.out u3 (bsq HB2.out hb3)
  have HB3 : Hid (Below w.heap.size w u3) := hB
  clear hb3 hB
  rcases hcs with rfl | rfl | ⟨rfl, rfl, hs⟩
  · go_wp2
    go_ret
    exact ⟨rfl, HB3.out⟩
  · go_wp2
    all_goals go_ret
    all_goals exact ⟨rfl, HB3.out⟩
  · go_wp2
    go_ret
    exact ⟨rfl, HB3.out⟩
end Go.Proofs.Ytebmdnkccddhlaa.setupApart
