/- setup: what shapeOf answers. -/
import Derived.Test.YtonheibhbilhhaaZAh
namespace Go.Proofs.Ytonheibhbilhhaa.setup
open Go.RowKit Go.PlainAid Go.Proofs.Ytonheibhbilhhaa.lane
set_option linter.unusedVariables false

theorem b6 (w : World) (o1 o2 o3 o4 o5 o6 : Obj) : Below w.heap.size w ((((((w.alloc o1).alloc o2).alloc o3).alloc o4).alloc o5).alloc o6) := bsq (b5 _ _ _ _ _ _) (balloc _ _)
theorem b7 (w : World) (o1 o2 o3 o4 o5 o6 o7 : Obj) : Below w.heap.size w (((((((w.alloc o1).alloc o2).alloc o3).alloc o4).alloc o5).alloc o6).alloc o7) := bsq (b6 _ _ _ _ _ _ _) (balloc _ _)
set_option maxHeartbeats 4000000 in
theorem shape_one (k : Int) (h : k = 1 ∨ k = 7) (w : World) :
    Calls Try.prog 44 #[.int .i64 k] w fun e w' => e = .returned (.tuple #[shk k, .bool true]) ∧ Below w.heap.size w w' := by
  rcases h with rfl | rfl
  all_goals go_enter Try.func44, Try.ntmps44
  all_goals go_wp2_with fail
  all_goals refine (only_any _ _).mono ?_
  all_goals rintro e u ⟨rfl, rfl⟩
  all_goals go_wp2
  all_goals exact bodyPost_ret (by simp [results, Try.results44, go_sem]; rfl) rfl ⟨rfl, b6 _ _ _ _ _ _ _⟩
theorem shape_bad (k : Int) (h : isK k = false) (w : World) :
    Calls Try.prog 44 #[.int .i64 k] w fun e w' => e = .returned (.tuple #[shv 0 0 0 0 0 0 0 0 false, .bool false]) ∧ Below w.heap.size w w' := by
  have hn : ∀ j : Int, 1 ≤ j → j ≤ 14 → (k == j) = false := by
    intro j h1 h2
    rw [beq_eq_false_iff_ne]
    rintro rfl
    rw [isK, inS_iff.2 ⟨h1, h2⟩] at h
    cases h
  have n1 := hn 1 (by omega) (by omega)
  have n2 := hn 2 (by omega) (by omega)
  have n3 := hn 3 (by omega) (by omega)
  have n4 := hn 4 (by omega) (by omega)
  have n5 := hn 5 (by omega) (by omega)
  have n6 := hn 6 (by omega) (by omega)
  have n7 := hn 7 (by omega) (by omega)
  have n8 := hn 8 (by omega) (by omega)
  have n9 := hn 9 (by omega) (by omega)
  have n10 := hn 10 (by omega) (by omega)
  have n11 := hn 11 (by omega) (by omega)
  have n12 := hn 12 (by omega) (by omega)
  have n13 := hn 13 (by omega) (by omega)
  have n14 := hn 14 (by omega) (by omega)
  clear hn h
  go_enter Try.func44, Try.ntmps44
  go_wp2
  exact bodyPost_ret (by simp [results, Try.results44, go_sem]) rfl ⟨rfl, b5 _ _ _ _ _ _⟩
/-- what shapeOf answers to a kind -/
abbrev ShAll : Prop := ∀ k : Int, isK k = true → ∀ w : World, Calls Try.prog 44 #[.int .i64 k] w fun e w' => e = .returned (.tuple #[shk k, .bool true]) ∧ Below w.heap.size w w'
end Go.Proofs.Ytonheibhbilhhaa.setup

/- setup: what shapeOf answers, whatever the kind. -/
namespace Go.Proofs.Ytonheibhbilhhaa.setup
open Go.RowKit Go.PlainAid Go.Proofs.Ytonheibhbilhhaa.lane
set_option linter.unusedVariables false

theorem bdrew {B : Nat} {a w : World} (h : Below B a w) : Below B a w.drew := ⟨h.os, h.tape, h.output, h.size, h.block⟩
set_option maxHeartbeats 4000000 in
theorem shape_drawn (k : Int) (h : k = 8 ∨ k = 12 ∨ k = 14) (w : World) :
    Calls Try.prog 44 #[.int .i64 k] w fun e w' => e = .returned (.tuple #[shk k, .bool true]) ∧ Below w.heap.size w w' := by
  rcases h with rfl | rfl | rfl
  all_goals go_enter Try.func44, Try.ntmps44
  all_goals go_wp2_with fail
  all_goals go_region_with (refine (only_any _ _).mono ?_; rintro e u ⟨rfl, rfl⟩)
  all_goals go_wp2
  all_goals refine bodyPost_ret (by simp [results, Try.results44, go_sem]; rfl) rfl ⟨rfl, ?_⟩
  all_goals (repeat (with_reducible refine bdrew ?_))
  all_goals first | with_reducible exact b6 _ _ _ _ _ _ _ | with_reducible exact b7 _ _ _ _ _ _ _ _
theorem shape_any : ShAll := by
  intro k h w
  rcases isK_cases h with h | h | h | h | h | h | h | h | h | h | h | h | h | h
  all_goals first | exact shape_plain k (by omega) w | exact shape_one k (by omega) w | exact shape_drawn k (by omega) w
end Go.Proofs.Ytonheibhbilhhaa.setup
