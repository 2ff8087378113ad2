/- setup: what shapeOf answers, whatever the kind. -/
import Derived.Test.YtdnmjeiljpdmcaaSetC
namespace Go.Proofs.Ytdnmjeiljpdmcaa.setup
open Go.RowKit Go.PlainAid Go.Proofs.Ytdnmjeiljpdmcaa.lane
set_option linter.unusedVariables false

theorem bdrew {B : Nat} {a w : World} (h : Below B a w) : Below B a w.drew := ⟨h.os, h.tape, h.output, h.size, h.block⟩
set_option maxHeartbeats 4000000 in
theorem shape_drawn (k : Int) (h : k = 8 ∨ k = 12 ∨ k = 14) (w : World) :
    Calls Try.prog 42 #[.int .i64 k] w fun e w' => e = .returned (.tuple #[shk k, .bool true]) ∧ Below w.heap.size w w' := by
  rcases h with rfl | rfl | rfl
  all_goals go_enter Try.func42, Try.ntmps42
  all_goals go_wp2_with fail
  all_goals go_region_with (refine (only_any _ _).mono ?_; rintro e u ⟨rfl, rfl⟩)
  all_goals go_wp2
  all_goals refine bodyPost_ret (by simp [results, Try.results42, go_sem]; rfl) rfl ⟨rfl, ?_⟩
  all_goals (repeat (with_reducible refine bdrew ?_))
  all_goals first | with_reducible exact b6 _ _ _ _ _ _ _ | with_reducible exact b7 _ _ _ _ _ _ _ _
theorem shape_any : ShAll := by
  intro k h w
  rcases isK_cases h with h | h | h | h | h | h | h | h | h | h | h | h | h | h
  all_goals first | exact shape_plain k (by omega) w | exact shape_one k (by omega) w | exact shape_drawn k (by omega) w
end Go.Proofs.Ytdnmjeiljpdmcaa.setup
