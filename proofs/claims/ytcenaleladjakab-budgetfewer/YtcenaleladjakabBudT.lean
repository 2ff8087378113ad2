/- budget: plugkeep.budgetLives. -/
import Derived.Test.YtcenaleladjakabBudS
namespace Go.Proofs.Ytcenaleladjakab.budget
open Go Go.RowKit
set_option linter.unusedVariables false
set_option linter.unusedSimpArgs false
set_option maxRecDepth 100000

theorem lv_chk : chk [4, 2, 4] 1 = 0 := by decide
theorem lv_plan : plan [4, 2, 4] 1 = some [(0, 1), (0, 0), (0, 3)] := by decide +kernel
theorem lv_c : plC [4, 2, 4] 1 = 0 := by unfold plC; rw [if_pos lv_chk, show (1 : Int).toNat = 1 from rfl, lv_plan]
theorem lv_r : plR [4, 2, 4] 1 = some [(0, 1), (0, 0), (0, 3)] := by unfold plR; rw [if_pos lv_chk, show (1 : Int).toNat = 1 from rfl, lv_plan]
set_option maxHeartbeats 4000000 in
theorem lives_any (w : World) : Calls Try.prog 6 #[] w fun e w' => e = .returned (.bool true) ∧ Below w.heap.size w w' := by
  obtain ⟨w1, hw1⟩ : ∃ w1, w.alloc (.cells #[.int .i64 4, .int .i64 2, .int .i64 4] 3) = w1 := ⟨_, rfl⟩
  have hb1 : Below w.heap.size w w1 := by rw [← hw1]; exact balloc _ _
  have h1 : Ris w1 (.slice (some ⟨w.heap.size, 0, none⟩) 3 3) [4, 2, 4] := ris_of (l := [4, 2, 4]) (by rw [← hw1]; exact (MapKept.heap_alloc w _).1) (by decide)
  have HT : Hid (Calls Try.prog 5 #[.slice (some ⟨w.heap.size, 0, none⟩) 3 3, .int .i64 1] w1 fun e u => ∃ g, e = .returned (.tuple #[.slice (some ⟨g, 0, none⟩) 3 3, .int .i64 0]) ∧ u.heap[g]? = some (bv 33 (ivs (bfl [(0, 1), (0, 0), (0, 3)]))) ∧ Below w1.heap.size w1 u) := by
    refine (plan_any (.slice (some ⟨w.heap.size, 0, none⟩) 3 3) [4, 2, 4] 1 w1 h1).mono ?_
    rintro e u ⟨pv, rfl, h2, h3⟩
    rw [lv_r] at h2
    obtain ⟨g, rfl, h4, h5⟩ := h2
    rw [lv_c]
    exact ⟨g, rfl, h4, h3⟩
  have HB1 : Hid (Below w.heap.size w w1) := hb1
  clear hb1 h1
  go_enter Try.func6, Try.ntmps6
  go_wp2_with fail
  refine HT.out.mono ?_
  rintro e u ⟨g, rfl, hg, hb⟩
  obtain ⟨u2, hu2⟩ : ∃ u2, u.alloc (.cells #[.int .i64 0, .int .i64 1, .int .i64 0, .int .i64 0, .int .i64 0, .int .i64 3] 33) = u2 := ⟨_, rfl⟩
  have hb2 : Below u.heap.size u u2 := by rw [← hu2]; exact balloc _ _
  have h2 : Rbs u2 (.slice (some ⟨u.heap.size, 0, none⟩) 3 3) [(0, 1), (0, 0), (0, 3)] := rbs_of (T := [(0, 1), (0, 0), (0, 3)]) (by rw [← hu2]; exact (MapKept.heap_alloc u _).1) (by decide)
  have HS : Hid (Calls Try.prog 12 #[.slice (some ⟨g, 0, none⟩) 3 3, .slice (some ⟨u.heap.size, 0, none⟩) 3 3] u2 fun e w' => e = .returned (.bool true) ∧ Below u2.heap.size u2 w') := by
    have := equalB_any (.slice (some ⟨g, 0, none⟩) 3 3) (.slice (some ⟨u.heap.size, 0, none⟩) 3 3) [(0, 1), (0, 0), (0, 3)] [(0, 1), (0, 0), (0, 3)] u2 ((rbs_of (T := [(0, 1), (0, 0), (0, 3)]) hg (by decide)).below hb2) h2
    show Calls _ _ _ _ _
    simpa using this
  have HB2 : Hid (Below w.heap.size w u2) := bsq HB1.out (bsq hb hb2)
  clear hg hb hb2 h2 HT HB1
  go_wp2_with fail
  try rw [hu2]
  refine HS.out.mono ?_
  rintro e u3 ⟨rfl, hb3⟩
  have HB3 : Hid (Below w.heap.size w u3) := bsq HB2.out hb3
  clear hb3 HS HB2
  go_wp2
  go_ret
  exact ⟨rfl, HB3.out⟩
/-- the four ways in which Plan ends -/
theorem plan_cases (P : List Int) (m : Int) : (plR P m = none ∧ (plC P m = 1 ∨ plC P m = 2)) ∨ (∃ M : Nat, m = (M : Int) ∧ 1 ≤ M ∧ M ≤ 8 ∧ P.length ≤ 64 ∧ okP P ∧ chk P m = 0 ∧ ((plR P m = none ∧ plC P m = 11 ∧ plan P M = none ∧ 32 * M < shareN P) ∨ ∃ B, plR P m = some B ∧ plC P m = 0 ∧ plan P M = some B ∧ shareN P ≤ 32 * M)) := by
  by_cases h : chk P m = 0
  · obtain ⟨h1, h2, h3, h4⟩ := chk_ok h
    obtain ⟨M, rfl⟩ := Int.eq_ofNat_of_zero_le (show 0 ≤ m by omega)
    right
    refine ⟨M, rfl, by omega, by omega, h3, h4, h, ?_⟩
    unfold plR plC
    rw [if_pos h, if_pos h, Int.toNat_natCast]
    cases q : plan P M with
    | none => exact .inl ⟨rfl, rfl, rfl, kraft_no h4 q⟩
    | some B => exact .inr ⟨B, rfl, rfl, rfl, kraft_ok h4 q⟩
  · left
    unfold plR plC
    rw [if_neg h, if_neg h]
    refine ⟨rfl, ?_⟩
    unfold chk at h ⊢
    split
    · exact .inl rfl
    · rename_i h1
      rw [if_neg h1] at h
      split
      · exact .inr rfl
      · rename_i h2
        rw [if_neg h2] at h
        split
        · exact .inl rfl
        · rename_i h3
          rw [if_neg h3] at h
          exact absurd rfl h
end Go.Proofs.Ytcenaleladjakab.budget
