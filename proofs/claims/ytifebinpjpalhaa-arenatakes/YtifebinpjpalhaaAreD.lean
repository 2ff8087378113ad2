/- arena: what isAlign, roundUp, place and find answer. -/
import Derived.Test.YtifebinpjpalhaaAreB
import Derived.Laws.BitsAllLaws
namespace Go.Proofs.Ytifebinpjpalhaa.arena
open Go.RowKit
set_option linter.unusedVariables false
set_option linter.unusedSimpArgs false
set_option maxRecDepth 100000

theorem and_al : ∀ n : Fin 4097, 1 ≤ n.val → (Nat.land n.val (n.val - 1) == 0) = alB (n.val : Int) := by decide +kernel
theorem roundUp_any (n k : Int) (w : World) (hn : 0 ≤ n) (hn2 : n ≤ 1000000) (hk : 1 ≤ k) (hk2 : k ≤ 4096) : Calls Try.prog 41 #[.int .i64 n, .int .i64 k] w fun e w' => e = .returned (.int .i64 (up n k)) ∧ w = w' := by
  obtain ⟨q, hq⟩ : ∃ q, (n + k - 1) / k = q := ⟨_, rfl⟩
  obtain ⟨a1, a2, a3, a4⟩ := up_spec (n := n) (k := k) (by omega)
  obtain ⟨r, hr⟩ : ∃ r, up n k = r := ⟨_, rfl⟩
  have hqr : q * k = r := by rw [← hr, ← hq]; rfl
  rw [hr] at a1 a3 ⊢
  have ht : (n + k - 1).tdiv k = q := by rw [← hq]; exact Int.tdiv_eq_ediv_of_nonneg (by omega)
  have hq0 : 0 ≤ q := by rw [← hq]; exact Int.ediv_nonneg (by omega) (by omega)
  have hq1 : q ≤ 1010000 := by
    rw [← hq]
    exact Int.le_trans (Int.ediv_le_self _ (by omega)) (by omega)
  have hk0 : (k == 0) = false := by simp; omega
  clear a2 a4 hr hq
  go_enter Try.func41, Try.ntmps41
  go_wp2
  go_ret
  exact ⟨rfl, rfl⟩
end Go.Proofs.Ytifebinpjpalhaa.arena
