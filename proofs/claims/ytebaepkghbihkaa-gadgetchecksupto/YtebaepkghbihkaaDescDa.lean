/- devices, plain: what plugref asks of a device's text is what the program asks. -/
import Derived.Test.YtebaepkghbihkaaDescBa
namespace Go.Proofs.Ytebaepkghbihkaa.desc
open Go.RowKit Go.PlainAid Go.Proofs.Ytebaepkghbihkaa.lane
set_option linter.unusedVariables false

/-- what plugref asks of a device's text -/
def isDevR (s : ByteArray) : Prop := s.size = 18 ∧ bt s 0 = 18 ∧ bt s 1 = 1 ∧ bt s 17 ≠ 0 ∧ (bt s 7 = 8 ∨ bt s 7 = 16 ∨ bt s 7 = 32 ∨ bt s 7 = 64)
theorem list18 (l : List Int) (h : l.length = 18) : l = [l.getD 0 0, l.getD 1 0, l.getD 2 0, l.getD 3 0, l.getD 4 0, l.getD 5 0, l.getD 6 0, l.getD 7 0, l.getD 8 0, l.getD 9 0, l.getD 10 0, l.getD 11 0, l.getD 12 0, l.getD 13 0, l.getD 14 0, l.getD 15 0, l.getD 16 0, l.getD 17 0] := by
  have : l = (List.range 18).map fun k => l.getD k 0 := by
    apply List.ext_getElem (by simp [h])
    intro i h1 h2
    simp [List.getD, h1]
  exact this
theorem wd_at (s : ByteArray) (k : Nat) (h : k + 1 < s.size) : wdOf (s.extract k s.size) = bt s k + 256 * bt s (k + 1) := by
  unfold wdOf
  rw [bt_extract _ k 0 (by omega), bt_extract _ k 1 (by omega), Nat.add_zero]
theorem isDev_R (s : ByteArray) (h : 18 ≤ s.size) : isDev s = true ↔ isDevR s := by
  unfold isDev isDevR
  rw [Bool.and_eq_true, decide_eq_true_eq]
  constructor
  · rintro ⟨h1, h2⟩
    have h3 := (devOk_iff _).1 h1
    have g : ∀ k, k < 18 → bt s k = (devL (devO s)).getD k 0 := fun k hk => by
      have := getD_bt (devL (devO s)) (devL_byt h1) k (by rw [devL_length]; exact hk)
      rw [h2] at this
      exact this
    refine ⟨by rw [← h2, str_size, devL_length], g 0 (by omega), g 1 (by omega), h3.2.2.2, h3.1⟩
  · rintro ⟨h1, h2, h3, h4, h5⟩
    have b : ∀ k, 0 ≤ bt s k ∧ bt s k ≤ 255 := fun k => ⟨bt_nonneg s k, bt_le s k⟩
    have w2 : wdOf (s.extract 2 s.size) = bt s 2 + 256 * bt s 3 := wd_at s 2 (by omega)
    have w8 : wdOf (s.extract 8 s.size) = bt s 8 + 256 * bt s 9 := wd_at s 8 (by omega)
    have w10 : wdOf (s.extract 10 s.size) = bt s 10 + 256 * bt s 11 := wd_at s 10 (by omega)
    have w12 : wdOf (s.extract 12 s.size) = bt s 12 + 256 * bt s 13 := wd_at s 12 (by omega)
    have b2 := b 2
    have b3 := b 3
    have b8 := b 8
    have b9 := b 9
    have b10 := b 10
    have b11 := b 11
    have b12 := b 12
    have b13 := b 13
    refine ⟨(devOk_iff _).2 ⟨h5, ⟨b 4, b 5, b 6, b 14, b 15, b 16, b 17⟩, ⟨?_, ?_, ?_, ?_⟩, h4⟩, ?_⟩
    · show 0 ≤ wdOf _ ∧ wdOf _ ≤ _; rw [w2]; omega
    · show 0 ≤ wdOf _ ∧ wdOf _ ≤ _; rw [w8]; omega
    · show 0 ≤ wdOf _ ∧ wdOf _ ≤ _; rw [w10]; omega
    · show 0 ≤ wdOf _ ∧ wdOf _ ≤ _; rw [w12]; omega
    · have e := list18 (nums s) (by rw [nums_length]; exact h1)
      have b' : ∀ k, k < 18 → (nums s).getD k 0 = bt s k := fun k hk => (bt_nums s k (by omega)).symm
      rw [b' 0 (by omega), b' 1 (by omega), b' 2 (by omega), b' 3 (by omega), b' 4 (by omega), b' 5 (by omega), b' 6 (by omega), b' 7 (by omega), b' 8 (by omega), b' 9 (by omega), b' 10 (by omega), b' 11 (by omega), b' 12 (by omega), b' 13 (by omega), b' 14 (by omega), b' 15 (by omega), b' 16 (by omega), b' 17 (by omega)] at e
      have : devL (devO s) = nums s := by
        rw [e]
        show [18, 1] ++ wrd (wdOf _) ++ [bt s 4, bt s 5, bt s 6, bt s 7] ++ wrd (wdOf _) ++ wrd (wdOf _) ++ wrd (wdOf _) ++ [bt s 14, bt s 15, bt s 16, bt s 17] = _
        rw [w2, w8, w10, w12, h2, h3]
        simp only [wrd, List.cons_append, List.nil_append]
        rw [show (bt s 2 + 256 * bt s 3) % 256 = bt s 2 by omega, show (bt s 2 + 256 * bt s 3) / 256 = bt s 3 by omega, show (bt s 8 + 256 * bt s 9) % 256 = bt s 8 by omega, show (bt s 8 + 256 * bt s 9) / 256 = bt s 9 by omega,
          show (bt s 10 + 256 * bt s 11) % 256 = bt s 10 by omega, show (bt s 10 + 256 * bt s 11) / 256 = bt s 11 by omega, show (bt s 12 + 256 * bt s 13) % 256 = bt s 12 by omega, show (bt s 12 + 256 * bt s 13) / 256 = bt s 13 by omega]
      rw [this, str_nums]
end Go.Proofs.Ytebaepkghbihkaa.desc
