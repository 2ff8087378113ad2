/- LaneLong: the walk. -/
import Derived.Test.YtbpkmlgamlgicabLaneH
namespace Go.Proofs.Ytbpkmlgamlgicab.laneLong
open Go.RowKit Go.PlainAid Go.Proofs.Ytbpkmlgamlgicab.lane

theorem count_stuff (o : Nat) (l : List Int) : (stuffL o l).count 49 = l.count 49 := by
  induction l generalizing o with
  | nil => rfl
  | cons x r ih =>
    by_cases h : x = 49
    · subst h
      by_cases h5 : o = 5
      · subst h5
        rw [stuffL_six, List.count_cons, List.count_cons, List.count_cons, ih]; simp
      · rw [stuffL_one _ _ h5, List.count_cons, List.count_cons, ih]
    · rw [stuffL_not _ _ _ h, List.count_cons, List.count_cons, ih]
theorem stuff_ge (o : Nat) (l : List Int) : l.length ≤ (stuffL o l).length := by
  induction l generalizing o with
  | nil => simp
  | cons x r ih =>
    unfold stuffL
    split
    · split
      · have := ih 0; simp only [List.length_cons]; omega
      · have := ih (o + 1); simp only [List.length_cons]; omega
    · have := ih 0; simp only [List.length_cons]; omega
theorem stuff_ones (o : Nat) (l : List Int) (ho : o ≤ 5) (h : ∀ x ∈ l, x = 49) : (stuffL o l).length = l.length + (l.length + o) / 6 := by
  induction l generalizing o with
  | nil => simp [stuffL]; omega
  | cons x r ih =>
    have hx := h x (by simp)
    have hr : ∀ y ∈ r, y = 49 := fun y hy => h y (by simp [hy])
    subst hx
    by_cases h5 : o = 5
    · subst h5
      have := ih 0 (by omega) hr
      rw [stuffL_six]; simp only [List.length_cons]; omega
    · have := ih (o + 1) (by omega) hr
      rw [stuffL_one _ _ h5]; simp only [List.length_cons]; omega
theorem all_ones (l : List Int) (h : rowB l = true) (h0 : ¬ (48 : Int) ∈ l) : ∀ x ∈ l, x = 49 := by
  intro x hx
  unfold rowB at h
  rw [List.all_eq_true] at h
  have := h x hx
  simp at this
  rcases this with rfl | rfl
  · exact absurd hx h0
  · rfl

set_option linter.unusedVariables false
set_option maxHeartbeats 2000000 in
theorem walk (a0 : ByteArray) (w0 : a0.size ≤ maxLen) (hs0 : a0.size ≤ 140737488351232) (w : World) :
    Calls Try.prog 4 #[.string a0] w fun e w' => e = .returned (.bool true) ∧ Below w.heap.size w w' := by
  clear w0
  go_enter Try.func4, Try.ntmps4
  go_wp2_with fail
  cases hr : rowB (nums a0)
  · refine (stuff_no a0 _ (by omega) hr).mono ?_
    rintro e u1 ⟨rfl, hb1⟩
    go_wp2_with fail
    refine (lives_any _).mono ?_
    rintro e u2 ⟨rfl, hb2⟩
    go_wp2_with fail
    refine (lives_any _).mono ?_
    rintro e u3 ⟨rfl, hb3⟩
    go_wp2
    go_ret
    exact ⟨rfl, bseq (bseq hb1 hb2) hb3⟩
  · refine (stuff_ok a0 _ (by omega) hr).mono ?_
    rintro e u1 ⟨rfl, hb1⟩
    have hcount : Lib.countByte (strOfNums (stuffL 0 (nums a0))).data.toList 49 = Lib.countByte a0.data.toList 49 := by
      rw [count_nums, count_nums, nums_stuff a0 hr]; exact count_stuff 0 _
    have hz : (strOfNums (stuffL 0 (nums a0))).size = (stuffL 0 (nums a0)).length := str_size _
    have hge := stuff_ge 0 (nums a0)
    have hle := stuffL_length 0 (nums a0) (by omega)
    rw [nums_length] at hge hle
    have hone : ¬ 0 ≤ Lib.indexByte a0.data.toList 48 → (stuffL 0 (nums a0)).length = a0.size + a0.size / 6 := by
      intro h
      have h0 : ¬ (48 : Int) ∈ nums a0 := fun hm => h ((index_mem _ _).1.2 ((mem_nums a0 48).2 hm))
      have := stuff_ones 0 (nums a0) (by omega) (all_ones _ hr h0)
      rw [nums_length] at this
      simpa using this
    rw [← hz] at hge hle hone
    obtain ⟨av, hav⟩ : ∃ av, strOfNums (stuffL 0 (nums a0)) = av := ⟨_, rfl⟩
    rw [hav] at hcount hge hle hone ⊢
    have hle2 : av.size ≤ a0.size + a0.size / 6 := by omega
    have HC : Hid (Lib.countByte av.data.toList 49 = Lib.countByte a0.data.toList 49) := hcount
    have HO : Hid (¬ 0 ≤ Lib.indexByte a0.data.toList 48 → av.size = a0.size + a0.size / 6) := hone
    clear hcount hz hle hone hav hr
    go_wp2_with fail
    refine (lives_any _).mono ?_
    rintro e u2 ⟨rfl, hb2⟩
    replace hb1 := bseq hb1 hb2
    clear hb2
    go_wp2_with fail
    refine (count_one av 49 _).mono ?_
    rintro e u3 ⟨rfl, rfl⟩
    rw [HC.out]
    go_wp2_with fail
    refine (count_one a0 49 _).mono ?_
    rintro e u4 ⟨rfl, rfl⟩
    obtain ⟨n, hn⟩ : ∃ n, Lib.countByte a0.data.toList 49 = n := ⟨_, rfl⟩
    rw [hn]
    clear hn HC
    go_wp2_with fail
    refine (contains_one a0 48 _).mono ?_
    rintro e u5 ⟨rfl, rfl⟩
    by_cases hi : 0 ≤ Lib.indexByte a0.data.toList 48
    · have hd : decide (0 ≤ Lib.indexByte a0.data.toList 48) = true := by simpa using hi
      rw [hd]
      clear hd hi HO
      go_wp2
      go_ret
      exact ⟨rfl, hb1⟩
    · have hd : decide (0 ≤ Lib.indexByte a0.data.toList 48) = false := by simpa using hi
      have he := HO.out (by omega)
      have he2 : ((av.size : Int) - (a0.size : Int) == (a0.size : Int) / 6) = true := by simp; omega
      rw [hd]
      clear hd hi HO he
      go_wp2
      go_ret
      exact ⟨rfl, hb1⟩
end Go.Proofs.Ytbpkmlgamlgicab.laneLong
