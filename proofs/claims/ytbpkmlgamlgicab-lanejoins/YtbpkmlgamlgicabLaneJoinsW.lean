/- LaneJoins: the walk. -/
import Derived.Test.YtbpkmlgamlgicabLaneF
namespace Go.Proofs.Ytbpkmlgamlgicab.laneJoins
open Go.RowKit Go.PlainAid Go.Proofs.Ytbpkmlgamlgicab.lane

theorem turnL_zero (c : Int) (r : List Int) : turnL c (48 :: r) = oth c :: turnL (oth c) r := by simp [turnL]
theorem turnL_other (c x : Int) (r : List Int) (h : ¬ x = 48) : turnL c (x :: r) = c :: turnL c r := by simp [turnL, h]
theorem last_cons (x c : Int) (l : List Int) : (x :: l).getLast?.getD c = l.getLast?.getD x := by
  cases l with
  | nil => rfl
  | cons y q => rw [List.getLast?_cons_cons]; simp [List.getLast?_cons]
theorem turnL_append (c : Int) (a b : List Int) : turnL c (a ++ b) = turnL c a ++ turnL ((turnL c a).getLast?.getD c) b := by
  induction a generalizing c with
  | nil => rfl
  | cons x r ih =>
    rw [List.cons_append]
    by_cases h : x = 48
    · subst h
      rw [turnL_zero, turnL_zero, ih, List.cons_append, last_cons]
    · rw [turnL_other _ _ _ h, turnL_other _ _ _ h, ih, List.cons_append, last_cons]
/-- the last level, as the program reads it -/
theorem last_bt (s : ByteArray) (c : Int) (h : 0 < s.size) : (nums s).getLast?.getD c = bt s (s.size - 1) := by
  rw [bt_nums s _ (by omega), List.getLast?_eq_getElem?, nums_length]
  have : s.size - 1 < (nums s).length := by rw [nums_length]; omega
  simp [List.getD, List.getElem?_eq_getElem this]
theorem lev_bt (s : ByteArray) (h : levB (nums s) = true) (k : Nat) (hk : k < s.size) : lev (bt s k) = true := by
  unfold levB at h
  rw [List.all_eq_true] at h
  rw [← nums_get s k hk]
  exact h _ (List.getElem_mem _)
theorem joined (c : Int) (a b : ByteArray) (hc : lev c = true) (h : 0 < a.size) :
    strOfNums (turnL c (nums (a ++ b))) = strOfNums (turnL c (nums a)) ++ strOfNums (turnL (bt (strOfNums (turnL c (nums a))) ((strOfNums (turnL c (nums a))).size - 1)) (nums b)) := by
  rw [nums_append, turnL_append, str_append, ← last_bt _ c (by rw [str_size, turnL_length, nums_length]; exact h), nums_turn c a hc]

set_option linter.unusedVariables false
set_option maxHeartbeats 2000000 in
theorem walk (a0 : ByteArray) (a1 : ByteArray) (a2 : Int) (w0 : a0.size ≤ maxLen) (w1 : a1.size ≤ maxLen) (w2 : (Lit.int .u8 a2).wf = true) (hs0 : a0.size ≤ 140737488351232) (hs1 : a1.size ≤ 140737488351232) (w : World) :
    Calls Try.prog 5 #[.string a0, .string a1, .int .u8 a2] w fun e w' => e = .returned (.bool true) ∧ Below w.heap.size w w' := by
  clear w0 w1 w2
  go_enter Try.func5, Try.ntmps5
  go_wp2_with fail
  cases hr : rowB (nums a0) && lev a2
  · refine (turn_no a0 a2 _ (by omega) (Bool.and_eq_false_iff.1 hr)).mono ?_
    rintro e u1 ⟨rfl, hb1⟩
    clear hr
    go_wp2_with fail
    refine (lives_any _).mono ?_
    rintro e u2 ⟨rfl, hb2⟩
    go_wp2_with fail
    refine (lives_any _).mono ?_
    rintro e u3 ⟨rfl, hb3⟩
    go_wp2
    go_ret
    exact ⟨rfl, bseq (bseq hb1 hb2) hb3⟩
  · have hr1 : rowB (nums a0) = true := by simp at hr; exact hr.1
    have hr2 : lev a2 = true := by simp at hr; exact hr.2
    clear hr
    refine (turn_ok a0 a2 _ (by omega) hr1 hr2).mono ?_
    rintro e u1 ⟨rfl, hb1⟩
    go_wp2_with fail
    refine (lives_any _).mono ?_
    rintro e u2 ⟨rfl, hb2⟩
    by_cases hz : a0.size = 0
    · have h0 : nums a0 = [] := List.eq_nil_of_length_eq_zero (by rw [nums_length]; exact hz)
      have e0 : strOfNums (turnL a2 (nums a0)) = ⟨#[]⟩ := by rw [h0]; rfl
      have en : nums (a0 ++ a1) = nums a1 := by rw [nums_append, h0]; rfl
      have EN : Hid (nums (a0 ++ a1) = nums a1) := en
      have hsz : (a0 ++ a1).size = a0.size + a1.size := ByteArray.size_append
      have HZ : Hid ((a0 ++ a1).size = a0.size + a1.size) := hsz
      rw [e0]
      clear h0 e0 en hz hsz
      go_wp2_with fail
      cases hq : rowB (nums a1)
      · refine (turn_no a1 a2 _ (by omega) (.inl hq)).mono ?_
        rintro e u3 ⟨rfl, hb3⟩
        go_wp2_with fail
        refine (turn_no (a0 ++ a1) a2 _ (by rw [HZ.out]; omega) (.inl (by rw [EN.out]; exact hq))).mono ?_
        rintro e u4 ⟨rfl, hb4⟩
        go_wp2
        go_ret
        exact ⟨rfl, bseq (bseq (bseq hb1 hb2) hb3) hb4⟩
      · refine (turn_ok a1 a2 _ (by omega) hq hr2).mono ?_
        rintro e u3 ⟨rfl, hb3⟩
        go_wp2_with fail
        refine (turn_ok (a0 ++ a1) a2 _ (by rw [HZ.out]; omega) (by rw [EN.out]; exact hq) hr2).mono ?_
        rintro e u4 ⟨rfl, hb4⟩
        rw [EN.out]
        have hm : (strOfNums (turnL a2 (nums a1))).size = a1.size := by rw [str_size, turnL_length, nums_length]
        obtain ⟨mv, hmv⟩ : ∃ mv, strOfNums (turnL a2 (nums a1)) = mv := ⟨_, rfl⟩
        rw [hmv] at hm ⊢
        have hm1 : mv.size ≤ 140737488351232 := by omega
        have em : (⟨#[]⟩ : ByteArray) ++ mv = mv := by
          apply ByteArray.ext; rw [ByteArray.data_append]; simp
        clear hm hmv
        go_wp2
        go_ret
        exact ⟨rfl, bseq (bseq (bseq hb1 hb2) hb3) hb4⟩
    · have hj := joined a2 a0 a1 hr2 (by omega)
      have hlev := levB_turn a2 (nums a0) hr2
      rw [← nums_turn a2 a0 hr2] at hlev
      have hl : (strOfNums (turnL a2 (nums a0))).size = a0.size := by rw [str_size, turnL_length, nums_length]
      obtain ⟨lv, hlv⟩ : ∃ lv, strOfNums (turnL a2 (nums a0)) = lv := ⟨_, rfl⟩
      rw [hlv] at hj hlev hl ⊢
      have hl1 : lv.size ≤ 140737488351232 := by omega
      have hl2 : 1 ≤ lv.size := by omega
      have hfull := str_full lv (by omega)
      have hbl := get_bt lv
      have hd := lev_bt lv hlev (lv.size - 1) (by omega)
      have HD : Hid (lev (bt lv (lv.size - 1)) = true) := hd
      have HJ : Hid (strOfNums (turnL a2 (nums (a0 ++ a1))) = lv ++ strOfNums (turnL (bt lv (lv.size - 1)) (nums a1))) := hj
      have hsz : (a0 ++ a1).size = a0.size + a1.size := ByteArray.size_append
      have HZ : Hid ((a0 ++ a1).size = a0.size + a1.size) := hsz
      have H1 : Hid (rowB (nums a0) = true) := hr1
      have gi : (lv.size : Int) - 1 < (lv.size : Int) := by omega
      clear hj hlev hl hlv hd hsz hz hr1
      go_wp2_with fail
      cases hq : rowB (nums a1)
      · refine (turn_no a1 (bt lv (lv.size - 1)) _ (by omega) (.inl hq)).mono ?_
        rintro e u3 ⟨rfl, hb3⟩
        go_wp2_with fail
        refine (turn_no (a0 ++ a1) a2 _ (by rw [HZ.out]; omega) (.inl (by rw [nums_append, rowB_append, hq]; simp))).mono ?_
        rintro e u4 ⟨rfl, hb4⟩
        go_wp2
        go_ret
        exact ⟨rfl, bseq (bseq (bseq hb1 hb2) hb3) hb4⟩
      · refine (turn_ok a1 (bt lv (lv.size - 1)) _ (by omega) hq HD.out).mono ?_
        rintro e u3 ⟨rfl, hb3⟩
        go_wp2_with fail
        refine (turn_ok (a0 ++ a1) a2 _ (by rw [HZ.out]; omega) (by rw [nums_append, rowB_append, hq, H1.out]; rfl) hr2).mono ?_
        rintro e u4 ⟨rfl, hb4⟩
        rw [HJ.out]
        have hm : (strOfNums (turnL (bt lv (lv.size - 1)) (nums a1))).size = a1.size := by rw [str_size, turnL_length, nums_length]
        obtain ⟨mv, hmv⟩ : ∃ mv, strOfNums (turnL (bt lv (lv.size - 1)) (nums a1)) = mv := ⟨_, rfl⟩
        rw [hmv] at hm ⊢
        have hm1 : mv.size ≤ 140737488351232 := by omega
        clear hm hmv HJ
        go_wp2
        go_ret
        exact ⟨rfl, bseq (bseq (bseq hb1 hb2) hb3) hb4⟩
end Go.Proofs.Ytbpkmlgamlgicab.laneJoins
