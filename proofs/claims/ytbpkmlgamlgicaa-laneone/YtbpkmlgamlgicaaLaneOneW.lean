/- LaneOne: the walk. -/
import Derived.Test.YtbpkmlgamlgicaaLaneF
namespace Go.Proofs.Ytbpkmlgamlgicaa.laneOne
open Go.RowKit Go.PlainAid Go.Proofs.Ytbpkmlgamlgicaa.lane

theorem text_one (s : ByteArray) (h : rowB (nums s) = true) (hn : s.size % 8 = 0) : strOfNums (bitsL (nums (strOfNums (bytesL (nums s))))) = s := by
  rw [nums_str _ (byt_bytes _ h), bits_bytes (s.size / 8) _ (by rw [nums_length]; omega) h, str_nums]
theorem row_one (s : ByteArray) (h : rowB (nums s) = true) (hc : (unstuffL 0 (nums s)).1 = 0) :
    strOfNums (stuffL 0 (nums (strOfNums (unstuffS (nums s))))) = s ∧ rowB (nums (strOfNums (unstuffS (nums s)))) = true ∧ (strOfNums (unstuffS (nums s))).size ≤ s.size := by
  obtain ⟨e, er⟩ := (stuff_unstuff (nums s) h).1 0 (by omega) hc
  have eu : unstuffS (nums s) = (unstuffL 0 (nums s)).2 := by unfold unstuffS; rw [if_pos hc]
  rw [eu, nums_str _ (byt_row er), e, str_nums, str_size]
  refine ⟨rfl, er, ?_⟩
  have := unstuffL_length 0 (nums s)
  rw [nums_length] at this
  exact this
theorem levels_one (c : Int) (s : ByteArray) (hc : lev c = true) (h : levB (nums s) = true) : strOfNums (turnL c (nums (strOfNums (unturnL c (nums s))))) = s := by
  rw [nums_unturn, turn_unturn c _ hc h, str_nums]

set_option linter.unusedVariables false
set_option maxHeartbeats 2000000 in
theorem walk (a0 : ByteArray) (a1 : ByteArray) (a2 : Int) (w0 : a0.size ≤ maxLen) (w1 : a1.size ≤ maxLen) (w2 : (Lit.int .u8 a2).wf = true) (hs0 : a0.size ≤ 140737488351232) (hs1 : a1.size ≤ 140737488351232) (w : World) :
    Calls Try.prog 7 #[.string a0, .string a1, .int .u8 a2] w fun e w' => e = .returned (.bool true) ∧ Below w.heap.size w w' := by
  clear w0 w1 w2
  go_enter Try.func7, Try.ntmps7
  go_wp2_with fail
  refine (lives_any _).mono ?_
  rintro e u1 ⟨rfl, hb1⟩
  go_wp2_with fail
  cases hr : rowB (nums a0)
  · refine (bytes_no a0 _ (by omega) hr).mono ?_
    rintro e u2 ⟨rfl, hn⟩
    replace hb1 := bseq hb1 hn
    clear hn
    go_wp2_with fail
    refine (unstuff_no a0 _ (by omega) hr).mono ?_
    rintro e u3 ⟨rfl, hn⟩
    replace hb1 := bseq hb1 hn
    clear hn
    go_wp2_with fail
    cases hl : levB (nums a1) && lev a2
    · refine (unturn_no a1 a2 _ (by omega) (Bool.and_eq_false_iff.1 hl)).mono ?_
      rintro e u4 ⟨rfl, hn⟩
      replace hb1 := bseq hb1 hn
      go_wp2
      go_ret
      exact ⟨rfl, hb1⟩
    · have hl1 : levB (nums a1) = true := by simp at hl; exact hl.1
      have hl2 : lev a2 = true := by simp at hl; exact hl.2
      clear hl
      refine (unturn_ok a1 a2 _ (by omega) hl1 hl2).mono ?_
      rintro e u4 ⟨rfl, hn⟩
      replace hb1 := bseq hb1 hn
      clear hn
      have T : Hid (strOfNums (turnL a2 (nums (strOfNums (unturnL a2 (nums a1))))) = a1) := levels_one a2 a1 hl2 hl1
      go_wp2_with fail
      refine (turn_ok (strOfNums (unturnL a2 (nums a1))) a2 _ (by rw [str_size, unturnL_length, nums_length]; omega) (by rw [nums_unturn]; exact rowB_unturn _ _) hl2).mono ?_
      rintro e u5 ⟨rfl, hn⟩
      replace hb1 := bseq hb1 hn
      clear hn
      rw [T.out]
      clear T
      go_wp2
      go_ret
      exact ⟨rfl, hb1⟩
  · by_cases h8 : a0.size % 8 = 0
    · refine (bytes_ok a0 _ (by omega) hr h8).mono ?_
      rintro e u2 ⟨rfl, hn⟩
      replace hb1 := bseq hb1 hn
      clear hn
      have T : Hid (strOfNums (bitsL (nums (strOfNums (bytesL (nums a0))))) = a0) := text_one a0 hr h8
      go_wp2_with fail
      refine (bits_any (strOfNums (bytesL (nums a0))) _ (by rw [str_size, bytesL_length, nums_length]; omega)).mono ?_
      rintro e u2b ⟨rfl, hn⟩
      replace hb1 := bseq hb1 hn
      clear hn
      rw [T.out]
      clear T
      go_wp2_with fail
      by_cases hc : (unstuffL 0 (nums a0)).1 = 0
      · obtain ⟨R1, R2, R3⟩ := row_one a0 hr hc
        have HC : Hid ((unstuffL 0 (nums a0)).1 = 0) := hc
        have H1 : Hid (strOfNums (stuffL 0 (nums (strOfNums (unstuffS (nums a0))))) = a0) := R1
        have H2 : Hid (rowB (nums (strOfNums (unstuffS (nums a0)))) = true) := R2
        have H3 : Hid ((strOfNums (unstuffS (nums a0))).size ≤ a0.size) := R3
        clear hc R1 R2 R3
        refine (unstuff_ok a0 _ (by omega) hr).mono ?_
        rintro e u3 ⟨rfl, hn⟩
        replace hb1 := bseq hb1 hn
        clear hn
        rw [HC.out]
        go_wp2_with fail
        refine (stuff_ok (strOfNums (unstuffS (nums a0))) _ (by have := H3.out; omega) H2.out).mono ?_
        rintro e u3b ⟨rfl, hn⟩
        replace hb1 := bseq hb1 hn
        clear hn
        rw [H1.out]
        clear H1 H2 H3 HC
        go_wp2_with fail
        cases hl : levB (nums a1) && lev a2
        · refine (unturn_no a1 a2 _ (by omega) (Bool.and_eq_false_iff.1 hl)).mono ?_
          rintro e u4 ⟨rfl, hn⟩
          replace hb1 := bseq hb1 hn
          go_wp2
          go_ret
          exact ⟨rfl, hb1⟩
        · have hl1 : levB (nums a1) = true := by simp at hl; exact hl.1
          have hl2 : lev a2 = true := by simp at hl; exact hl.2
          clear hl
          refine (unturn_ok a1 a2 _ (by omega) hl1 hl2).mono ?_
          rintro e u4 ⟨rfl, hn⟩
          replace hb1 := bseq hb1 hn
          clear hn
          have T : Hid (strOfNums (turnL a2 (nums (strOfNums (unturnL a2 (nums a1))))) = a1) := levels_one a2 a1 hl2 hl1
          go_wp2_with fail
          refine (turn_ok (strOfNums (unturnL a2 (nums a1))) a2 _ (by rw [str_size, unturnL_length, nums_length]; omega) (by rw [nums_unturn]; exact rowB_unturn _ _) hl2).mono ?_
          rintro e u5 ⟨rfl, hn⟩
          replace hb1 := bseq hb1 hn
          clear hn
          rw [T.out]
          clear T
          go_wp2
          go_ret
          exact ⟨rfl, hb1⟩
      · refine (unstuff_ok a0 _ (by omega) hr).mono ?_
        rintro e u3 ⟨rfl, hn⟩
        replace hb1 := bseq hb1 hn
        clear hn
        have hc2 : ((unstuffL 0 (nums a0)).1 == 0) = false := by simpa using hc
        clear hc
        go_wp2_with fail
        cases hl : levB (nums a1) && lev a2
        · refine (unturn_no a1 a2 _ (by omega) (Bool.and_eq_false_iff.1 hl)).mono ?_
          rintro e u4 ⟨rfl, hn⟩
          replace hb1 := bseq hb1 hn
          go_wp2
          go_ret
          exact ⟨rfl, hb1⟩
        · have hl1 : levB (nums a1) = true := by simp at hl; exact hl.1
          have hl2 : lev a2 = true := by simp at hl; exact hl.2
          clear hl
          refine (unturn_ok a1 a2 _ (by omega) hl1 hl2).mono ?_
          rintro e u4 ⟨rfl, hn⟩
          replace hb1 := bseq hb1 hn
          clear hn
          have T : Hid (strOfNums (turnL a2 (nums (strOfNums (unturnL a2 (nums a1))))) = a1) := levels_one a2 a1 hl2 hl1
          go_wp2_with fail
          refine (turn_ok (strOfNums (unturnL a2 (nums a1))) a2 _ (by rw [str_size, unturnL_length, nums_length]; omega) (by rw [nums_unturn]; exact rowB_unturn _ _) hl2).mono ?_
          rintro e u5 ⟨rfl, hn⟩
          replace hb1 := bseq hb1 hn
          clear hn
          rw [T.out]
          clear T
          go_wp2
          go_ret
          exact ⟨rfl, hb1⟩
    · refine (bytes_odd a0 _ (by omega) hr h8).mono ?_
      rintro e u2 ⟨rfl, hn⟩
      replace hb1 := bseq hb1 hn
      clear hn
      go_wp2_with fail
      by_cases hc : (unstuffL 0 (nums a0)).1 = 0
      · obtain ⟨R1, R2, R3⟩ := row_one a0 hr hc
        have HC : Hid ((unstuffL 0 (nums a0)).1 = 0) := hc
        have H1 : Hid (strOfNums (stuffL 0 (nums (strOfNums (unstuffS (nums a0))))) = a0) := R1
        have H2 : Hid (rowB (nums (strOfNums (unstuffS (nums a0)))) = true) := R2
        have H3 : Hid ((strOfNums (unstuffS (nums a0))).size ≤ a0.size) := R3
        clear hc R1 R2 R3
        refine (unstuff_ok a0 _ (by omega) hr).mono ?_
        rintro e u3 ⟨rfl, hn⟩
        replace hb1 := bseq hb1 hn
        clear hn
        rw [HC.out]
        go_wp2_with fail
        refine (stuff_ok (strOfNums (unstuffS (nums a0))) _ (by have := H3.out; omega) H2.out).mono ?_
        rintro e u3b ⟨rfl, hn⟩
        replace hb1 := bseq hb1 hn
        clear hn
        rw [H1.out]
        clear H1 H2 H3 HC
        go_wp2_with fail
        cases hl : levB (nums a1) && lev a2
        · refine (unturn_no a1 a2 _ (by omega) (Bool.and_eq_false_iff.1 hl)).mono ?_
          rintro e u4 ⟨rfl, hn⟩
          replace hb1 := bseq hb1 hn
          go_wp2
          go_ret
          exact ⟨rfl, hb1⟩
        · have hl1 : levB (nums a1) = true := by simp at hl; exact hl.1
          have hl2 : lev a2 = true := by simp at hl; exact hl.2
          clear hl
          refine (unturn_ok a1 a2 _ (by omega) hl1 hl2).mono ?_
          rintro e u4 ⟨rfl, hn⟩
          replace hb1 := bseq hb1 hn
          clear hn
          have T : Hid (strOfNums (turnL a2 (nums (strOfNums (unturnL a2 (nums a1))))) = a1) := levels_one a2 a1 hl2 hl1
          go_wp2_with fail
          refine (turn_ok (strOfNums (unturnL a2 (nums a1))) a2 _ (by rw [str_size, unturnL_length, nums_length]; omega) (by rw [nums_unturn]; exact rowB_unturn _ _) hl2).mono ?_
          rintro e u5 ⟨rfl, hn⟩
          replace hb1 := bseq hb1 hn
          clear hn
          rw [T.out]
          clear T
          go_wp2
          go_ret
          exact ⟨rfl, hb1⟩
      · refine (unstuff_ok a0 _ (by omega) hr).mono ?_
        rintro e u3 ⟨rfl, hn⟩
        replace hb1 := bseq hb1 hn
        clear hn
        have hc2 : ((unstuffL 0 (nums a0)).1 == 0) = false := by simpa using hc
        clear hc
        go_wp2_with fail
        cases hl : levB (nums a1) && lev a2
        · refine (unturn_no a1 a2 _ (by omega) (Bool.and_eq_false_iff.1 hl)).mono ?_
          rintro e u4 ⟨rfl, hn⟩
          replace hb1 := bseq hb1 hn
          go_wp2
          go_ret
          exact ⟨rfl, hb1⟩
        · have hl1 : levB (nums a1) = true := by simp at hl; exact hl.1
          have hl2 : lev a2 = true := by simp at hl; exact hl.2
          clear hl
          refine (unturn_ok a1 a2 _ (by omega) hl1 hl2).mono ?_
          rintro e u4 ⟨rfl, hn⟩
          replace hb1 := bseq hb1 hn
          clear hn
          have T : Hid (strOfNums (turnL a2 (nums (strOfNums (unturnL a2 (nums a1))))) = a1) := levels_one a2 a1 hl2 hl1
          go_wp2_with fail
          refine (turn_ok (strOfNums (unturnL a2 (nums a1))) a2 _ (by rw [str_size, unturnL_length, nums_length]; omega) (by rw [nums_unturn]; exact rowB_unturn _ _) hl2).mono ?_
          rintro e u5 ⟨rfl, hn⟩
          replace hb1 := bseq hb1 hn
          clear hn
          rw [T.out]
          clear T
          go_wp2
          go_ret
          exact ⟨rfl, hb1⟩
end Go.Proofs.Ytbpkmlgamlgicaa.laneOne
