/- LaneBack: the walk. -/
import Derived.Test.YtbpkmlgamlgicaaLaneF
namespace Go.Proofs.Ytbpkmlgamlgicaa.laneBack
open Go.RowKit Go.PlainAid Go.Proofs.Ytbpkmlgamlgicaa.lane

set_option linter.unusedVariables false
set_option maxHeartbeats 2000000 in
theorem walk (a0 : ByteArray) (a1 : ByteArray) (a2 : Int) (w0 : a0.size ≤ maxLen) (w1 : a1.size ≤ maxLen) (w2 : (Lit.int .u8 a2).wf = true) (hs0 : a0.size ≤ 1048576) (hs1 : a1.size ≤ 1048576) (w : World) :
    Calls Try.prog 6 #[.string a0, .string a1, .int .u8 a2] w fun e w' => e = .returned (.bool true) ∧ Below w.heap.size w w' := by
  clear w0 w1 w2
  have z1 : (strOfNums (bitsL (nums a0))).size = 8 * a0.size := by rw [str_size, bitsL_length, nums_length]
  have Z1 : Hid ((strOfNums (bitsL (nums a0))).size = 8 * a0.size) := z1
  clear z1
  have T1 : Hid (strOfNums (bytesL (nums (strOfNums (bitsL (nums a0))))) = a0) := text_back a0
  go_enter Try.func6, Try.ntmps6
  go_wp2_with fail
  refine (bits_any a0 _ (by omega)).mono ?_
  rintro e u1 ⟨rfl, hb1⟩
  go_wp2_with fail
  refine (bytes_ok (strOfNums (bitsL (nums a0))) _ (by rw [Z1.out]; omega) (by rw [nums_bits]; exact rowB_bits _) (by rw [Z1.out]; omega)).mono ?_
  rintro e u2 ⟨rfl, hb2⟩
  rw [T1.out]
  clear Z1 T1
  go_wp2_with fail
  refine (lives_any _).mono ?_
  rintro e u3 ⟨rfl, hb3⟩
  go_wp2_with fail
  cases hr : rowB (nums a1)
  · refine (stuff_no a1 _ (by omega) hr).mono ?_
    rintro e u4 ⟨rfl, hb4⟩
    go_wp2
    go_ret
    exact ⟨rfl, bseq (bseq (bseq hb1 hb2) hb3) hb4⟩
  · refine (stuff_ok a1 _ (by omega) hr).mono ?_
    rintro e u4 ⟨rfl, hb4⟩
    have R1 := row_back a1 hr
    have Z2 : Hid ((strOfNums (stuffL 0 (nums a1))).size ≤ 2 * a1.size) := by
      have := stuffL_length 0 (nums a1) (by omega)
      rw [nums_length] at this
      show _ ≤ _
      rw [str_size]; omega
    have R1a : Hid (strOfNums (unstuffS (nums (strOfNums (stuffL 0 (nums a1))))) = a1) := R1.1
    have R1b : Hid ((unstuffL 0 (nums (strOfNums (stuffL 0 (nums a1))))).1 = 0) := R1.2
    clear R1
    go_wp2_with fail
    refine (unstuff_ok (strOfNums (stuffL 0 (nums a1))) _ (by have := Z2.out; omega) (by rw [nums_stuff a1 hr]; exact rowB_stuff _ _ hr)).mono ?_
    rintro e u5 ⟨rfl, hb5⟩
    rw [R1a.out, R1b.out]
    clear R1a R1b Z2
    go_wp2_with fail
    cases hl : lev a2
    · have hn := hl
      simp [lev] at hn
      have h1 : (a2 != 74) = true := by simpa using hn.1
      have h2 : (a2 != 75) = true := by simpa using hn.2
      clear hn
      refine (turn_no a1 a2 _ (by omega) (.inr hl)).mono ?_
      rintro e u6 ⟨rfl, hb6⟩
      go_wp2
      go_ret
      exact ⟨rfl, bseq (bseq (bseq (bseq (bseq hb1 hb2) hb3) hb4) hb5) hb6⟩
    · refine (turn_ok a1 a2 _ (by omega) hr hl).mono ?_
      rintro e u6 ⟨rfl, hb6⟩
      have L1 : Hid (strOfNums (unturnL a2 (nums (strOfNums (turnL a2 (nums a1))))) = a1) := levels_back a2 a1 hl hr
      go_wp2_with fail
      refine (unturn_ok (strOfNums (turnL a2 (nums a1))) a2 _ (by rw [str_size, turnL_length, nums_length]; omega) (by rw [nums_turn a2 a1 hl]; exact levB_turn _ _ hl) hl).mono ?_
      rintro e u7 ⟨rfl, hb7⟩
      rw [L1.out]
      clear L1
      go_wp2
      go_ret
      exact ⟨rfl, bseq (bseq (bseq (bseq (bseq (bseq hb1 hb2) hb3) hb4) hb5) hb6) hb7⟩
end Go.Proofs.Ytbpkmlgamlgicaa.laneBack
