/- laneLives answers true. -/
import Derived.Test.YtbpkmlgamlgicabLaneD
import Derived.Test.YtbpkmlgamlgicabLaneN
namespace Go.Proofs.Ytbpkmlgamlgicab.lane
open Go.RowKit Go.PlainAid

theorem bseq {w w1 w2 : World} (h1 : Below w.heap.size w w1) (h2 : Below w1.heap.size w1 w2) : Below w.heap.size w w2 := h1.trans (h2.mono h1.size)
/-- behind Bits, Bytes gives the text back -/
theorem text_back (s : ByteArray) : strOfNums (bytesL (nums (strOfNums (bitsL (nums s))))) = s := by
  rw [nums_str _ (byt_row (rowB_bits _)), bytes_bits _ (nums_byt s), str_nums]
theorem nums_bits (s : ByteArray) : nums (strOfNums (bitsL (nums s))) = bitsL (nums s) := nums_str _ (byt_row (rowB_bits _))
theorem nums_stuff (s : ByteArray) (h : rowB (nums s) = true) : nums (strOfNums (stuffL 0 (nums s))) = stuffL 0 (nums s) := nums_str _ (byt_row (rowB_stuff _ _ h))
theorem nums_turn (c : Int) (s : ByteArray) (h : lev c = true) : nums (strOfNums (turnL c (nums s))) = turnL c (nums s) := nums_str _ (byt_lev (levB_turn _ _ h))
theorem nums_unturn (c : Int) (s : ByteArray) : nums (strOfNums (unturnL c (nums s))) = unturnL c (nums s) := nums_str _ (byt_row (rowB_unturn _ _))
theorem row_back (s : ByteArray) (h : rowB (nums s) = true) : strOfNums (unstuffS (nums (strOfNums (stuffL 0 (nums s))))) = s ∧ (unstuffL 0 (nums (strOfNums (stuffL 0 (nums s))))).1 = 0 := by
  rw [nums_stuff s h, unstuffS, unstuff_stuff 0 _ (by omega) h]
  exact ⟨str_nums s, rfl⟩
theorem levels_back (c : Int) (s : ByteArray) (hc : lev c = true) (h : rowB (nums s) = true) : strOfNums (unturnL c (nums (strOfNums (turnL c (nums s))))) = s := by
  rw [nums_turn c s hc, unturn_turn c _ hc h, str_nums]

set_option maxRecDepth 100000 in
set_option maxHeartbeats 1000000 in
theorem lives_any (w : World) :
    Calls Try.prog 9 #[] w fun e w' => e = .returned (.bool true) ∧ Below w.heap.size w w' := by
  have e1 : strOfNums (stuffL 0 (nums ⟨#[49, 49, 49, 49, 49, 49, 49, 48]⟩)) = ⟨#[49, 49, 49, 49, 49, 49, 48, 49, 48]⟩ := by decide +kernel
  have e2 : strOfNums (turnL 74 (nums ⟨#[48, 48, 49, 48]⟩)) = ⟨#[75, 74, 74, 75]⟩ := by decide +kernel
  have e3 : strOfNums (bitsL (nums ⟨#[97]⟩)) = ⟨#[49, 48, 48, 48, 48, 49, 49, 48]⟩ := by decide +kernel
  go_enter Try.func9, Try.ntmps9
  go_wp2_with fail
  refine (stuff_ok ⟨#[49, 49, 49, 49, 49, 49, 49, 48]⟩ _ (by decide) (by decide)).mono ?_
  rintro e w1 ⟨rfl, hb1⟩
  rw [e1]
  go_wp2_with fail
  refine (turn_ok ⟨#[48, 48, 49, 48]⟩ 74 _ (by decide) (by decide) (by decide)).mono ?_
  rintro e w2 ⟨rfl, hb2⟩
  rw [e2]
  go_wp2_with fail
  refine (bits_any ⟨#[97]⟩ _ (by decide)).mono ?_
  rintro e w3 ⟨rfl, hb3⟩
  rw [e3]
  go_wp2
  go_ret
  exact ⟨rfl, bseq (bseq hb1 hb2) hb3⟩
end Go.Proofs.Ytbpkmlgamlgicab.lane
