/- LaneBits: the walk. -/
import Derived.Test.YtbpkmlgamlgicaaLaneU
namespace Go.Proofs.Ytbpkmlgamlgicaa.laneBits
open Go.RowKit Go.PlainAid Go.Proofs.Ytbpkmlgamlgicaa.lane

set_option linter.unusedVariables false
set_option maxHeartbeats 2000000 in
theorem walk (a0 : ByteArray) (a1 : ByteArray) (w0 : a0.size ≤ maxLen) (w1 : a1.size ≤ maxLen) (hs0 : a0.size ≤ 1048576) (hs1 : a1.size ≤ 1048576) (w : World) :
    Calls Try.prog 4 #[.string a0, .string a1] w fun e w' => e = .returned (.bool true) ∧ Below w.heap.size w w' := by
  clear w0 w1
  go_enter Try.func4, Try.ntmps4
  go_wp2_with fail
  cases hr : rowB (nums a1)
  · refine (bytes_no a1 _ (by omega) hr).mono ?_
    rintro e u1 ⟨rfl, hb1⟩
    go_wp2_with fail
    refine (rbytes_no a1 _ (by omega) hr).mono ?_
    rintro e u2 ⟨rfl, hb2⟩
    go_wp2_with fail
    refine (bits_any a0 _ (by omega)).mono ?_
    rintro e u3 ⟨rfl, hb3⟩
    go_wp2_with fail
    refine (rbits_any a0 _ (by omega)).mono ?_
    rintro e u4 ⟨rfl, hb4⟩
    go_wp2
    go_ret
    exact ⟨rfl, bseq (bseq (bseq hb1 hb2) hb3) hb4⟩
  · by_cases hn : a1.size % 8 = 0
    · have HN : Hid (a1.size % 8 = 0) := hn
      clear hn
      refine (bytes_ok a1 _ (by omega) hr HN.out).mono ?_
      rintro e u1 ⟨rfl, hb1⟩
      go_wp2_with fail
      refine (rbytes_ok a1 _ (by omega) hr HN.out).mono ?_
      rintro e u2 ⟨rfl, hb2⟩
      go_wp2_with fail
      refine (bits_any a0 _ (by omega)).mono ?_
      rintro e u3 ⟨rfl, hb3⟩
      go_wp2_with fail
      refine (rbits_any a0 _ (by omega)).mono ?_
      rintro e u4 ⟨rfl, hb4⟩
      go_wp2
      go_ret
      exact ⟨rfl, bseq (bseq (bseq hb1 hb2) hb3) hb4⟩
    · have HN : Hid (¬ a1.size % 8 = 0) := hn
      clear hn
      refine (bytes_odd a1 _ (by omega) hr HN.out).mono ?_
      rintro e u1 ⟨rfl, hb1⟩
      go_wp2_with fail
      refine (rbytes_odd a1 _ (by omega) hr HN.out).mono ?_
      rintro e u2 ⟨rfl, hb2⟩
      go_wp2_with fail
      refine (bits_any a0 _ (by omega)).mono ?_
      rintro e u3 ⟨rfl, hb3⟩
      go_wp2_with fail
      refine (rbits_any a0 _ (by omega)).mono ?_
      rintro e u4 ⟨rfl, hb4⟩
      go_wp2
      go_ret
      exact ⟨rfl, bseq (bseq (bseq hb1 hb2) hb3) hb4⟩
end Go.Proofs.Ytbpkmlgamlgicaa.laneBits
