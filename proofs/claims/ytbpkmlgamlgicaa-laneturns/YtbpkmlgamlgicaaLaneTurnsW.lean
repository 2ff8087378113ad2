/- LaneTurns: the walk. -/
import Derived.Test.YtbpkmlgamlgicaaLaneT
namespace Go.Proofs.Ytbpkmlgamlgicaa.laneTurns
open Go.RowKit Go.PlainAid Go.Proofs.Ytbpkmlgamlgicaa.lane

set_option linter.unusedVariables false
set_option maxHeartbeats 2000000 in
theorem walk (a0 : ByteArray) (a1 : ByteArray) (a2 : Int) (w0 : a0.size ≤ maxLen) (w1 : a1.size ≤ maxLen) (w2 : (Lit.int .u8 a2).wf = true) (hs0 : a0.size ≤ 140737488351232) (hs1 : a1.size ≤ 140737488351232) (w : World) :
    Calls Try.prog 5 #[.string a0, .string a1, .int .u8 a2] w fun e w' => e = .returned (.bool true) ∧ Below w.heap.size w w' := by
  clear w0 w1 w2
  go_enter Try.func5, Try.ntmps5
  go_wp2_with fail
  cases hr : rowB (nums a0) && lev a2
  · have hn := Bool.and_eq_false_iff.1 hr
    refine (turn_no a0 a2 _ (by omega) hn).mono ?_
    rintro e u1 ⟨rfl, hb1⟩
    have HN : Hid (rowB (nums a0) = false ∨ lev a2 = false) := hn
    clear hr hn
    go_wp2_with fail
    refine (rturn_no a0 a2 _ (by omega) HN.out).mono ?_
    rintro e u2 ⟨rfl, hb2⟩
    replace hb1 := bseq hb1 hb2
    clear hb2 HN
    go_wp2_with fail
    cases hl : levB (nums a1) && lev a2
    · have hn := Bool.and_eq_false_iff.1 hl
      have HN : Hid (levB (nums a1) = false ∨ lev a2 = false) := hn
      clear hl hn
      refine (unturn_no a1 a2 _ (by omega) HN.out).mono ?_
      rintro e u3 ⟨rfl, hb3⟩
      go_wp2_with fail
      refine (runturn_no a1 a2 _ (by omega) HN.out).mono ?_
      rintro e u4 ⟨rfl, hb4⟩
      go_wp2
      go_ret
      exact ⟨rfl, bseq (bseq hb1 hb3) hb4⟩
    · have hl1 : levB (nums a1) = true := by simp at hl; exact hl.1
      have hl2 : lev a2 = true := by simp at hl; exact hl.2
      clear hl
      refine (unturn_ok a1 a2 _ (by omega) hl1 hl2).mono ?_
      rintro e u3 ⟨rfl, hb3⟩
      go_wp2_with fail
      refine (runturn_ok a1 a2 _ (by omega) hl1 hl2).mono ?_
      rintro e u4 ⟨rfl, hb4⟩
      go_wp2
      go_ret
      exact ⟨rfl, bseq (bseq hb1 hb3) hb4⟩
  · have hr1 : rowB (nums a0) = true := by simp at hr; exact hr.1
    have hr2 : lev a2 = true := by simp at hr; exact hr.2
    clear hr
    refine (turn_ok a0 a2 _ (by omega) hr1 hr2).mono ?_
    rintro e u1 ⟨rfl, hb1⟩
    go_wp2_with fail
    refine (rturn_ok a0 a2 _ (by omega) hr1 hr2).mono ?_
    rintro e u2 ⟨rfl, hb2⟩
    replace hb1 := bseq hb1 hb2
    clear hb2
    go_wp2_with fail
    cases hl : levB (nums a1) && lev a2
    · have hn := Bool.and_eq_false_iff.1 hl
      have HN : Hid (levB (nums a1) = false ∨ lev a2 = false) := hn
      clear hl hn
      refine (unturn_no a1 a2 _ (by omega) HN.out).mono ?_
      rintro e u3 ⟨rfl, hb3⟩
      go_wp2_with fail
      refine (runturn_no a1 a2 _ (by omega) HN.out).mono ?_
      rintro e u4 ⟨rfl, hb4⟩
      go_wp2
      go_ret
      exact ⟨rfl, bseq (bseq hb1 hb3) hb4⟩
    · have hl1 : levB (nums a1) = true := by simp at hl; exact hl.1
      have hl2 : lev a2 = true := by simp at hl; exact hl.2
      clear hl
      refine (unturn_ok a1 a2 _ (by omega) hl1 hl2).mono ?_
      rintro e u3 ⟨rfl, hb3⟩
      go_wp2_with fail
      refine (runturn_ok a1 a2 _ (by omega) hl1 hl2).mono ?_
      rintro e u4 ⟨rfl, hb4⟩
      go_wp2
      go_ret
      exact ⟨rfl, bseq (bseq hb1 hb3) hb4⟩
end Go.Proofs.Ytbpkmlgamlgicaa.laneTurns
