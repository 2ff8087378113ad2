/- LaneRuns: the walk. -/
import Derived.Test.YtbpkmlgamlgicabLaneF
import Derived.Test.YtbpkmlgamlgicabLaneK
import Derived.Test.YtbpkmlgamlgicabShelf
import Derived.WalkLawsBesides
namespace Go.Proofs.Ytbpkmlgamlgicab.laneRuns
open Go.RowKit Go.PlainAid Go.Proofs.Ytbpkmlgamlgicab.lane

/-- string([]byte{c}) -/
theorem conv_one (c : Int) (w : World) : (convert 27 9 (.slice (some ⟨w.heap.size, 0, none⟩) 1 1)).run Try.prog (w.alloc (.cells #[.int .u8 c] 5)) = .ok (.string (strOfNums [c])) (w.alloc (.cells #[.int .u8 c] 5)) := by
  refine run_convert_bytes_arg (P := Try.prog) _ 27 5 Try.underlying27 Try.underlying5 w.heap.size 0 1 1 [c] rfl ?_ 9 Try.underlying9
  intro i hi
  obtain rfl : i = 0 := by omega
  simp
theorem no_ones (s : ByteArray) (h : rowB (nums s) = true) : Lib.contains (strOfNums (stuffL 0 (nums s))).data.toList (⟨#[49, 49, 49, 49, 49, 49, 49]⟩ : ByteArray).data.toList = false := by
  have := not_contains (strOfNums (stuffL 0 (nums s))) 49 7 0 (by omega) (by rw [nums_stuff s h]; exact okRun_stuff 0 _ (by omega))
  exact this
theorem nums_all (c : Int) (s : ByteArray) (hc : lev c = true) (h : rowB (nums s) = true) :
    nums (strOfNums [c] ++ strOfNums (turnL c (nums (strOfNums (stuffL 0 (nums s)))))) = c :: turnL c (stuffL 0 (nums s)) := by
  rw [nums_append, nums_str [c] (byt_lev (by rw [levB_cons, hc]; rfl)), nums_stuff s h, nums_str _ (byt_lev (levB_turn _ _ hc))]; rfl
theorem no_J (c : Int) (s : ByteArray) (hc : lev c = true) (h : rowB (nums s) = true) :
    Lib.contains (strOfNums [c] ++ strOfNums (turnL c (nums (strOfNums (stuffL 0 (nums s)))))).data.toList (⟨#[74, 74, 74, 74, 74, 74, 74, 74]⟩ : ByteArray).data.toList = false := by
  have := not_contains (strOfNums [c] ++ strOfNums (turnL c (nums (strOfNums (stuffL 0 (nums s)))))) 74 8 0 (by omega) (by rw [nums_all c s hc h]; exact okRun_levels 74 c _ (rowB_stuff _ _ h) (okRun_stuff 0 _ (by omega)))
  exact this
theorem no_K (c : Int) (s : ByteArray) (hc : lev c = true) (h : rowB (nums s) = true) :
    Lib.contains (strOfNums [c] ++ strOfNums (turnL c (nums (strOfNums (stuffL 0 (nums s)))))).data.toList (⟨#[75, 75, 75, 75, 75, 75, 75, 75]⟩ : ByteArray).data.toList = false := by
  have := not_contains (strOfNums [c] ++ strOfNums (turnL c (nums (strOfNums (stuffL 0 (nums s)))))) 75 8 0 (by omega) (by rw [nums_all c s hc h]; exact okRun_levels 75 c _ (rowB_stuff _ _ h) (okRun_stuff 0 _ (by omega)))
  exact this

set_option linter.unusedVariables false
set_option maxHeartbeats 2000000 in
theorem walk (a0 : ByteArray) (a1 : Int) (w0 : a0.size ≤ maxLen) (w1 : (Lit.int .u8 a1).wf = true) (hs0 : a0.size ≤ 1048576) (w : World) (hsh : w.ShapedOpen Try.prog) :
    Calls Try.prog 3 #[.string a0, .int .u8 a1] w fun e w' => e = .returned (.bool true) ∧ Below w.heap.size w w' := by
  obtain ⟨m, hm⟩ := Try.laysM144.s1_3 w hsh
  have hlow : 0 < w.heap.size := World.block_lt_of_cell? w _ hm
  have HM : Hid (∀ u : World, Below w.heap.size w u → u.cell? ⟨0, 0, none⟩ = some (.int .i64 m)) := fun u hb => (hb.cell (p := ⟨0, 0, none⟩) hlow).trans hm
  clear w0 w1 hsh hm hlow
  go_enter Try.func3, Try.ntmps3
  go_wp2_with fail
  cases hr : rowB (nums a0)
  · refine (stuff_no a0 _ (by omega) hr).mono ?_
    rintro e u1 ⟨rfl, hb1⟩
    go_wp2_with fail
    refine (lives_any _).mono ?_
    rintro e u2 ⟨rfl, hb2⟩
    go_wp2_with fail
    refine (lives_any _).mono ?_
    rintro e u3 ⟨rfl, hb3⟩
    go_wp2
    go_ret
    exact ⟨rfl, bseq (bseq hb1 hb2) hb3⟩
  · refine (stuff_ok a0 _ (by omega) hr).mono ?_
    rintro e u1 ⟨rfl, hb1⟩
    have HR : Hid (rowB (nums a0) = true) := hr
    have hz : (strOfNums (stuffL 0 (nums a0))).size ≤ 2 * a0.size := by
      have := stuffL_length 0 (nums a0) (by omega)
      rw [nums_length] at this
      rw [str_size]; omega
    have HZ : Hid ((strOfNums (stuffL 0 (nums a0))).size ≤ 2 * a0.size) := hz
    clear hr hz
    go_wp2_with fail
    refine (lives_any _).mono ?_
    rintro e u2 ⟨rfl, hb2⟩
    replace hb1 := bseq hb1 hb2
    clear hb2
    go_wp2_with fail
    cases hl : lev a1
    · have hn := hl
      simp [lev] at hn
      have h1 : (a1 != 74) = true := by simpa using hn.1
      have h2 : (a1 != 75) = true := by simpa using hn.2
      clear hn
      refine (turn_no (strOfNums (stuffL 0 (nums a0))) a1 _ (by have := HZ.out; omega) (.inr hl)).mono ?_
      rintro e u3 ⟨rfl, hb3⟩
      go_wp2
      go_ret
      exact ⟨rfl, bseq hb1 hb3⟩
    · refine (turn_ok (strOfNums (stuffL 0 (nums a0))) a1 _ (by have := HZ.out; omega) (by rw [nums_stuff a0 HR.out]; exact rowB_stuff _ _ HR.out) hl).mono ?_
      rintro e u3 ⟨rfl, hb3⟩
      replace hb1 := bseq hb1 hb3
      clear hb3
      have q1 := no_ones a0 HR.out
      have q2 := no_J a1 a0 hl HR.out
      have q3 := no_K a1 a0 hl HR.out
      have zt : (strOfNums (turnL a1 (nums (strOfNums (stuffL 0 (nums a0)))))).size ≤ 2 * a0.size := by
        rw [str_size, turnL_length, nums_length]; exact HZ.out
      have zs := HZ.out
      have hone : (strOfNums [a1]).size = 1 := str_size _
      obtain ⟨tv, htv⟩ : ∃ tv, strOfNums (turnL a1 (nums (strOfNums (stuffL 0 (nums a0))))) = tv := ⟨_, rfl⟩
      rw [htv] at q2 q3 zt ⊢
      obtain ⟨sv, hsv⟩ : ∃ sv, strOfNums (stuffL 0 (nums a0)) = sv := ⟨_, rfl⟩
      rw [hsv] at q1 zs ⊢
      have hcv := conv_one a1 u3
      obtain ⟨ov, hov⟩ : ∃ ov, strOfNums [a1] = ov := ⟨_, rfl⟩
      rw [hov] at hcv q2 q3 hone
      have Q1 : Hid (Lib.contains sv.data.toList (⟨#[49, 49, 49, 49, 49, 49, 49]⟩ : ByteArray).data.toList = false) := q1
      have Q2 : Hid (Lib.contains (ov ++ tv).data.toList (⟨#[74, 74, 74, 74, 74, 74, 74, 74]⟩ : ByteArray).data.toList = false) := q2
      have Q3 : Hid (Lib.contains (ov ++ tv).data.toList (⟨#[75, 75, 75, 75, 75, 75, 75, 75]⟩ : ByteArray).data.toList = false) := q3
      have ZS : Hid (sv.size < 4294967281) := by show _ < _; omega
      have ZO : Hid ((ov ++ tv).size < 4294967281) := by show _ < _; rw [ByteArray.size_append]; omega
      have HB : Hid (Below w.heap.size w (u3.alloc (.cells #[.int .u8 a1] 5))) := hb1.alloc hb1.size _
      clear q1 q2 q3 htv hsv hov HR HZ hl hb1
      go_wp2_with fail
      refine (Try.strings_Contains sv ⟨#[49, 49, 49, 49, 49, 49, 49]⟩ m _ ZS.out (HM.out _ HB.out)).mono ?_
      rintro e u4 ⟨rfl, rfl⟩
      rw [Q1.out]
      go_wp2_with fail
      refine (Try.strings_Contains (ov ++ tv) ⟨#[74, 74, 74, 74, 74, 74, 74, 74]⟩ m _ ZO.out (HM.out _ HB.out)).mono ?_
      rintro e u5 ⟨rfl, rfl⟩
      rw [Q2.out]
      go_wp2_with fail
      refine (Try.strings_Contains (ov ++ tv) ⟨#[75, 75, 75, 75, 75, 75, 75, 75]⟩ m _ ZO.out (HM.out _ HB.out)).mono ?_
      rintro e u6 ⟨rfl, rfl⟩
      rw [Q3.out]
      go_wp2
      go_ret
      exact ⟨rfl, HB.out⟩
end Go.Proofs.Ytbpkmlgamlgicab.laneRuns
