/- UtfGood: the walk. -/
import Derived.Test.YtfonnejaffhncaaDoorUtfF
import Derived.Test.YtfonnejaffhncaaDoorShelfV
namespace Go.Proofs.YtfonnejaffhncaaDoor.utfGood
open Go.RowKit Go.PlainAid Go.Lib Go.Proofs.YtfonnejaffhncaaDoor.lane Go.Proofs.YtfonnejaffhncaaDoor.utf
set_option linter.unusedVariables false

theorem nerr_bad {t : ByteArray} (h : ¬ (t.size % 2 = 0 ∧ t.size ≤ 252)) : ntxt t = ⟨#[]⟩ ∧ (nerr t = 4 ∨ nerr t = 2) := by
  by_cases he : t.size % 2 = 1
  · exact ⟨(ntxt_odd he).1, .inl (ntxt_odd he).2⟩
  · have e := ntxt_big (t := t) (by omega) (by omega)
    exact ⟨e.1, .inr e.2⟩

set_option maxHeartbeats 2000000 in
theorem walk (a0 : ByteArray) (w0 : a0.size ≤ maxLen) (w : World) (hT : Lib.Utf8Tabs (Tryd.laysValid_ren.g 3) (Tryd.laysValid_ren.g 4) w) :
    Calls Tryd.prog 4 #[.string a0] w fun e w' => e = .returned (.bool true) ∧ Below w.heap.size w w' := by
  have HL : Hid (∀ w : World, Calls Tryd.prog 6 #[] w fun r w' => r = .returned (.bool true) ∧ Below w.heap.size w w') := utfLives_any
  have HN : Hid (∀ w, Calls Tryd.prog 7 #[.string a0] w fun e w' => e = .returned (.tuple #[.string (ntxt a0), .int .i64 (nerr a0)]) ∧ Below w.heap.size w w') := fun w => narrow_any a0 w w0
  by_cases hc : a0.size % 2 = 0 ∧ a0.size ≤ 252
  · have k0 := ntxt_ok hc.1 hc.2
    have hok := prs_ok a0
    have hcn := prs_cnt a0 hc.1
    have hlen := prs_len a0 hc.1
    have hrn := rns_encs (prs a0) hok
    have hsz : (strOfNums (encs (prs a0))).size ≤ 504 := by rw [str_size]; omega
    have k1 := wsmall (s := strOfNums (encs (prs a0))) (by rw [hrn]; omega)
    rw [hrn] at k1
    have k2 := narrow_wide (prs a0) hok (by omega)
    have k3 := valid_text (prs a0) hok
    have hwl : (strOfNums (wideL (prs a0))).size = a0.size := by rw [str_size, wideL_length]; exact hcn
    rw [k0.1, k0.2] at HN
    have HW : Hid (∀ w, Calls Tryd.prog 5 #[.string (strOfNums (encs (prs a0)))] w fun e w' => e = .returned (.tuple #[.string (strOfNums (wideL (prs a0))), .int .i64 0]) ∧ Below w.heap.size w w') := fun w => by
      have h := wide_any (strOfNums (encs (prs a0))) w
      rw [k1.1, k1.2] at h
      exact h
    have HM : Hid (∀ w, Calls Tryd.prog 7 #[.string (strOfNums (wideL (prs a0)))] w fun e w' => e = .returned (.tuple #[.string (strOfNums (encs (prs a0))), .int .i64 0]) ∧ Below w.heap.size w w') := fun w => by
      have h := narrow_any (strOfNums (wideL (prs a0))) w (by rw [hwl]; exact w0)
      rw [k2.1, k2.2] at h
      exact h
    have HV : Hid (∀ w' : World, Below w.heap.size w w' → Calls Tryd.prog 9 #[.string (strOfNums (encs (prs a0)))] w' fun e w'' => e = .returned (.bool true) ∧ Below w'.heap.size w' w'') :=
      fun w' hb => by
        have h := Tryd.utf8_ValidString (strOfNums (encs (prs a0))) w' (by omega) (Utf8Tabs_below hT hb)
        rw [k3] at h
        exact h
    generalize strOfNums (encs (prs a0)) = x at *
    generalize strOfNums (wideL (prs a0)) = y at *
    have hyz : (y.size : Int) = (a0.size : Int) := by omega
    clear k0 k1 k2 k3 hok hcn hlen hrn hsz hwl hT hc w0
    go_enter Tryd.func4, Tryd.ntmps4
    go_wp2_with fail
    refine (HN.out _).mono ?_
    rintro e u ⟨rfl, hb⟩
    go_wp2_with fail
    refine (HL.out _).mono ?_
    rintro e u1 ⟨rfl, hb2⟩
    replace hb := bsq hb hb2
    clear hb2
    go_wp2_with fail
    refine (HW.out _).mono ?_
    rintro e u2 ⟨rfl, hb2⟩
    replace hb := bsq hb hb2
    clear hb2
    go_wp2_with fail
    refine (HV.out _ hb).mono ?_
    rintro e u3 ⟨rfl, hb2⟩
    replace hb := bsq hb hb2
    clear hb2
    go_wp2_with fail
    refine (HM.out _).mono ?_
    rintro e u4 ⟨rfl, hb2⟩
    replace hb := bsq hb hb2
    clear hb2
    go_wp2
    go_ret
    exact ⟨rfl, hb⟩
  · obtain ⟨k0, k1⟩ := nerr_bad hc
    rw [k0] at HN
    generalize nerr a0 = z at HN k1
    clear hc k0
    rcases k1 with rfl | rfl
    all_goals
      go_enter Tryd.func4, Tryd.ntmps4
      go_wp2_with fail
      refine (HN.out _).mono ?_
      rintro e u ⟨rfl, hb⟩
      go_wp2_with fail
      refine (HL.out _).mono ?_
      rintro e u1 ⟨rfl, hb2⟩
      replace hb := bsq hb hb2
      clear hb2
      go_wp2_with fail
      refine (HL.out _).mono ?_
      rintro e u2 ⟨rfl, hb2⟩
      replace hb := bsq hb hb2
      clear hb2
      go_wp2
      go_ret
      exact ⟨rfl, hb⟩
end Go.Proofs.YtfonnejaffhncaaDoor.utfGood
