/- UtfBack: the walk. -/
import Derived.Test.YtfonnejaffhncaaDoorUtfF
import Derived.Test.YtfonnejaffhncaaDoorShelfV
namespace Go.Proofs.YtfonnejaffhncaaDoor.utfBack
open Go.RowKit Go.PlainAid Go.Lib Go.Proofs.YtfonnejaffhncaaDoor.lane Go.Proofs.YtfonnejaffhncaaDoor.utf
set_option linter.unusedVariables false

set_option maxHeartbeats 2000000 in
theorem walk (a0 : ByteArray) (w0 : a0.size ≤ maxLen) (w : World) (hT : Lib.Utf8Tabs (Tryd.laysValid_ren.g 3) (Tryd.laysValid_ren.g 4) w) :
    Calls Tryd.prog 3 #[.string a0] w fun e w' => e = .returned (.bool true) ∧ Below w.heap.size w w' := by
  have HL : Hid (∀ w : World, Calls Tryd.prog 6 #[] w fun r w' => r = .returned (.bool true) ∧ Below w.heap.size w w') := utfLives_any
  have HW : Hid (∀ w, Calls Tryd.prog 5 #[.string a0] w fun e w' => e = .returned (.tuple #[.string (wtxt a0), .int .i64 (werr a0)]) ∧ Below w.heap.size w w') := fun w => wide_any a0 w
  by_cases hc : cnt (rns a0) ≤ 126
  · have k0 := wsmall hc
    have k1 := narrow_wide (rns a0) (rns_ok a0) hc
    have hz : a0.size ≤ 504 := by
      have h1 := size_four a0
      have h2 := (cnt_le (rns a0)).1
      omega
    have HN : Hid (∀ w, Calls Tryd.prog 7 #[.string (wtxt a0)] w fun e w' => e = .returned (.tuple #[.string (clean a0), .int .i64 0]) ∧ Below w.heap.size w w') := fun w => by
      have hl := wideL_length (rns a0)
      have h := narrow_any (wtxt a0) w (by rw [k0.1, str_size, hl]; unfold maxLen; omega)
      rw [k0.1, k1.1, k1.2] at h
      rw [k0.1]
      exact h
    have HR : Hid (∀ w : World, Calls Tryd.prog 8 #[.string a0] w fun e w' => e = .returned (.string (clean a0)) ∧ Below w.heap.size w w') := fun w => runesOf_any a0 w (by omega)
    have HV : Hid (∀ w' : World, Below w.heap.size w w' → Calls Tryd.prog 9 #[.string a0] w' fun e w'' => e = .returned (.bool (validD a0.data.toList)) ∧ Below w'.heap.size w' w'') :=
      fun w' hb => Tryd.utf8_ValidString a0 w' (by omega) (Utf8Tabs_below hT hb)
    have hcv : validD a0.data.toList = true → clean a0 = a0 := clean_valid a0
    rw [k0.2] at HW
    generalize wtxt a0 = t at HW HN
    generalize clean a0 = x at HN HR hcv
    generalize validD a0.data.toList = V at HV hcv
    clear k0 k1 hc w0 hT
    have HC : Hid (V = true → x = a0) := hcv
    clear hcv
    cases V
    · go_enter Tryd.func3, Tryd.ntmps3
      go_wp2_with fail
      refine (HW.out _).mono ?_
      rintro e u ⟨rfl, hb⟩
      go_wp2_with fail
      refine (HL.out _).mono ?_
      rintro e u1 ⟨rfl, hb2⟩
      replace hb := bsq hb hb2
      clear hb2
      go_wp2_with fail
      refine (HN.out _).mono ?_
      rintro e u2 ⟨rfl, hb2⟩
      replace hb := bsq hb hb2
      clear hb2
      go_wp2_with fail
      refine (HR.out _).mono ?_
      rintro e u3 ⟨rfl, hb2⟩
      replace hb := bsq hb hb2
      clear hb2
      go_wp2_with fail
      refine (HV.out _ hb).mono ?_
      rintro e u4 ⟨rfl, hb2⟩
      replace hb := bsq hb hb2
      clear hb2
      go_wp2
      go_ret
      exact ⟨rfl, hb⟩
    · obtain rfl := HC.out rfl
      go_enter Tryd.func3, Tryd.ntmps3
      go_wp2_with fail
      refine (HW.out _).mono ?_
      rintro e u ⟨rfl, hb⟩
      go_wp2_with fail
      refine (HL.out _).mono ?_
      rintro e u1 ⟨rfl, hb2⟩
      replace hb := bsq hb hb2
      clear hb2
      go_wp2_with fail
      refine (HN.out _).mono ?_
      rintro e u2 ⟨rfl, hb2⟩
      replace hb := bsq hb hb2
      clear hb2
      go_wp2_with fail
      refine (HR.out _).mono ?_
      rintro e u3 ⟨rfl, hb2⟩
      replace hb := bsq hb hb2
      clear hb2
      go_wp2_with fail
      refine (HV.out _ hb).mono ?_
      rintro e u4 ⟨rfl, hb2⟩
      replace hb := bsq hb hb2
      clear hb2
      go_wp2
      go_ret
      exact ⟨rfl, hb⟩
  · rw [wgreat hc] at HW
    generalize wtxt a0 = t at HW
    clear hc
    go_enter Tryd.func3, Tryd.ntmps3
    go_wp2_with fail
    refine (HW.out _).mono ?_
    rintro e u ⟨rfl, hb⟩
    go_wp2_with fail
    refine (HL.out _).mono ?_
    rintro e u1 ⟨rfl, hb2⟩
    replace hb := bsq hb hb2
    clear hb2
    go_wp2_with fail
    refine (HL.out _).mono ?_
    rintro e u2 ⟨rfl, hb2⟩
    replace hb := bsq hb hb2
    clear hb2
    go_wp2
    go_ret
    exact ⟨rfl, hb⟩
end Go.Proofs.YtfonnejaffhncaaDoor.utfBack
