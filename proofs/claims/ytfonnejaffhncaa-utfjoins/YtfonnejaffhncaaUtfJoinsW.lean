/- UtfJoins: the walk. -/
import Derived.Test.YtfonnejaffhncaaUtfE
namespace Go.Proofs.Ytfonnejaffhncaa.utfJoins
open Go.RowKit Go.PlainAid Go.Lib Go.Proofs.Ytfonnejaffhncaa.lane Go.Proofs.Ytfonnejaffhncaa.utf
set_option linter.unusedVariables false

theorem rns_str (rs : List Int) (h : ∀ r ∈ rs, okR r) : rns (strOfNums (encs rs)) = rs := by
  unfold rns
  rw [str_bys]
  have e := runes_encs rs h []
  rw [List.append_nil, runesU_nil, List.append_nil] at e
  exact e
theorem clean_size (s : ByteArray) : (clean s).size ≤ 4 * s.size := by
  have h1 := (encs_length (rns s)).2
  have h2 := runesU_length _ s.data.toList (Nat.le_refl _)
  rw [← size_eq] at h2
  unfold clean
  rw [str_size]
  unfold rns at h1 ⊢
  omega
theorem rns_both (a b : ByteArray) : rns (clean a ++ clean b) = rns a ++ rns b := by
  unfold clean
  rw [← str_append, ← encs_append]
  exact rns_str _ (fun r hr => by rcases List.mem_append.1 hr with h | h; exact rns_ok a r h; exact rns_ok b r h)
theorem rns_clean (a : ByteArray) : rns (clean a) = rns a := rns_str _ (rns_ok a)
theorem wide_small {s : ByteArray} (h : cnt (rns s) ≤ 126) : wtxt s = strOfNums (wideL (rns s)) ∧ werr s = 0 := by
  have := wideL_length (rns s)
  unfold wtxt werr
  rw [if_pos (by omega), if_pos (by omega)]; exact ⟨rfl, rfl⟩
theorem wide_great {s : ByteArray} (h : ¬ cnt (rns s) ≤ 126) : werr s = 2 := by
  have := wideL_length (rns s)
  unfold werr
  rw [if_neg (by omega)]
theorem werr_two (s : ByteArray) : werr s = 0 ∨ werr s = 2 := by unfold werr; split <;> simp

set_option maxHeartbeats 2000000 in
theorem walk (a0 a1 : ByteArray) (w0 : a0.size ≤ maxLen) (w1 : a1.size ≤ maxLen) (hs0 : a0.size ≤ 140737488351232) (hs1 : a1.size ≤ 140737488351232) (w : World) :
    Calls Try.prog 6 #[.string a0, .string a1] w fun e w' => e = .returned (.bool true) ∧ Below w.heap.size w w' := by
  have HL : Hid (∀ w : World, Calls Try.prog 11 #[] w fun r w' => r = .returned (.bool true) ∧ Below w.heap.size w w') := utfLives_any
  have HR : Hid (∀ w : World, Calls Try.prog 12 #[.string a0] w fun e w' => e = .returned (.string (clean a0)) ∧ Below w.heap.size w w') := fun w => runesOf_any a0 w hs0
  have HS : Hid (∀ w : World, Calls Try.prog 12 #[.string a1] w fun e w' => e = .returned (.string (clean a1)) ∧ Below w.heap.size w w') := fun w => runesOf_any a1 w hs1
  have HW0 : Hid (∀ w, Calls Try.prog 7 #[.string (clean a0)] w fun e w' => e = .returned (.tuple #[.string (wtxt (clean a0)), .int .i64 (werr (clean a0))]) ∧ Below w.heap.size w w') := fun w => wide_any _ w
  have HW1 : Hid (∀ w, Calls Try.prog 7 #[.string (clean a1)] w fun e w' => e = .returned (.tuple #[.string (wtxt (clean a1)), .int .i64 (werr (clean a1))]) ∧ Below w.heap.size w w') := fun w => wide_any _ w
  have HW2 : Hid (∀ w, Calls Try.prog 7 #[.string (clean a0 ++ clean a1)] w fun e w' => e = .returned (.tuple #[.string (wtxt (clean a0 ++ clean a1)), .int .i64 (werr (clean a0 ++ clean a1))]) ∧ Below w.heap.size w w') := fun w => wide_any _ w
  have z0 := clean_size a0
  have z1 := clean_size a1
  have z2 : (clean a0 ++ clean a1).size = (clean a0).size + (clean a1).size := ByteArray.size_append
  have r0 := rns_clean a0
  have r1 := rns_clean a1
  have r2 := rns_both a0 a1
  generalize clean a0 = b0 at *
  generalize clean a1 = b1 at *
  have hb0 : b0.size ≤ 1000000000000000 := by omega
  have hb1 : b1.size ≤ 1000000000000000 := by omega
  by_cases hc : cnt (rns a0) + cnt (rns a1) ≤ 126
  · have k0 := wide_small (s := b0) (by rw [r0]; omega)
    have k1 := wide_small (s := b1) (by rw [r1]; omega)
    have k2 := wide_small (s := b0 ++ b1) (by rw [r2, cnt_append]; omega)
    have hj : wtxt (b0 ++ b1) = wtxt b0 ++ wtxt b1 := by rw [k0.1, k1.1, k2.1, r0, r1, r2, wideL_append, str_append]
    have n0 : (wtxt b0).size ≤ 252 := by rw [k0.1, str_size, wideL_length, r0]; omega
    have n1 : (wtxt b1).size ≤ 252 := by rw [k1.1, str_size, wideL_length, r1]; omega
    rw [k0.2] at HW0
    rw [k1.2] at HW1
    rw [k2.2, hj] at HW2
    generalize wtxt b0 = x at *
    generalize wtxt b1 = y at *
    have n2 : (x ++ y).size = x.size + y.size := ByteArray.size_append
    clear k0 k1 k2 hj r0 r1 r2 hc z0 z1 w0 w1
    go_enter Try.func6, Try.ntmps6
    go_wp2_with fail
    refine (HR.out _).mono ?_
    rintro e u ⟨rfl, hb⟩
    go_wp2_with fail
    refine (HS.out _).mono ?_
    rintro e u1 ⟨rfl, hb2⟩
    replace hb := bsq hb hb2
    clear hb2
    go_wp2_with fail
    refine (HW0.out _).mono ?_
    rintro e u2 ⟨rfl, hb2⟩
    replace hb := bsq hb hb2
    clear hb2
    go_wp2_with fail
    refine (HW1.out _).mono ?_
    rintro e u3 ⟨rfl, hb2⟩
    replace hb := bsq hb hb2
    clear hb2
    go_wp2_with fail
    refine (HW2.out _).mono ?_
    rintro e u4 ⟨rfl, hb2⟩
    replace hb := bsq hb hb2
    clear hb2
    go_wp2_with fail
    refine (HL.out _).mono ?_
    rintro e u5 ⟨rfl, hb2⟩
    replace hb := bsq hb hb2
    clear hb2
    go_wp2
    go_ret
    exact ⟨rfl, hb⟩
  · have k2 := wide_great (s := b0 ++ b1) (by rw [r2, cnt_append]; omega)
    have k0 := werr_two b0
    have k1 := werr_two b1
    rw [k2] at HW2
    generalize wtxt b0 = x at *
    generalize wtxt b1 = y at *
    generalize wtxt (b0 ++ b1) = z at *
    generalize werr b0 = m at *
    generalize werr b1 = n at *
    clear k2 r0 r1 r2 hc z0 z1 w0 w1
    rcases k0 with rfl | rfl <;> rcases k1 with rfl | rfl
    all_goals
      go_enter Try.func6, Try.ntmps6
      go_wp2_with fail
      refine (HR.out _).mono ?_
      rintro e u ⟨rfl, hb⟩
      go_wp2_with fail
      refine (HS.out _).mono ?_
      rintro e u1 ⟨rfl, hb2⟩
      replace hb := bsq hb hb2
      clear hb2
      go_wp2_with fail
      refine (HW0.out _).mono ?_
      rintro e u2 ⟨rfl, hb2⟩
      replace hb := bsq hb hb2
      clear hb2
      go_wp2_with fail
      refine (HW1.out _).mono ?_
      rintro e u3 ⟨rfl, hb2⟩
      replace hb := bsq hb hb2
      clear hb2
      go_wp2_with fail
      refine (HW2.out _).mono ?_
      rintro e u4 ⟨rfl, hb2⟩
      replace hb := bsq hb hb2
      clear hb2
      go_wp2_with fail
      refine (HL.out _).mono ?_
      rintro e u5 ⟨rfl, hb2⟩
      replace hb := bsq hb hb2
      clear hb2
      go_wp2
      go_ret
      exact ⟨rfl, hb⟩
end Go.Proofs.Ytfonnejaffhncaa.utfJoins
