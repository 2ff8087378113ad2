/- SlotsRight: whatever commands come, the board is right. -/
import Derived.Test.YtfhlbndilkidhaaSltU
import Derived.BigQuiet
namespace Go.Proofs.Ytfhlbndilkidhaa.slotsRight
open Go Go.RowKit Go.Proofs.Ytfhlbndilkidhaa.slots
set_option linter.unusedVariables false
set_option linter.unusedSimpArgs false
set_option maxRecDepth 100000

theorem drewN {w u : World} {L : List Bk} (h : Mm w u L) (n : Nat) : Mm w (u.drewN n) L := ⟨h.lies, h.own, h.ap, ⟨h.below.os, h.below.tape, h.below.output, h.below.size, h.below.block⟩⟩
set_option maxHeartbeats 16000000 in
theorem walk (v : Value) (T : List Cm) (w : World) (hv : Rcm w v T) : Calls Try.prog 6 #[v] w fun r w' => r = .returned (.bool true) ∧ Below w.heap.size w w' := by
  have HRn : Hid (Calls Try.prog 16 #[v] w fun r w' => r = .returned (.tuple #[ag (fl (go zB T)), .bool true]) ∧ Below w.heap.size w w') := run_any v T w hv
  have HV : Hid (∀ u, Calls Try.prog 15 #[] u fun e w' => e = .returned (.bool true) ∧ Below u.heap.size u w') := lives_any
  obtain ⟨hw, hok⟩ := go_fine (T := T) zB_wf zB_ok
  have HCk : Hid (∀ u, Calls Try.prog 11 #[ag (fl (go zB T))] u fun r w' => r = .returned (.int .i64 0) ∧ Below u.heap.size u w') := fun u => by
    have := check_any _ u hw
    rw [chE_ok hw hok] at this
    exact this
  generalize go zB T = B at *
  have HL : Hid ((fl B).length = 594) := hw.length
  have HE : Hid (0 + 594 ≤ (fl B).length) := by show 0 + 594 ≤ _; rw [hw.length]; omega
  have HC : Hid (cut (fl B) 0 594 = fl B) := cut_all hw.length
  have HG : Hid (∀ i : Nat, i < 9 → (fl B)[i * 66 + 1]? = some (cl (sl B i) 1)) := fun i hi => fl_at hw hi (by omega)
  have HA : Hid (∀ i k : Nat, k < i → i < 9 → (cl (sl B i) 1 != 0) = true → (cl (sl B i) 1 == cl (sl B k) 1) = false) := fun i k hki hi h => by
    have h0 : cl (sl B i) 1 ≠ 0 := by simpa using h
    by_cases e : cl (sl B i) 1 = cl (sl B k) 1
    · have := hok.apart k i hki hi e.symm
      unfold ad at this
      omega
    · simpa using e
  clear hw hok hv
  generalize fl B = F at *
  have hM := Mm.nil w
  go_enter Try.func6, Try.ntmps6
  repeat' (first | go_values | go_skip | go_guarded | go_step | go_upon | (simp only [Int.not_lt, Int.not_le] at *; go_simp))
  refine (HRn.out).mono ?_
  rintro r u ⟨rfl, hv⟩
  replace hM := hM.call hv
  clear hv
  repeat' (first | (go_big_may; first | (refine a_alloc rfl zer_board rfl ?_; intro u zb hN; replace hM := hM.new hN; clear hN) | (refine a_fill rfl rfl row_board rfl rfl hM.at0 HL.out rep_594 ?_; intro u hv hc; replace hM := hM.put0 hc hv; clear hv hc)) | go_values | go_skip | go_guarded | go_step | go_upon | (simp only [Int.not_lt, Int.not_le] at *; go_simp))
  refine (HV.out _).mono ?_
  rintro r u ⟨rfl, hv⟩
  replace hM := hM.call hv
  clear hv
  repeat' (first | (go_big_may; first | (refine a_load rfl rfl row_board rfl hM.at0 HE.out HC.out ?_)) | go_values | go_skip | go_guarded | go_step | go_upon | (simp only [Int.not_lt, Int.not_le] at *; go_simp))
  refine (HCk.out _).mono ?_
  rintro r u ⟨rfl, hv⟩
  replace hM := hM.call hv
  clear hv
  repeat' (first | go_values | go_skip | go_guarded | go_step | go_upon | (simp only [Int.not_lt, Int.not_le] at *; go_simp))
  clear HRn HV HCk HE HC HL
  have HM : Hid (Mm w u [(zb, 27, F)]) := hM
  clear hM
  go_loopw [5, 6, 23] (fun _ _ i wr => ∃ k : Nat, k ≤ 9 ∧ i = .int .i64 (k : Int) ∧ Hid (Mm w wr [(zb, 27, F)])) (fun _ _ i _ => 9 - (intOf i).toNat)
  case atStart => exact ⟨0, by omega, rfl, HM.out⟩
  case round =>
    obtain ⟨i, hi, rfl, HA1⟩ := hrel
    have hM := HA1.out
    clear HA1 HM
    by_cases hlt : ¬ i < 9
    · repeat' (first | go_values | go_skip | go_guarded | go_step | go_upon | (simp only [Int.not_lt, Int.not_le] at *; go_simp))
      go_ret
      exact ⟨rfl, hM.below⟩
    have hlt : i < 9 := by omega
    have ei : decide ((i : Int) < 9) = true := decide_eq_true (by omega)
    repeat' (first | go_values | go_skip | go_guarded | go_step | go_upon | (simp only [Int.not_lt, Int.not_le] at *; go_simp))
    have HM : Hid (Mm w wr [(zb, 27, F)]) := hM
    clear hM
    rename World => wo
    go_loopw [6, 27] (fun _ j wi => ∃ k : Nat, k ≤ i ∧ j = .int .i64 (k : Int) ∧ Hid (Mm w wi [(zb, 27, F)])) (fun _ j _ => i - (intOf j).toNat)
    case atStart => exact ⟨0, by omega, rfl, HM.out⟩
    case round =>
      obtain ⟨k, hk, rfl, HA1⟩ := hrel
      have hM := HA1.out
      clear HA1 HM
      by_cases hkt : ¬ k < i
      · repeat' (first | go_values | go_skip | go_guarded | go_step | go_upon | (simp only [Int.not_lt, Int.not_le] at *; go_simp))
        go_roundw
        case rel => exact ⟨i + 1, by omega, by go_num, hM⟩
        case measure => simp [intOf]; omega
      have hkt : k < i := by omega
      have gi := bx_cell hM.at0 (HG.out i hlt)
      have gk := bx_cell hM.at0 (HG.out k (by omega))
      have hk9 : k < 9 := by omega
      go_upto_region 10 with (fail)
      go_cut [48] from 28 to 49 (fun bv wx => bv = .bool false ∧ Hid (Mm w wx [(zb, 27, F)]))
      case first =>
        cases h0 : (cl (sl B i) 1 != 0)
        · go_quiet (fail)
          go_simp
          repeat' (first | go_values | go_skip | go_guarded | go_step | go_upon | (simp only [Int.not_lt, Int.not_le] at *; go_simp))
          go_meet
          case rel => exact ⟨rfl, drewN hM _⟩
        · have h1 := HA.out i k hkt hlt h0
          go_quiet (fail)
          go_simp
          repeat' (first | go_values | go_skip | go_guarded | go_step | go_upon | (simp only [Int.not_lt, Int.not_le] at *; go_simp))
          go_meet
          case rel => exact ⟨rfl, drewN hM _⟩
      case rest =>
      obtain ⟨rfl, HM⟩ := hcut
      clear hM gi gk
      rename World => wx
      have hM := HM.out
      clear HM
      repeat' (first | go_values | go_skip | go_guarded | go_step | go_upon | (simp only [Int.not_lt, Int.not_le] at *; go_simp))
      go_roundw
      case rel => exact ⟨k + 1, by omega, by go_num, hM⟩
      case measure => simp [intOf]; omega
end Go.Proofs.Ytfhlbndilkidhaa.slotsRight
