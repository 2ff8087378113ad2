/- hub: what Check answers. -/
import Derived.Test.YtdnmjeiljpdmcaaHubB
namespace Go.Proofs.Ytdnmjeiljpdmcaa.hub
open Go Go.RowKit
open Go.Proofs.Ytdnmjeiljpdmcaa.slots (cl cl_at cl_set cl_ext allF allF_step allF_end allF_iff anyF)
set_option linter.unusedVariables false
set_option linter.unusedSimpArgs false
set_option maxRecDepth 100000

/-- a hub as it may be handed in: its numbers are ints -/
structure Hb (F : List Int) : Prop where
  len : F.length = 33
  lo : ∀ j, -9223372036854775808 ≤ cl F j
  hi : ∀ j, cl F j ≤ 9223372036854775807
theorem Ok.hb {F : List Int} (h : Ok F) : Hb F := by
  have g : ∀ j, -9223372036854775808 ≤ cl F j ∧ cl F j ≤ 9223372036854775807 := fun j => by
    by_cases hj : j < 33
    · by_cases j0 : j = 0
      · have h1 := h.lo; have h2 := h.hi; unfold cn at h1 h2; rw [j0]; omega
      · by_cases jo : j % 2 = 1
        · have := h.st (k := j / 2) (by omega)
          unfold sta at this
          rw [show 1 + j / 2 * 2 = j by omega] at this
          omega
        · have := h.ch (k := j / 2 - 1) (by omega)
          unfold chg at this
          rw [show 1 + (j / 2 - 1) * 2 + 1 = j by omega] at this
          omega
    · have : cl F j = 0 := by unfold cl; rw [List.getD_eq_getElem?_getD, List.getElem?_eq_none (by have := h.len; omega)]; rfl
      omega
  exact ⟨h.len, fun j => (g j).1, fun j => (g j).2⟩
set_option maxHeartbeats 4000000 in
theorem check_any (F : List Int) (w : World) (hb : Hb F) : Calls Try.prog 13 #[ag F] w fun e w' => e = .returned (.int .i64 (chk F)) ∧ Below w.heap.size w w' := by
  have HL : Hid (F.length = 33) := hb.len
  have H0 : Hid (F[0]? = some (cn F)) := cl_at (by rw [hb.len]; omega)
  have HC : Hid (cut F 0 33 = F) := cut_all hb.len
  have HE : Hid (0 + 33 ≤ F.length) := by show 0 + 33 ≤ _; rw [hb.len]; omega
  have HE1 : Hid (1 + 32 ≤ F.length) := by show 1 + 32 ≤ _; rw [hb.len]; omega
  have HR : Hid (∀ k u, Calls Try.prog 26 #[ag [sta F k, chg F k]] u fun e w' => e = .returned (.bool (rgt (sta F k) (chg F k))) ∧ Below u.heap.size u w') := fun k u => isRight_any _ _ u (hb.lo _) (hb.hi _)
  have HP : Hid (∀ (k : Nat) u, Calls Try.prog 22 #[ag F, .int .i64 (k : Int)] u fun e w' => e = .returned (.bool (isP F k)) ∧ Below u.heap.size u w') := fun k u => isPort_any F k u hb.len
  have HX : Hid (∀ k : Nat, k < 16 → ∀ u, (Instr.index 24 (ag (cut F 1 32)) (.int .i64 (k : Int))).run Try.prog u = .ok (ag [sta F k, chg F k]) u) := fun k hk u => by rw [run_indexP _ k hk, cut_cut hb.len hk]
  have hM := Mm.nil w
  obtain ⟨q, hq⟩ : ∃ q, chk F = q := ⟨_, rfl⟩
  have HQ : Hid (chk F = q) := hq
  rw [hq]
  clear hq hb
  cases hc : cnB F
  · have HQ2 : Hid (1 = q) := by show _ = q; rw [← HQ.out]; unfold chk; rw [if_pos hc]
    have hcc : decide (cn F < 1) = true ∨ decide (cn F < 1) = false ∧ decide (15 < cn F) = true := by
      unfold cnB at hc
      simp at hc
      by_cases z : cn F < 1
      · left; simpa using z
      · right; simp; omega
    clear HQ hc
    generalize cn F = m at *
    rcases hcc with h1 | ⟨h1, h2⟩
    all_goals
      go_enter Try.func13, Try.ntmps13
      repeat' (first | (go_big_may; first | (refine a_box rfl rfl rfl ?_; intro u zb hN; replace hM := hM.new hN; clear hN) | (refine a_get rfl rfl rfl hM.at0 H0.out ?_)) | go_values | go_skip | go_guarded | go_step | go_upon | (simp only [Int.not_lt, Int.not_le] at *; go_simp))
      go_ret
      rw [← HQ2.out]
      exact ⟨rfl, hM.below⟩
  have HQ2 : Hid ((if allF 16 (okP F) 0 = true then 0 else 4) = q) := by show _ = q; rw [← HQ.out]; unfold chk; rw [if_neg (show ¬ cnB F = false by rw [hc]; simp)]
  have h1 : decide (cn F < 1) = false := by unfold cnB at hc; simp at hc ⊢; omega
  have h2 : decide (15 < cn F) = false := by unfold cnB at hc; simp at hc ⊢; omega
  clear HQ hc
  generalize hcf : cut F 1 32 = cf at *
  have HCF : Hid (cut F 1 32 = cf) := hcf
  clear hcf
  generalize hcn : cn F = m at *
  clear hcn
  go_enter Try.func13, Try.ntmps13
  repeat' (first | (go_big_may; first | (refine a_box rfl rfl rfl ?_; intro u zb hN; replace hM := hM.new hN; clear hN) | (refine a_get rfl rfl rfl hM.at0 H0.out ?_) | (refine a_load rfl rfl row_ports rfl hM.at0 HE1.out HCF.out ?_)) | go_values | go_skip | go_guarded | go_step | go_upon | (simp only [Int.not_lt, Int.not_le] at *; go_simp))
  clear h1 h2 HCF H0
  go_loopw [3, 4, 15] (fun _ _ i wr => ∃ k : Nat, k ≤ 16 ∧ i = .int .i64 (k : Int) ∧ Hid ((if allF 16 (okP F) k = true then 0 else 4) = q ∧ Mm w wr [(zb, 26, F)])) (fun _ _ i _ => 16 - (intOf i).toNat)
  case atStart => exact ⟨0, by omega, rfl, HQ2.out, hM⟩
  case round =>
    clear hM
    obtain ⟨k, hk, rfl, HA⟩ := hrel
    have hM := HA.out.2
    by_cases hlt : ¬ k < 16
    · have HQ3 : Hid (0 = q) := by
        have := HA.out.1
        rw [allF_end (by omega), if_pos rfl] at this
        exact this
      clear HA HQ2
      repeat' (first | go_values | go_skip | go_guarded | go_step | go_upon | (simp only [Int.not_lt, Int.not_le] at *; go_simp))
      go_ret
      rw [← HQ3.out]
      exact ⟨rfl, hM.below⟩
    have hlt : k < 16 := by omega
    have hix := HX.out k hlt
    have HS := HA.out.1
    rw [allF_step hlt] at HS
    have HS2 : Hid ((if (okP F k && allF 16 (okP F) (k + 1)) = true then 0 else 4) = q) := HS
    have HOK : Hid (okP F k = (rgt (sta F k) (chg F k) && (isP F k || decide ([sta F k, chg F k] = [0, 0])))) := by
      show okP F k = _
      unfold okP
      congr 2
      rw [Bool.eq_iff_iff]; simp
    have HRk : Hid (∀ u, Calls Try.prog 26 #[ag [sta F k, chg F k]] u fun e w' => e = .returned (.bool (rgt (sta F k) (chg F k))) ∧ Below u.heap.size u w') := HR.out k
    have HPk : Hid (∀ u, Calls Try.prog 22 #[ag F, .int .i64 (k : Int)] u fun e w' => e = .returned (.bool (isP F k)) ∧ Below u.heap.size u w') := HP.out k
    have hb0 := bld_P0
    clear HS HA HQ2 HR HP HX
    generalize okP F k = ok at *
    generalize isP F k = ip at *
    generalize rgt (sta F k) (chg F k) = rg at *
    generalize sta F k = s at *
    generalize chg F k = c at *
    generalize hnz : decide ([s, c] = [0, 0]) = nz at *
    have HNZ : Hid (decide ([s, c] = [0, 0]) = nz) := hnz
    clear hnz
    go_upto_region 6 with (first | (refine a_alloc rfl zer_port rfl ?_; intro u yb hN; replace hM := hM.new hN; clear hN) | (refine a_fill rfl rfl row_port rfl rfl hM.at0 rfl rfl ?_; intro u hv hc; replace hM := hM.put0 hc hv; clear hv hc))
    clear hix
    go_simp
    rename World => u2
    go_cut [32] from 16 to 33 (fun bv wx => bv = .bool (!ok) ∧ Hid (Mm w wx [(yb, 23, [s, c]), (zb, 26, F)]))
    case first =>
      cases rg
      · have HE1 : Hid (ok = false) := HOK.out
        clear HOK
        repeat' (first | (go_big_may; first | (refine a_load rfl rfl row_port rfl hM.at0 (by simp) (cut2 s c) ?_)) | go_values | go_skip | go_guarded | go_step | go_upon | (simp only [Int.not_lt, Int.not_le] at *; go_simp))
        refine (HRk.out _).mono ?_
        rintro e v ⟨rfl, hv⟩
        replace hM := hM.call hv
        clear hv
        repeat' (first | go_values | go_skip | go_guarded | go_step | go_upon | (simp only [Int.not_lt, Int.not_le] at *; go_simp))
        go_meet
        case rel => exact ⟨by rw [HE1.out]; rfl, hM⟩
      · cases ip
        · have HE1 : Hid (ok = nz) := HOK.out
          clear HOK
          repeat' (first | (go_big_may; first | (refine a_load rfl rfl row_port rfl hM.at0 (by simp) (cut2 s c) ?_)) | go_values | go_skip | go_guarded | go_step | go_upon | (simp only [Int.not_lt, Int.not_le] at *; go_simp))
          refine (HRk.out _).mono ?_
          rintro e v ⟨rfl, hv⟩
          replace hM := hM.call hv
          clear hv
          repeat' (first | (go_big_may; first | (refine a_load rfl rfl row_hub rfl hM.at1 HE.out HC.out ?_)) | go_values | go_skip | go_guarded | go_step | go_upon | (simp only [Int.not_lt, Int.not_le] at *; go_simp))
          refine (HPk.out _).mono ?_
          rintro e v ⟨rfl, hv⟩
          replace hM := hM.call hv
          clear hv
          repeat' (first | (go_big_may; first | (refine a_load rfl rfl row_port rfl hM.at0 (by simp) (cut2 s c) ?_) | (refine a_build rfl rfl hb0 (by simp [Act.eval]) ?_) | (refine a_neq rfl rfl cmp_port rfl rfl rfl rfl ?_; rw [HNZ.out])) | go_values | go_skip | go_guarded | go_step | go_upon | (simp only [Int.not_lt, Int.not_le] at *; go_simp))
          go_meet
          case rel => exact ⟨by rw [HE1.out], hM⟩
        · have HE1 : Hid (ok = true) := HOK.out
          clear HOK
          repeat' (first | (go_big_may; first | (refine a_load rfl rfl row_port rfl hM.at0 (by simp) (cut2 s c) ?_)) | go_values | go_skip | go_guarded | go_step | go_upon | (simp only [Int.not_lt, Int.not_le] at *; go_simp))
          refine (HRk.out _).mono ?_
          rintro e v ⟨rfl, hv⟩
          replace hM := hM.call hv
          clear hv
          repeat' (first | (go_big_may; first | (refine a_load rfl rfl row_hub rfl hM.at1 HE.out HC.out ?_)) | go_values | go_skip | go_guarded | go_step | go_upon | (simp only [Int.not_lt, Int.not_le] at *; go_simp))
          refine (HPk.out _).mono ?_
          rintro e v ⟨rfl, hv⟩
          replace hM := hM.call hv
          clear hv
          repeat' (first | go_values | go_skip | go_guarded | go_step | go_upon | (simp only [Int.not_lt, Int.not_le] at *; go_simp))
          go_meet
          case rel => exact ⟨by rw [HE1.out]; rfl, hM⟩
    case rest =>
    obtain ⟨rfl, HW2⟩ := hcut
    rename World => wx
    replace hM := HW2.out.tail
    clear HW2 HOK HNZ
    cases ok
    · have HQ3 : Hid (4 = q) := HS2.out
      repeat' (first | go_values | go_skip | go_guarded | go_step | go_upon | (simp only [Int.not_lt, Int.not_le] at *; go_simp))
      go_ret
      rw [← HQ3.out]
      exact ⟨rfl, hM.below⟩
    · have HS3 : Hid ((if allF 16 (okP F) (k + 1) = true then 0 else 4) = q) := by have := HS2.out; rw [Bool.true_and] at this; exact this
      repeat' (first | go_values | go_skip | go_guarded | go_step | go_upon | (simp only [Int.not_lt, Int.not_le] at *; go_simp))
      go_roundw
      case rel => exact ⟨k + 1, by omega, by go_num, HS3.out, hM⟩
      case measure => simp [intOf]; omega
end Go.Proofs.Ytdnmjeiljpdmcaa.hub
