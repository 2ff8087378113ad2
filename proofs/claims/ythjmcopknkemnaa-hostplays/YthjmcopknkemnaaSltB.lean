/- slots: small tests; what areEnds and hasSet answer. -/
import Derived.Test.YthjmcopknkemnaaSltE
namespace Go.Proofs.Ythjmcopknkemnaa.slots
open Go Go.RowKit
set_option linter.unusedVariables false
set_option linter.unusedSimpArgs false
set_option maxRecDepth 100000

theorem isMark_any (n : Int) (w : World) : Calls Try.prog 102 #[.int .i64 n] w fun e w' => e = .returned (.bool (mkB n)) ∧ w = w' := by
  unfold mkB
  cases h1 : decide (0 ≤ n) <;> cases h2 : decide (n ≤ 65535) <;> (go_enter Try.func102, Try.ntmps102; go_wp2; go_ret; exact ⟨rfl, rfl⟩)
theorem isAddr_any (n : Int) (w : World) : Calls Try.prog 88 #[.int .i64 n] w fun e w' => e = .returned (.bool (adB n)) ∧ w = w' := by
  unfold adB
  cases h1 : decide (1 ≤ n) <;> cases h2 : decide (n ≤ 127) <;> (go_enter Try.func88, Try.ntmps88; go_wp2; go_ret; exact ⟨rfl, rfl⟩)
theorem isSlot_any (n : Int) (w : World) : Calls Try.prog 73 #[.int .i64 n] w fun e w' => e = .returned (.bool (slB n)) ∧ w = w' := by
  unfold slB
  cases h1 : decide (1 ≤ n) <;> cases h2 : decide (n ≤ 8) <;> (go_enter Try.func73, Try.ntmps73; go_wp2; go_ret; exact ⟨rfl, rfl⟩)
theorem isEnd_any (n : Int) (w : World) : Calls Try.prog 74 #[.int .i64 n] w fun e w' => e = .returned (.bool (edB n)) ∧ w = w' := by
  unfold edB
  cases h1 : decide (1 ≤ n) <;> cases h2 : decide (n ≤ 31) <;> (go_enter Try.func74, Try.ntmps74; go_wp2; go_ret; exact ⟨rfl, rfl⟩)
set_option maxHeartbeats 1000000 in
theorem isEndState_any (e m : Int) (w : World) : Calls Try.prog 97 #[.int .i64 e, .int .i64 m] w fun r w' => r = .returned (.bool (eok e m)) ∧ w = w' := by
  have HM : Hid (∀ u, Calls Try.prog 102 #[.int .i64 m] u fun r w' => r = .returned (.bool (mkB m)) ∧ u = w') := isMark_any m
  unfold eok
  by_cases h0 : e = 0
  · subst h0
    rw [if_pos rfl]
    go_enter Try.func97, Try.ntmps97
    go_wp2
    go_ret
    exact ⟨rfl, rfl⟩
  rw [if_neg h0]
  by_cases h1 : e = 1 ∨ e = 2 ∨ e = 3
  · rw [if_pos h1]
    rcases h1 with rfl | rfl | rfl
    all_goals
      go_enter Try.func97, Try.ntmps97
      go_wp2_with fail
      refine (HM.out _).mono ?_
      rintro r u ⟨rfl, rfl⟩
      go_wp2
      go_ret
      exact ⟨rfl, rfl⟩
  · rw [if_neg h1]
    have e0 : (e == 0) = false := by simpa using h0
    have e1 : (e == 1) = false := by simp; omega
    have e2 : (e == 2) = false := by simp; omega
    have e3 : (e == 3) = false := by simp; omega
    clear h0 h1
    go_enter Try.func97, Try.ntmps97
    go_wp2
    go_ret
    exact ⟨rfl, rfl⟩
set_option maxHeartbeats 1000000 in
theorem hasSet_any (s : List Int) (w : World) (hs : s.length = 66) : Calls Try.prog 90 #[ag s] w fun e w' => e = .returned (.bool (hasS s)) ∧ Below w.heap.size w w' := by
  obtain ⟨q, hq⟩ : ∃ q, hasS s = q := ⟨_, rfl⟩
  have HQ : Hid (hasS s = q) := hq
  have HL : Hid (s.length = 66) := hs
  rw [hq]
  clear hq hs
  go_enter Try.func90, Try.ntmps90
  go_wp2_with (refine a_box rfl rfl rfl ?_; intro u B hN; have hB := hN.lies; have HB : Hid (Below w.heap.size w u) := hN.below; clear hN)
  go_loopw [3] (fun i wr => ∃ k : Nat, 2 ≤ k ∧ k ≤ 32 ∧ i = .int .i64 (k : Int) ∧ u = wr ∧ Hid (anyF 32 (fun k => en s k != 0) k = q)) (fun i _ => 32 - (intOf i).toNat)
  case atStart => exact ⟨2, by omega, by omega, rfl, rfl, HQ.out⟩
  case round =>
    obtain ⟨k, hk2, hk, rfl, rfl, HA⟩ := hrel
    by_cases hlt : ¬ k < 32
    · have HQ2 : Hid (false = q) := by have := HA.out; rw [anyF_end (by omega)] at this; exact this
      clear HA HQ
      go_wp2
      go_ret
      rw [← HQ2.out]
      exact ⟨rfl, HB.out⟩
    have hlt : k < 32 := by omega
    have hc := bx_cell hB (cl_at (s := s) (j := 2 + k) (by rw [HL.out]; omega))
    have HS := HA.out
    rw [anyF_step hlt] at HS
    have HA2 : Hid ((en s k != 0) = true ∧ true = q ∨ (en s k != 0) = false ∧ anyF 32 (fun k => en s k != 0) (k + 1) = q) := by
      cases hq : (en s k != 0)
      · rw [hq] at HS; exact .inr ⟨rfl, HS⟩
      · rw [hq] at HS; exact .inl ⟨rfl, HS⟩
    clear HA HS HQ
    rcases HA2.out with ⟨h1, h2⟩ | ⟨h1, h2⟩
    · have HQ2 : Hid (true = q) := h2
      unfold en at h1
      clear h2 HA2
      go_wp2
      go_ret
      rw [← HQ2.out]
      exact ⟨rfl, HB.out⟩
    · have HQ2 : Hid (anyF 32 (fun k => en s k != 0) (k + 1) = q) := h2
      unfold en at h1
      clear h2 HA2
      go_wp2
      go_roundw
      case rel => exact ⟨k + 1, by omega, by omega, by go_num, trivial, HQ2.out⟩
      case measure => simp [intOf]; omega
set_option maxHeartbeats 1000000 in
theorem areEnds_any (s : List Int) (w : World) (hs : s.length = 66) : Calls Try.prog 89 #[ag s] w fun e w' => e = .returned (.bool (areE s)) ∧ Below w.heap.size w w' := by
  have HE : Hid (∀ e m u, Calls Try.prog 97 #[.int .i64 e, .int .i64 m] u fun r w' => r = .returned (.bool (eok e m)) ∧ u = w') := isEndState_any
  obtain ⟨q, hq⟩ : ∃ q, allF 32 (fun k => eok (en s k) (mk s k)) 0 = q := ⟨_, rfl⟩
  have HQ : Hid (allF 32 (fun k => eok (en s k) (mk s k)) 0 = q) := hq
  have HL : Hid (s.length = 66) := hs
  unfold areE
  rw [hq]
  clear hq hs
  go_enter Try.func89, Try.ntmps89
  go_wp2_with (first
    | (refine a_box rfl rfl rfl ?_; intro u B hN; have hB := hN.lies; have HB : Hid (Below w.heap.size w u) := hN.below; clear hN)
    | (refine a_load rfl rfl row_ends rfl hB (by rw [HL.out]; omega) rfl ?_))
  go_loopw [3, 4, 7] (fun _ _ i wr => ∃ k : Nat, k ≤ 32 ∧ i = .int .i64 (k : Int) ∧ u = wr ∧ Hid (allF 32 (fun k => eok (en s k) (mk s k)) k = q)) (fun _ _ i _ => 32 - (intOf i).toNat)
  case atStart => exact ⟨0, by omega, rfl, rfl, HQ.out⟩
  case round =>
    obtain ⟨k, hk, rfl, rfl, HA⟩ := hrel
    by_cases hlt : ¬ k < 32
    · have HQ2 : Hid (true = q) := by have := HA.out; rw [allF_end (by omega)] at this; exact this
      have h0 := bx_cell hB (cl_at (s := s) (j := 2) (by rw [HL.out]; omega))
      have h1 := bx_cell hB (cl_at (s := s) (j := 3) (by rw [HL.out]; omega))
      clear HA HQ
      cases hc : (cl s 2 == 0)
      · have HR : Hid ((q && (en s 0 == 0 && en s 1 != 0)) = false) := by rw [← HQ2.out]; show (true && ((cl s 2 == 0) && _)) = false; rw [hc]; rfl
        go_wp2
        go_ret
        rw [HR.out]
        exact ⟨rfl, HB.out⟩
      · have HR : Hid ((q && (en s 0 == 0 && en s 1 != 0)) = (cl s 3 != 0)) := by rw [← HQ2.out]; show (true && ((cl s 2 == 0) && _)) = _; rw [hc]; rfl
        go_wp2
        go_ret
        rw [HR.out]
        exact ⟨rfl, HB.out⟩
    have hlt : k < 32 := by omega
    have hm := bx_cell hB (cl_at (s := s) (j := 34 + k) (by rw [HL.out]; omega))
    have hix := run_index (cut s 2 32) k (cl s (2 + k)) (by rw [cl_at (by rw [cut_length (by rw [HL.out]; omega)]; omega), cl_cut hlt]) hlt
    have HS := HA.out
    rw [allF_step hlt] at HS
    have HA2 : Hid (eok (cl s (2 + k)) (cl s (34 + k)) = false ∧ false = q ∨ eok (cl s (2 + k)) (cl s (34 + k)) = true ∧ allF 32 (fun k => eok (en s k) (mk s k)) (k + 1) = q) := by
      unfold en mk at HS
      cases hq : eok (cl s (2 + k)) (cl s (34 + k))
      · rw [hq] at HS; exact .inl ⟨rfl, HS⟩
      · rw [hq] at HS; exact .inr ⟨rfl, HS⟩
    clear HA HS HQ
    go_wp2_with fail
    refine (HE.out _ _ _).mono ?_
    rintro r v ⟨rfl, rfl⟩
    rcases HA2.out with ⟨h1, h2⟩ | ⟨h1, h2⟩
    · have HQ2 : Hid (false = q) := h2
      rw [h1]
      clear h2 HA2
      go_wp2
      go_ret
      rw [← HQ2.out]
      exact ⟨rfl, HB.out⟩
    · have HQ2 : Hid (allF 32 (fun k => eok (en s k) (mk s k)) (k + 1) = q) := h2
      rw [h1]
      clear h2 HA2
      go_wp2
      go_roundw
      case rel => exact ⟨k + 1, by omega, by go_num, trivial, HQ2.out⟩
      case measure => simp [intOf]; omega
end Go.Proofs.Ythjmcopknkemnaa.slots
