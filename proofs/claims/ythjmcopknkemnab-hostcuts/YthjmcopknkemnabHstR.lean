/- host, the document's answer: what Two, Word and Unword answer. -/
import Derived.Test.YthjmcopknkemnabHstC
import Derived.Test.YthjmcopknkemnabRngR
import Derived.Test.YthjmcopknkemnabHstN
namespace Go.Proofs.Ythjmcopknkemnab.host
open Go Go.RowKit
open Go.Proofs.Ythjmcopknkemnab
open Go.Proofs.Ythjmcopknkemnab.slots (Row row_board row_cmd Chg ag fl Wf bsq)
open Go.Proofs.Ythjmcopknkemnab.ring (Ces Rcs rgV rgW Rg Ce ceV named keep below_drewN)
set_option linter.unusedVariables false
set_option linter.unusedSimpArgs false
set_option maxRecDepth 100000

theorem pow_le (k : Nat) (hk : k ≤ 60) : (1 : Int) ≤ 2 ^ k ∧ (2 : Int) ^ k ≤ 1152921504606846976 := by
  have h1 : 2 ^ k ≤ 2 ^ 60 := Nat.pow_le_pow_right (by omega) hk
  have h2 : 0 < 2 ^ k := Nat.pow_pos (by omega)
  have e : ((2 ^ k : Nat) : Int) = 2 ^ k := by simp
  omega
theorem two_any (k : Nat) (hk : k ≤ 60) (w : World) : Calls Try.prog 29 #[.int .i64 (k : Int)] w fun e w' => e = .returned (.int .i64 (2 ^ k)) ∧ w' = w := by
  go_enter Try.func29, Try.ntmps29
  go_wp2
  go_loopw [3, 5] (fun x i wr => ∃ j : Nat, j ≤ k ∧ i = .int .i64 (j : Int) ∧ x = .int .i64 (2 ^ j) ∧ wr = w) (fun _ i _ => k - (intOf i).toNat)
  case atStart => exact ⟨0, by omega, rfl, rfl, rfl⟩
  case round =>
    obtain ⟨j, hj, rfl, rfl, rfl⟩ := hrel
    by_cases hlt : ¬ j < k
    · have : j = k := by omega
      subst this
      go_wp2
      go_ret
      exact ⟨rfl, rfl⟩
    have hlt : j < k := by omega
    have hp := pow_le (j + 1) (by omega)
    have hp0 := pow_le j (by omega)
    obtain ⟨y, hy⟩ : ∃ y : Int, (2 : Int) ^ j = y := ⟨_, rfl⟩
    obtain ⟨z, hz⟩ : ∃ z : Int, y * 2 = z := ⟨_, rfl⟩
    have hyz : (2 : Int) ^ (j + 1) = z := by rw [Int.pow_succ, hy, hz]
    have HYZ : Hid ((2 : Int) ^ (j + 1) = z) := hyz
    rw [hyz] at hp
    rw [hy] at hp0
    obtain ⟨p1, p2⟩ := hp
    obtain ⟨p3, p4⟩ := hp0
    clear hyz
    rw [hy]
    clear hy
    go_wp2
    go_roundw
    case rel => exact ⟨j + 1, by omega, by go_num, by rw [HYZ.out], by first | trivial | rfl⟩
    case measure => simp [intOf]; omega
theorem two32 (w : World) : Calls Try.prog 29 #[.int .i64 32] w fun e w' => e = .returned (.int .i64 4294967296) ∧ w' = w := two_any 32 (by omega) w
theorem two45 (w : World) : Calls Try.prog 29 #[.int .i64 45] w fun e w' => e = .returned (.int .i64 35184372088832) ∧ w' = w := two_any 45 (by omega) w
theorem two24 (w : World) : Calls Try.prog 29 #[.int .i64 24] w fun e w' => e = .returned (.int .i64 16777216) ∧ w' = w := two_any 24 (by omega) w
set_option maxHeartbeats 2000000 in
theorem unword_any (x : Int) (w : World) (h0 : 0 ≤ x) (h1 : x < 18446744073709551616) : Calls Try.prog 26 #[.int .u64 x] w fun e w' => e = .returned (.tuple #[cmV (upV x), .int .i64 (upC x)]) ∧ Below w.heap.size w w' := by
  have hM := Mv.nil w
  have H45 : Hid (∀ u, Calls Try.prog 29 #[.int .i64 45] u fun e w' => e = .returned (.int .i64 35184372088832) ∧ w' = u) := two45
  have H32 : Hid (∀ u, Calls Try.prog 29 #[.int .i64 32] u fun e w' => e = .returned (.int .i64 4294967296) ∧ w' = u) := two32
  have HL : Hid (Vs (ivs [0, 0, 0, 0]) 4) := ivs_vs rfl
  unfold upV upC
  cases hc : cwB x
  · have hz : ¬ x < 35184372088832 := of_decide_eq_false hc
    have e1 : decide (35184372088832 ≤ x) = true := by simp; omega
    have hb := bld_c0
    clear h0 h1 hc
    go_enter Try.func26, Try.ntmps26
    repeat' (first | (go_big_may; first | (refine v_alloc rfl zer_cmd rfl ?_; intro u zb hN; replace hM := hM.new hN (by decide); clear hN)) | go_values | go_skip | go_guarded | go_step | go_upon | (simp only [Int.not_lt, Int.not_le] at *; go_simp))
    refine (H45.out _).mono ?_
    rintro r u ⟨rfl, rfl⟩
    repeat' (first | (go_big_may; first | (refine v_build rfl rfl hb ?hbv ?_; (case hbv => simp [Act.eval, Act.put])) | (refine v_fill rfl rfl row_cmd rfl rfl hM.at0 HL.out HL.out.len ?_; intro u hv hc; replace hM := hM.put0 hc hv; clear hv hc)) | go_values | go_skip | go_guarded | go_step | go_upon | (simp only [Int.not_lt, Int.not_le] at *; go_simp))
    exact bodyPost_ret (slots.ret_2 Try.results26 rfl (ld_var row_cmd hM.at0 HL.out.len) rfl) rfl ⟨rfl, hM.below⟩
  · have hz : x < 35184372088832 := of_decide_eq_true hc
    have e1 : decide (35184372088832 ≤ x) = false := by simp; omega
    rw [if_pos rfl, if_pos rfl]
    obtain ⟨t, ht⟩ : ∃ t, x / 4294967296 = t := ⟨_, rfl⟩
    obtain ⟨q1, hq1⟩ : ∃ t', t / 512 = t' := ⟨_, rfl⟩
    obtain ⟨q2, hq2⟩ : ∃ t', t / 32 = t' := ⟨_, rfl⟩
    obtain ⟨q3, hq3⟩ : ∃ t', q2 % 16 = t' := ⟨_, rfl⟩
    obtain ⟨q4, hq4⟩ : ∃ t', t % 32 = t' := ⟨_, rfl⟩
    obtain ⟨q5, hq5⟩ : ∃ t', x % 4294967296 = t' := ⟨_, rfl⟩
    have HU : Hid (upK x = (q1, q3, q4, q5)) := by
      show upK x = _
      unfold upK
      refine Prod.ext ?_ (Prod.ext ?_ (Prod.ext ?_ ?_)) <;> simp only <;> omega
    have b1 : 0 ≤ t ∧ t ≤ 8191 := by omega
    have b2 : 0 ≤ q1 ∧ q1 ≤ 15 := by omega
    have b3 : 0 ≤ q2 ∧ q2 ≤ 255 := by omega
    have b4 : 0 ≤ q3 ∧ q3 ≤ 15 := by omega
    have b5 : 0 ≤ q4 ∧ q4 ≤ 31 := by omega
    have b6 : 0 ≤ q5 ∧ q5 ≤ 4294967295 := by omega
    obtain ⟨b11, b12⟩ := b1
    obtain ⟨b21, b22⟩ := b2
    obtain ⟨b31, b32⟩ := b3
    obtain ⟨b41, b42⟩ := b4
    obtain ⟨b51, b52⟩ := b5
    obtain ⟨b61, b62⟩ := b6
    have hb := bld_c4 q1 q3 q4 q5
    have HV : Hid (Vs (ivs [q1, q3, q4, q5]) 4) := ivs_vs rfl
    have HW : Hid (IntKind.i64.wrap x = x) := by show _ = _; rw [IntKind.wrap_i64]; omega
    have hw := HW.out
    rw [HU.out]
    show Calls _ _ _ _ fun e w' => e = .returned (.tuple #[agv (ivs [q1, q3, q4, q5]), .int .i64 0]) ∧ _
    generalize ivs [q1, q3, q4, q5] = V at *
    clear hc HU
    go_enter Try.func26, Try.ntmps26
    repeat' (first | (go_big_may; first | (refine v_alloc rfl zer_cmd rfl ?_; intro u zb hN; replace hM := hM.new hN (by decide); clear hN)) | go_values | go_skip | go_guarded | go_step | go_upon | (simp only [Int.not_lt, Int.not_le] at *; go_simp))
    refine (H45.out _).mono ?_
    rintro r u ⟨rfl, rfl⟩
    repeat' (first | go_values | go_skip | go_guarded | go_step | go_upon | (simp only [Int.not_lt, Int.not_le] at *; go_simp))
    refine (H32.out _).mono ?_
    rintro r u ⟨rfl, rfl⟩
    repeat' (first | go_values | go_skip | go_guarded | go_step | go_upon | (simp only [Int.not_lt, Int.not_le] at *; go_simp))
    refine (H32.out _).mono ?_
    rintro r u ⟨rfl, rfl⟩
    repeat' (first | (go_big_may; first | (refine v_build rfl rfl hb ?hbv ?_; (case hbv => simp [Act.eval, Act.put, hq5])) | (refine v_fill rfl rfl row_cmd rfl rfl hM.at0 HV.out HL.out.len ?_; intro u hv hc; replace hM := hM.put0 hc hv; clear hv hc)) | go_values | go_skip | go_guarded | go_step | go_upon | (simp only [Int.not_lt, Int.not_le] at *; go_simp))
    exact bodyPost_ret (slots.ret_2 Try.results26 rfl (ld_var row_cmd hM.at0 HV.out.len) rfl) rfl ⟨rfl, hM.below⟩
end Go.Proofs.Ythjmcopknkemnab.host
