/- host, the document's answer: what Two, Word and Unword answer. -/
import Derived.Test.YthjmcopknkemnaaHstC
import Derived.Test.YthjmcopknkemnaaZPa
import Derived.Test.YthjmcopknkemnaaHstN
import Derived.Test.YthjmcopknkemnaaHstE
import Derived.Test.YthjmcopknkemnaaZPb
import Derived.Test.YthjmcopknkemnaaSltE
import Derived.Test.YthjmcopknkemnaaHstL
namespace Go.Proofs.Ythjmcopknkemnaa.host
open Go Go.RowKit
open Go.Proofs.Ythjmcopknkemnaa
open Go.Proofs.Ythjmcopknkemnaa.slots (Row row_board row_cmd Chg ag fl Wf bsq)
open Go.Proofs.Ythjmcopknkemnaa.ring (Ces Rcs rgV rgW Rg Ce ceV named keep below_drewN)
set_option linter.unusedVariables false
set_option linter.unusedSimpArgs false
set_option maxRecDepth 100000

theorem pow_le (k : Nat) (hk : k ≤ 60) : (1 : Int) ≤ 2 ^ k ∧ (2 : Int) ^ k ≤ 1152921504606846976 := by
  have h1 : 2 ^ k ≤ 2 ^ 60 := Nat.pow_le_pow_right (by omega) hk
  have h2 : 0 < 2 ^ k := Nat.pow_pos (by omega)
  have e : ((2 ^ k : Nat) : Int) = 2 ^ k := by simp
  omega
theorem two_any (k : Nat) (hk : k ≤ 60) (w : World) : Calls Try.prog 33 #[.int .i64 (k : Int)] w fun e w' => e = .returned (.int .i64 (2 ^ k)) ∧ w' = w := by
  go_enter Try.func33, Try.ntmps33
  go_wp2
  go_loopw [3, 5] (fun x i wr => ∃ j : Nat, j ≤ k ∧ i = .int .i64 (j : Int) ∧ x = .int .i64 (2 ^ j) ∧ wr = w) (fun _ i _ => k - (intOf i).toNat)
  case atStart => exact ⟨0, by omega, rfl, rfl, rfl⟩
  case round =>
    obtain ⟨j, hj, rfl, rfl, rfl⟩ := hrel
    by_cases hlt : ¬ j < k
    · have : j = k := by omega
      subst this
      go_wp2
      go_ret
      exact ⟨rfl, rfl⟩
    have hlt : j < k := by omega
    have hp := pow_le (j + 1) (by omega)
    have hp0 := pow_le j (by omega)
    obtain ⟨y, hy⟩ : ∃ y : Int, (2 : Int) ^ j = y := ⟨_, rfl⟩
    obtain ⟨z, hz⟩ : ∃ z : Int, y * 2 = z := ⟨_, rfl⟩
    have hyz : (2 : Int) ^ (j + 1) = z := by rw [Int.pow_succ, hy, hz]
    have HYZ : Hid ((2 : Int) ^ (j + 1) = z) := hyz
    rw [hyz] at hp
    rw [hy] at hp0
    obtain ⟨p1, p2⟩ := hp
    obtain ⟨p3, p4⟩ := hp0
    clear hyz
    rw [hy]
    clear hy
    go_wp2
    go_roundw
    case rel => exact ⟨j + 1, by omega, by go_num, by rw [HYZ.out], by first | trivial | rfl⟩
    case measure => simp [intOf]; omega
theorem two32 (w : World) : Calls Try.prog 33 #[.int .i64 32] w fun e w' => e = .returned (.int .i64 4294967296) ∧ w' = w := two_any 32 (by omega) w
theorem two45 (w : World) : Calls Try.prog 33 #[.int .i64 45] w fun e w' => e = .returned (.int .i64 35184372088832) ∧ w' = w := two_any 45 (by omega) w
theorem two24 (w : World) : Calls Try.prog 33 #[.int .i64 24] w fun e w' => e = .returned (.int .i64 16777216) ∧ w' = w := two_any 24 (by omega) w
set_option maxHeartbeats 2000000 in
theorem unword_any (x : Int) (w : World) (h0 : 0 ≤ x) (h1 : x < 18446744073709551616) : Calls Try.prog 12 #[.int .u64 x] w fun e w' => e = .returned (.tuple #[cmV (upV x), .int .i64 (upC x)]) ∧ Below w.heap.size w w' := by
  have hM := Mv.nil w
  have H45 : Hid (∀ u, Calls Try.prog 33 #[.int .i64 45] u fun e w' => e = .returned (.int .i64 35184372088832) ∧ w' = u) := two45
  have H32 : Hid (∀ u, Calls Try.prog 33 #[.int .i64 32] u fun e w' => e = .returned (.int .i64 4294967296) ∧ w' = u) := two32
  have HL : Hid (Vs (ivs [0, 0, 0, 0]) 4) := ivs_vs rfl
  unfold upV upC
  cases hc : cwB x
  · have hz : ¬ x < 35184372088832 := of_decide_eq_false hc
    have e1 : decide (35184372088832 ≤ x) = true := by simp; omega
    have hb := bld_c0
    clear h0 h1 hc
    go_enter Try.func12, Try.ntmps12
    repeat' (first | (go_big_may; first | (refine v_alloc rfl zer_cmd rfl ?_; intro u zb hN; replace hM := hM.new hN (by decide); clear hN)) | go_values | go_skip | go_guarded | go_step | go_upon | (simp only [Int.not_lt, Int.not_le] at *; go_simp))
    refine (H45.out _).mono ?_
    rintro r u ⟨rfl, rfl⟩
    repeat' (first | (go_big_may; first | (refine v_build rfl rfl hb ?hbv ?_; (case hbv => simp [Act.eval, Act.put])) | (refine v_fill rfl rfl row_cmd rfl rfl hM.at0 HL.out HL.out.len ?_; intro u hv hc; replace hM := hM.put0 hc hv; clear hv hc)) | go_values | go_skip | go_guarded | go_step | go_upon | (simp only [Int.not_lt, Int.not_le] at *; go_simp))
    exact bodyPost_ret (slots.ret_2 Try.results12 rfl (ld_var row_cmd hM.at0 HL.out.len) rfl) rfl ⟨rfl, hM.below⟩
  · have hz : x < 35184372088832 := of_decide_eq_true hc
    have e1 : decide (35184372088832 ≤ x) = false := by simp; omega
    rw [if_pos rfl, if_pos rfl]
    obtain ⟨t, ht⟩ : ∃ t, x / 4294967296 = t := ⟨_, rfl⟩
    obtain ⟨q1, hq1⟩ : ∃ t', t / 512 = t' := ⟨_, rfl⟩
    obtain ⟨q2, hq2⟩ : ∃ t', t / 32 = t' := ⟨_, rfl⟩
    obtain ⟨q3, hq3⟩ : ∃ t', q2 % 16 = t' := ⟨_, rfl⟩
    obtain ⟨q4, hq4⟩ : ∃ t', t % 32 = t' := ⟨_, rfl⟩
    obtain ⟨q5, hq5⟩ : ∃ t', x % 4294967296 = t' := ⟨_, rfl⟩
    have HU : Hid (upK x = (q1, q3, q4, q5)) := by
      show upK x = _
      unfold upK
      refine Prod.ext ?_ (Prod.ext ?_ (Prod.ext ?_ ?_)) <;> simp only <;> omega
    have b1 : 0 ≤ t ∧ t ≤ 8191 := by omega
    have b2 : 0 ≤ q1 ∧ q1 ≤ 15 := by omega
    have b3 : 0 ≤ q2 ∧ q2 ≤ 255 := by omega
    have b4 : 0 ≤ q3 ∧ q3 ≤ 15 := by omega
    have b5 : 0 ≤ q4 ∧ q4 ≤ 31 := by omega
    have b6 : 0 ≤ q5 ∧ q5 ≤ 4294967295 := by omega
    obtain ⟨b11, b12⟩ := b1
    obtain ⟨b21, b22⟩ := b2
    obtain ⟨b31, b32⟩ := b3
    obtain ⟨b41, b42⟩ := b4
    obtain ⟨b51, b52⟩ := b5
    obtain ⟨b61, b62⟩ := b6
    have hb := bld_c4 q1 q3 q4 q5
    have HV : Hid (Vs (ivs [q1, q3, q4, q5]) 4) := ivs_vs rfl
    have HW : Hid (IntKind.i64.wrap x = x) := by show _ = _; rw [IntKind.wrap_i64]; omega
    have hw := HW.out
    rw [HU.out]
    show Calls _ _ _ _ fun e w' => e = .returned (.tuple #[agv (ivs [q1, q3, q4, q5]), .int .i64 0]) ∧ _
    generalize ivs [q1, q3, q4, q5] = V at *
    clear hc HU
    go_enter Try.func12, Try.ntmps12
    repeat' (first | (go_big_may; first | (refine v_alloc rfl zer_cmd rfl ?_; intro u zb hN; replace hM := hM.new hN (by decide); clear hN)) | go_values | go_skip | go_guarded | go_step | go_upon | (simp only [Int.not_lt, Int.not_le] at *; go_simp))
    refine (H45.out _).mono ?_
    rintro r u ⟨rfl, rfl⟩
    repeat' (first | go_values | go_skip | go_guarded | go_step | go_upon | (simp only [Int.not_lt, Int.not_le] at *; go_simp))
    refine (H32.out _).mono ?_
    rintro r u ⟨rfl, rfl⟩
    repeat' (first | go_values | go_skip | go_guarded | go_step | go_upon | (simp only [Int.not_lt, Int.not_le] at *; go_simp))
    refine (H32.out _).mono ?_
    rintro r u ⟨rfl, rfl⟩
    repeat' (first | (go_big_may; first | (refine v_build rfl rfl hb ?hbv ?_; (case hbv => simp [Act.eval, Act.put, hq5])) | (refine v_fill rfl rfl row_cmd rfl rfl hM.at0 HV.out HL.out.len ?_; intro u hv hc; replace hM := hM.put0 hc hv; clear hv hc)) | go_values | go_skip | go_guarded | go_step | go_upon | (simp only [Int.not_lt, Int.not_le] at *; go_simp))
    exact bodyPost_ret (slots.ret_2 Try.results12 rfl (ld_var row_cmd hM.at0 HV.out.len) rfl) rfl ⟨rfl, hM.below⟩
end Go.Proofs.Ythjmcopknkemnaa.host

/- host, the document's answer: what Word answers. -/
namespace Go.Proofs.Ythjmcopknkemnaa.host
open Go Go.RowKit
open Go.Proofs.Ythjmcopknkemnaa
open Go.Proofs.Ythjmcopknkemnaa.slots (Row row_board row_cmd Chg ag fl Wf bsq)
open Go.Proofs.Ythjmcopknkemnaa.ring (Ces Rcs rgV rgW Rg Ce ceV named keep below_drewN)
set_option linter.unusedVariables false
set_option linter.unusedSimpArgs false
set_option maxRecDepth 100000

def btw (x lo hi : Int) : Bool := decide (lo ≤ x) && decide (x ≤ hi)
theorem btw_any (x lo hi : Int) (u : World) : Calls Try.prog 32 #[.int .i64 x, .int .i64 lo, .int .i64 hi] u fun e w' => e = .returned (.bool (btw x lo hi)) ∧ w' = u := (ring.between_any x lo hi u).mono fun e w' h => ⟨h.1, h.2.symm⟩
set_option maxHeartbeats 2000000 in
theorem word_no1 (k n e a : Int) (w : World)  (h1 : btw k 0 15 = false) : Calls Try.prog 10 #[agv (ivs [k, n, e, a])] w fun r w' => r = .returned (.tuple #[.int .u64 0, .int .i64 1]) ∧ Below w.heap.size w w' := by
  have HB : Hid (∀ x lo hi u, Calls Try.prog 32 #[.int .i64 x, .int .i64 lo, .int .i64 hi] u fun e w' => e = .returned (.bool (btw x lo hi)) ∧ w' = u) := btw_any
  have H32 : Hid (∀ u, Calls Try.prog 33 #[.int .i64 32] u fun e w' => e = .returned (.int .i64 4294967296) ∧ w' = u) := two32
  have Q0 : Hid ((ivs [k, n, e, a])[0]? = some (.int .i64 k)) := rfl
  have Q1 : Hid ((ivs [k, n, e, a])[1]? = some (.int .i64 n)) := rfl
  have Q2 : Hid ((ivs [k, n, e, a])[2]? = some (.int .i64 e)) := rfl
  have Q3 : Hid ((ivs [k, n, e, a])[3]? = some (.int .i64 a)) := rfl
  have hM := Mv.nil w
  generalize ivs [k, n, e, a] = V at *
  go_enter Try.func10, Try.ntmps10
  repeat' (first | (go_big_may; first | (refine v_box rfl rfl rfl ?_; intro u zb hN; replace hM := hM.new hN (by decide); clear hN)) | go_values | go_skip | go_guarded | go_step | go_upon | (simp only [Int.not_lt, Int.not_le] at *; go_simp))
  have d0 := bv_cell hM.at0 Q0.out
  have d1 := bv_cell hM.at0 Q1.out
  have d2 := bv_cell hM.at0 Q2.out
  have d3 := bv_cell hM.at0 Q3.out
  have HMB : Hid (Below w.heap.size w u) := hM.below
  clear hM
  go_wp2_with fail
  go_quiet (first | (go_at_call 32; exact Calls.quiet_of_same (HB.out _ _ _ _)) | (go_at_call 33; exact Calls.quiet_of_same (H32.out _)))
  go_wp2
  go_ret2
  exact ⟨rfl, below_drewN HMB.out _⟩
set_option maxHeartbeats 2000000 in
theorem word_no2 (k n e a : Int) (w : World) (h1 : btw k 0 15 = true) (h2 : btw n 0 15 = false) : Calls Try.prog 10 #[agv (ivs [k, n, e, a])] w fun r w' => r = .returned (.tuple #[.int .u64 0, .int .i64 1]) ∧ Below w.heap.size w w' := by
  have HB : Hid (∀ x lo hi u, Calls Try.prog 32 #[.int .i64 x, .int .i64 lo, .int .i64 hi] u fun e w' => e = .returned (.bool (btw x lo hi)) ∧ w' = u) := btw_any
  have H32 : Hid (∀ u, Calls Try.prog 33 #[.int .i64 32] u fun e w' => e = .returned (.int .i64 4294967296) ∧ w' = u) := two32
  have Q0 : Hid ((ivs [k, n, e, a])[0]? = some (.int .i64 k)) := rfl
  have Q1 : Hid ((ivs [k, n, e, a])[1]? = some (.int .i64 n)) := rfl
  have Q2 : Hid ((ivs [k, n, e, a])[2]? = some (.int .i64 e)) := rfl
  have Q3 : Hid ((ivs [k, n, e, a])[3]? = some (.int .i64 a)) := rfl
  have hM := Mv.nil w
  generalize ivs [k, n, e, a] = V at *
  go_enter Try.func10, Try.ntmps10
  repeat' (first | (go_big_may; first | (refine v_box rfl rfl rfl ?_; intro u zb hN; replace hM := hM.new hN (by decide); clear hN)) | go_values | go_skip | go_guarded | go_step | go_upon | (simp only [Int.not_lt, Int.not_le] at *; go_simp))
  have d0 := bv_cell hM.at0 Q0.out
  have d1 := bv_cell hM.at0 Q1.out
  have d2 := bv_cell hM.at0 Q2.out
  have d3 := bv_cell hM.at0 Q3.out
  have HMB : Hid (Below w.heap.size w u) := hM.below
  clear hM
  go_wp2_with fail
  go_quiet (first | (go_at_call 32; exact Calls.quiet_of_same (HB.out _ _ _ _)) | (go_at_call 33; exact Calls.quiet_of_same (H32.out _)))
  go_wp2
  go_ret2
  exact ⟨rfl, below_drewN HMB.out _⟩
set_option maxHeartbeats 2000000 in
theorem word_no3 (k n e a : Int) (w : World) (h1 : btw k 0 15 = true) (h2 : btw n 0 15 = true) (h3 : btw e 0 31 = false) : Calls Try.prog 10 #[agv (ivs [k, n, e, a])] w fun r w' => r = .returned (.tuple #[.int .u64 0, .int .i64 1]) ∧ Below w.heap.size w w' := by
  have HB : Hid (∀ x lo hi u, Calls Try.prog 32 #[.int .i64 x, .int .i64 lo, .int .i64 hi] u fun e w' => e = .returned (.bool (btw x lo hi)) ∧ w' = u) := btw_any
  have H32 : Hid (∀ u, Calls Try.prog 33 #[.int .i64 32] u fun e w' => e = .returned (.int .i64 4294967296) ∧ w' = u) := two32
  have Q0 : Hid ((ivs [k, n, e, a])[0]? = some (.int .i64 k)) := rfl
  have Q1 : Hid ((ivs [k, n, e, a])[1]? = some (.int .i64 n)) := rfl
  have Q2 : Hid ((ivs [k, n, e, a])[2]? = some (.int .i64 e)) := rfl
  have Q3 : Hid ((ivs [k, n, e, a])[3]? = some (.int .i64 a)) := rfl
  have hM := Mv.nil w
  generalize ivs [k, n, e, a] = V at *
  go_enter Try.func10, Try.ntmps10
  repeat' (first | (go_big_may; first | (refine v_box rfl rfl rfl ?_; intro u zb hN; replace hM := hM.new hN (by decide); clear hN)) | go_values | go_skip | go_guarded | go_step | go_upon | (simp only [Int.not_lt, Int.not_le] at *; go_simp))
  have d0 := bv_cell hM.at0 Q0.out
  have d1 := bv_cell hM.at0 Q1.out
  have d2 := bv_cell hM.at0 Q2.out
  have d3 := bv_cell hM.at0 Q3.out
  have HMB : Hid (Below w.heap.size w u) := hM.below
  clear hM
  go_wp2_with fail
  go_quiet (first | (go_at_call 32; exact Calls.quiet_of_same (HB.out _ _ _ _)) | (go_at_call 33; exact Calls.quiet_of_same (H32.out _)))
  go_wp2
  go_ret2
  exact ⟨rfl, below_drewN HMB.out _⟩
set_option maxHeartbeats 2000000 in
theorem word_no4 (k n e a : Int) (w : World) (h1 : btw k 0 15 = true) (h2 : btw n 0 15 = true) (h3 : btw e 0 31 = true) (h4 : btw a 0 4294967295 = false) : Calls Try.prog 10 #[agv (ivs [k, n, e, a])] w fun r w' => r = .returned (.tuple #[.int .u64 0, .int .i64 1]) ∧ Below w.heap.size w w' := by
  have HB : Hid (∀ x lo hi u, Calls Try.prog 32 #[.int .i64 x, .int .i64 lo, .int .i64 hi] u fun e w' => e = .returned (.bool (btw x lo hi)) ∧ w' = u) := btw_any
  have H32 : Hid (∀ u, Calls Try.prog 33 #[.int .i64 32] u fun e w' => e = .returned (.int .i64 4294967296) ∧ w' = u) := two32
  have Q0 : Hid ((ivs [k, n, e, a])[0]? = some (.int .i64 k)) := rfl
  have Q1 : Hid ((ivs [k, n, e, a])[1]? = some (.int .i64 n)) := rfl
  have Q2 : Hid ((ivs [k, n, e, a])[2]? = some (.int .i64 e)) := rfl
  have Q3 : Hid ((ivs [k, n, e, a])[3]? = some (.int .i64 a)) := rfl
  have hM := Mv.nil w
  generalize ivs [k, n, e, a] = V at *
  go_enter Try.func10, Try.ntmps10
  repeat' (first | (go_big_may; first | (refine v_box rfl rfl rfl ?_; intro u zb hN; replace hM := hM.new hN (by decide); clear hN)) | go_values | go_skip | go_guarded | go_step | go_upon | (simp only [Int.not_lt, Int.not_le] at *; go_simp))
  have d0 := bv_cell hM.at0 Q0.out
  have d1 := bv_cell hM.at0 Q1.out
  have d2 := bv_cell hM.at0 Q2.out
  have d3 := bv_cell hM.at0 Q3.out
  have HMB : Hid (Below w.heap.size w u) := hM.below
  clear hM
  go_wp2_with fail
  go_quiet (first | (go_at_call 32; exact Calls.quiet_of_same (HB.out _ _ _ _)) | (go_at_call 33; exact Calls.quiet_of_same (H32.out _)))
  go_wp2
  go_ret2
  exact ⟨rfl, below_drewN HMB.out _⟩
set_option maxHeartbeats 4000000 in
theorem word_yes (k n e a : Int) (w : World) (hpk : Pk (k, n, e, a)) (h1 : btw k 0 15 = true) (h2 : btw n 0 15 = true) (h3 : btw e 0 31 = true) (h4 : btw a 0 4294967295 = true) : Calls Try.prog 10 #[agv (ivs [k, n, e, a])] w fun r w' => r = .returned (.tuple #[.int .u64 (pkW (k, n, e, a)), .int .i64 0]) ∧ Below w.heap.size w w' := by
  have HB : Hid (∀ x lo hi u, Calls Try.prog 32 #[.int .i64 x, .int .i64 lo, .int .i64 hi] u fun e w' => e = .returned (.bool (btw x lo hi)) ∧ w' = u) := btw_any
  have H32 : Hid (∀ u, Calls Try.prog 33 #[.int .i64 32] u fun e w' => e = .returned (.int .i64 4294967296) ∧ w' = u) := two32
  have Q0 : Hid ((ivs [k, n, e, a])[0]? = some (.int .i64 k)) := rfl
  have Q1 : Hid ((ivs [k, n, e, a])[1]? = some (.int .i64 n)) := rfl
  have Q2 : Hid ((ivs [k, n, e, a])[2]? = some (.int .i64 e)) := rfl
  have Q3 : Hid ((ivs [k, n, e, a])[3]? = some (.int .i64 a)) := rfl
  have hM := Mv.nil w
  obtain ⟨k0, k1, n0, n1, e0, e1, a0, a1⟩ := hpk
  simp only at k0 k1 n0 n1 e0 e1 a0 a1
  obtain ⟨y1, hy1⟩ : ∃ y, k * 16 = y := ⟨_, rfl⟩
  obtain ⟨y2, hy2⟩ : ∃ y, y1 + n = y := ⟨_, rfl⟩
  obtain ⟨y3, hy3⟩ : ∃ y, y2 * 32 = y := ⟨_, rfl⟩
  obtain ⟨y4, hy4⟩ : ∃ y, y3 + e = y := ⟨_, rfl⟩
  obtain ⟨y5, hy5⟩ : ∃ y, y4 * 4294967296 = y := ⟨_, rfl⟩
  obtain ⟨y6, hy6⟩ : ∃ y, y5 + a = y := ⟨_, rfl⟩
  have HW : Hid (pkW (k, n, e, a) = y6) := by show pkW _ = _; unfold pkW; simp only; omega
  rw [HW.out]
  have c1 : 0 ≤ y1 := by omega
  have c2 : y1 ≤ 240 := by omega
  have c3 : 0 ≤ y2 := by omega
  have c4 : y2 ≤ 255 := by omega
  have c5 : 0 ≤ y3 := by omega
  have c6 : y3 ≤ 8160 := by omega
  have c7 : 0 ≤ y4 := by omega
  have c8 : y4 ≤ 8191 := by omega
  have c9 : 0 ≤ y5 := by omega
  have c10 : y5 ≤ 35180077121536 := by omega
  have c11 : 0 ≤ y6 := by omega
  have c12 : y6 ≤ 35184372088831 := by omega
  have hwr : IntKind.u64.wrap y6 = y6 := by rw [IntKind.wrap_u64]; omega
  clear HW
  generalize ivs [k, n, e, a] = V at *
  go_enter Try.func10, Try.ntmps10
  repeat' (first | (go_big_may; first | (refine v_box rfl rfl rfl ?_; intro u zb hN; replace hM := hM.new hN (by decide); clear hN)) | go_values | go_skip | go_guarded | go_step | go_upon | (simp only [Int.not_lt, Int.not_le] at *; go_simp))
  have d0 := bv_cell hM.at0 Q0.out
  have d1 := bv_cell hM.at0 Q1.out
  have d2 := bv_cell hM.at0 Q2.out
  have d3 := bv_cell hM.at0 Q3.out
  have HMB : Hid (Below w.heap.size w u) := hM.below
  clear hM
  go_wp2_with fail
  go_quiet (first | (go_at_call 32; exact Calls.quiet_of_same (HB.out _ _ _ _)) | (go_at_call 33; exact Calls.quiet_of_same (H32.out _)))
  go_wp2_with fail
  generalize hu9 : u.drewN nq = u9
  have f0 : u9.cell? ⟨zb, 0, none⟩ = some (.int .i64 k) := by rw [← hu9]; exact d0
  have f1 : u9.cell? ⟨zb, 1, none⟩ = some (.int .i64 n) := by rw [← hu9]; exact d1
  have f2 : u9.cell? ⟨zb, 2, none⟩ = some (.int .i64 e) := by rw [← hu9]; exact d2
  have f3 : u9.cell? ⟨zb, 3, none⟩ = some (.int .i64 a) := by rw [← hu9]; exact d3
  have HU9 : Hid (Below w.heap.size w u9) := by rw [← hu9]; exact below_drewN HMB.out _
  clear d0 d1 d2 d3 hu9
  go_quiet ((go_at_call 33; exact Calls.quiet_of_same (H32.out _)))
  go_wp2
  go_ret2
  exact ⟨rfl, below_drewN HU9.out _⟩
theorem word_any (x : Cm) (w : World) : Calls Try.prog 10 #[cmV x] w fun e w' => e = .returned (.tuple #[.int .u64 (pkV x), .int .i64 (pkC x)]) ∧ Below w.heap.size w w' := by
  obtain ⟨k, n, e, a⟩ := x
  show Calls Try.prog 10 #[agv (ivs [k, n, e, a])] w _
  have hp : pkB (k, n, e, a) = (btw k 0 15 && (btw n 0 15 && (btw e 0 31 && btw a 0 4294967295))) := rfl
  unfold pkV pkC
  cases h1 : btw k 0 15
  · rw [h1] at hp; rw [hp]; exact word_no1 k n e a w h1
  cases h2 : btw n 0 15
  · rw [h1, h2] at hp; rw [hp]; exact word_no2 k n e a w h1 h2
  cases h3 : btw e 0 31
  · rw [h1, h2, h3] at hp; rw [hp]; exact word_no3 k n e a w h1 h2 h3
  cases h4 : btw a 0 4294967295
  · rw [h1, h2, h3, h4] at hp; rw [hp]; exact word_no4 k n e a w h1 h2 h3 h4
  have hb : pkB (k, n, e, a) = true := by rw [hp, h1, h2, h3, h4]; rfl
  rw [hb]
  exact word_yes k n e a w (pk_iff.1 hb) h1 h2 h3 h4
end Go.Proofs.Ythjmcopknkemnaa.host

/- host, the document's answer: what SameMachine and Machine answer. -/
namespace Go.Proofs.Ythjmcopknkemnaa.host
open Go Go.RowKit
open Go.Proofs.Ythjmcopknkemnaa
open Go.Proofs.Ythjmcopknkemnaa.slots (Row row_board row_cmd Chg ag fl Wf bsq)
open Go.Proofs.Ythjmcopknkemnaa.ring (Ces Rcs rgV rgW Rg Ce ceV named keep below_drewN laid3 box3 ceO)
set_option linter.unusedVariables false
set_option linter.unusedSimpArgs false
set_option maxRecDepth 100000

theorem sam_self (r : Rg) : ring.samB r r = true := by unfold ring.samB; simp
set_option maxHeartbeats 4000000 in
theorem same_mc (vc ve vc' ve' : Value) (m : Mc) (w : World) (h1 : Rcs w vc m.c.C) (h2 : Rcs w ve m.e.C) (h3 : Rcs w vc' m.c.C) (h4 : Rcs w ve' m.e.C) (hB : Wf m.B) :
    Calls Try.prog 15 #[agv (mvl vc ve m), agv (mvl vc' ve' m)] w fun e w' => e = .returned (.bool true) ∧ Below w.heap.size w w' := by
  have hM : Mv w w [] [(false, vc, m.c.C), (false, ve, m.e.C), (false, vc', m.c.C), (false, ve', m.e.C)] := ((((Mv.nil w).old h4).old h3).old h2).old h1
  have V1 := mvl_vs (rcs_one h1) (rcs_one h2) hB
  have V2 := mvl_vs (rcs_one h3) (rcs_one h4) hB
  have A0 : Hid (0 + 6 ≤ (mvl vc ve m).length) := by show _ ≤ _; rw [V1.len]; omega
  have A6 : Hid (6 + 6 ≤ (mvl vc ve m).length) := by show _ ≤ _; rw [V1.len]; omega
  have A12 : Hid (12 + 594 ≤ (mvl vc ve m).length) := by show _ ≤ _; rw [V1.len]; exact Nat.le_refl _
  have B0 : Hid (cv (mvl vc ve m) 0 6 = rgl vc m.c) := cv_c _ _ _
  have B6 : Hid (cv (mvl vc ve m) 6 6 = rgl ve m.e) := cv_e _ _ _
  have B12 : Hid (cv (mvl vc ve m) 12 594 = ivs (fl m.B)) := cv_b _ _ hB
  have C0 : Hid (0 + 6 ≤ (mvl vc' ve' m).length) := by show _ ≤ _; rw [V2.len]; omega
  have C6 : Hid (6 + 6 ≤ (mvl vc' ve' m).length) := by show _ ≤ _; rw [V2.len]; omega
  have C12 : Hid (12 + 594 ≤ (mvl vc' ve' m).length) := by show _ ≤ _; rw [V2.len]; exact Nat.le_refl _
  have D0 : Hid (cv (mvl vc' ve' m) 0 6 = rgl vc' m.c) := cv_c _ _ _
  have D6 : Hid (cv (mvl vc' ve' m) 6 6 = rgl ve' m.e) := cv_e _ _ _
  have D12 : Hid (cv (mvl vc' ve' m) 12 594 = ivs (fl m.B)) := cv_b _ _ hB
  have HS1 : Hid (∀ u, Rcs u vc m.c.C → Rcs u vc' m.c.C → Calls Try.prog 40 #[agv (rgl vc m.c), agv (rgl vc' m.c)] u fun e w' => e = .returned (.bool true) ∧ Below u.heap.size u w') := fun u k1 k2 => by
    have := ring.same_any m.c m.c vc vc' u k1 k2
    rw [sam_self] at this
    exact this
  have HS2 : Hid (∀ u, Rcs u ve m.e.C → Rcs u ve' m.e.C → Calls Try.prog 40 #[agv (rgl ve m.e), agv (rgl ve' m.e)] u fun e w' => e = .returned (.bool true) ∧ Below u.heap.size u w') := fun u k1 k2 => by
    have := ring.same_any m.e m.e ve ve' u k1 k2
    rw [sam_self] at this
    exact this
  have HBL : Hid ((fl m.B).length = 594) := hB.length
  generalize mvl vc ve m = X1 at *
  generalize mvl vc' ve' m = X2 at *
  generalize fl m.B = F at *
  clear V1 V2 h1 h2 h3 h4 hB
  go_enter Try.func15, Try.ntmps15
  repeat' (first | (go_big_may; first | (refine v_box rfl rfl rfl ?_; intro u xa hN; replace hM := hM.new hN (by decide); clear hN) | (refine v_box rfl rfl rfl ?_; intro u xb hN; replace hM := hM.new hN (by decide); clear hN) | (refine v_load rfl rfl row_ring rfl hM.at1 A0.out B0.out ?_) | (refine v_load rfl rfl row_ring rfl hM.at0 C0.out D0.out ?_)) | go_values | go_skip | go_guarded | go_step | go_upon | (simp only [Int.not_lt, Int.not_le] at *; go_simp))
  refine (HS1.out _ (hM.read (b := false) (by simp)) (hM.read (b := false) (by simp))).mono ?_
  rintro r u1 ⟨rfl, hv⟩
  replace hM := hM.call hv
  clear hv
  repeat' (first | (go_big_may; first | (refine v_load rfl rfl row_ring rfl hM.at1 A6.out B6.out ?_) | (refine v_load rfl rfl row_ring rfl hM.at0 C6.out D6.out ?_)) | go_values | go_skip | go_guarded | go_step | go_upon | (simp only [Int.not_lt, Int.not_le] at *; go_simp))
  refine (HS2.out _ (hM.read (b := false) (by simp)) (hM.read (b := false) (by simp))).mono ?_
  rintro r u2 ⟨rfl, hv⟩
  replace hM := hM.call hv
  clear hv
  repeat' (first | (go_big_may; first | (refine v_load rfl rfl row_board rfl hM.at1 A12.out B12.out ?_) | (refine v_load rfl rfl row_board rfl hM.at0 C12.out D12.out ?_) | (refine slots.a_eql rfl rfl slots.cmp_board (l := F) (m := F) rfl rfl HBL.out HBL.out ?_; rw [decide_eq_true (rfl : F = F)])) | go_values | go_skip | go_guarded | go_step | go_upon | (simp only [Int.not_lt, Int.not_le] at *; go_simp))
  go_ret
  exact ⟨rfl, hM.below⟩
theorem noEv_any (x : Ce) (w : World) (h0 : 0 ≤ x.1) (h1 : x.1 < 18446744073709551616) : Calls Try.prog 65 #[ceV x.1 x.2.1 x.2.2] w fun e w' => e = .returned (.bool (!ewB x.1)) ∧ Below w.heap.size w w' := by
  obtain ⟨xw, xb, xl⟩ := x
  simp only at h0 h1 ⊢
  obtain ⟨w1, hw1, hX1, hb1⟩ := named w (.cells #[.int .u64 xw, .int .i64 xb, .bool xl] 91)
  obtain ⟨⟨hz, x0, x1, x2⟩, _⟩ := ring.box3 hX1
  have HB1 : Hid (Below w.heap.size w w1) := hb1
  have H24 : Hid (∀ u, Calls Try.prog 33 #[.int .i64 24] u fun e w' => e = .returned (.int .i64 16777216) ∧ w' = u) := two24
  have hc : decide (16777216 ≤ xw) = !ewB xw := by
    unfold ewB
    rw [Bool.eq_iff_iff]
    simp
  clear hb1 hX1
  go_enter Try.func65, Try.ntmps65
  go_wp2_with fail
  go_quiet ((go_at_call 33; exact Calls.quiet_of_same (H24.out _)))
  go_wp2
  go_ret
  exact ⟨by rw [← hc]; rfl, below_drewN HB1.out _⟩
theorem all_at' {L : List Ce} {f : Ce → Bool} {k : Nat} {x : Ce} (h : L[k]? = some x) : (L.drop k).all f = (f x && (L.drop (k + 1)).all f) := by
  have hk := (List.getElem?_eq_some_iff.1 h).1
  have hx := (List.getElem?_eq_some_iff.1 h).2
  rw [List.drop_eq_getElem_cons hk, hx]
  rfl
set_option maxHeartbeats 8000000 in
theorem machine_any (vc ve : Value) (m : Mc) (w : World) (hc : Rcs w vc m.c.C) (he : Rcs w ve m.e.C) (hB : Wf m.B) (hwc : Ws m.c.C) (hwe : Ws m.e.C) :
    Calls Try.prog 38 #[agv (mvl vc ve m)] w fun e w' => e = .returned (.bool (rtB m)) ∧ Below w.heap.size w w' := by
  have hM : Mv w w [] [(false, vc, m.c.C), (false, ve, m.e.C)] := ((Mv.nil w).old he).old hc
  have HV : Hid (Vs (mvl vc ve m) 606) := mvl_vs (rcs_one hc) (rcs_one he) hB
  have E0 : Hid (0 + 6 ≤ (mvl vc ve m).length) := by show _ ≤ _; rw [HV.out.len]; omega
  have E6 : Hid (6 + 6 ≤ (mvl vc ve m).length) := by show _ ≤ _; rw [HV.out.len]; omega
  have E12 : Hid (12 + 594 ≤ (mvl vc ve m).length) := by show _ ≤ _; rw [HV.out.len]; exact Nat.le_refl _
  have C0 : Hid (cv (mvl vc ve m) 0 6 = rgl vc m.c) := cv_c vc ve m
  have C6 : Hid (cv (mvl vc ve m) 6 6 = rgl ve m.e) := cv_e vc ve m
  have C12 : Hid (cv (mvl vc ve m) 12 594 = ivs (fl m.B)) := cv_b vc ve hB
  have Q0 : Hid ((mvl vc ve m)[0]? = some vc) := rfl
  have Q6 : Hid ((mvl vc ve m)[6]? = some ve) := rfl
  have K1 : Hid (∀ u, Rcs u vc m.c.C → Calls Try.prog 63 #[agv (rgl vc m.c)] u fun e w' => e = .returned (.int .i64 (ring.chk m.c)) ∧ Below u.heap.size u w') := fun u h => ring.refRing_any vc m.c u h
  have K2 : Hid (∀ u, Rcs u ve m.e.C → Calls Try.prog 63 #[agv (rgl ve m.e)] u fun e w' => e = .returned (.int .i64 (ring.chk m.e)) ∧ Below u.heap.size u w') := fun u h => ring.refRing_any ve m.e u h
  have K3 : Hid (∀ u, Calls Try.prog 64 #[agv (ivs (fl m.B))] u fun e w' => e = .returned (.int .i64 (slots.chE m.B)) ∧ Below u.heap.size u w') := fun u => slots.board_any m.B u hB
  have K5 : Hid (ring.chk m.e = 0 → ∀ u, Rcs u ve m.e.C → Calls Try.prog 58 #[ve, .func (.func 65) #[] #[]] u fun e w' => e = .returned (.bool (!wE m.e.C)) ∧ Below u.heap.size u w') := fun h0 u h => by
    have := containsF_any 65 (fun x => !ewB x.1) ve m.e.C u h (ring.chk_ok.1 h0).n64 (enters_of Try.func65 (by kernel_rfl) rfl) (fun x hx v => noEv_any x v (hwe x hx).1 (hwe x hx).2)
    rw [show m.e.C.any (fun x => !ewB x.1) = !wE m.e.C by unfold wE; rw [List.not_all_eq_any_not]] at this
    exact this
  have K4 : Hid (∀ x ∈ m.c.C, ∀ u, Calls Try.prog 12 #[.int .u64 x.1] u fun e w' => e = .returned (.tuple #[cmV (upV x.1), .int .i64 (upC x.1)]) ∧ Below u.heap.size u w') := fun x hx u => unword_any x.1 u (hwc x hx).1 (hwc x hx).2
  have K64 : Hid (ring.chk m.c = 0 → m.c.C.length ≤ 64) := fun h => (ring.chk_ok.1 h).n64
  have HR : Hid (rtB m = ((ring.chk m.c == 0) && ((ring.chk m.e == 0) && (slots.chk m.B && (wC m.c.C && wE m.e.C))))) := rfl
  have HK : Hid (slots.chE m.B = if slots.chk m.B = true then 0 else 4) := rfl
  have HWC : Hid (wC m.c.C = m.c.C.all (fun x => cwB x.1)) := rfl
  generalize rtB m = R at *
  generalize ring.chk m.c = k1 at *
  generalize ring.chk m.e = k2 at *
  generalize slots.chE m.B = k3 at *
  generalize slots.chk m.B = b3 at *
  generalize wC m.c.C = b4 at *
  generalize wE m.e.C = b5 at *
  generalize mvl vc ve m = V at *
  generalize rgl vc m.c = V1 at *
  generalize rgl ve m.e = V2 at *
  generalize ivs (fl m.B) = V3 at *
  obtain ⟨va, vcap, hvf, hcl, hcm⟩ := hc.form
  clear hwc hwe hB
  by_cases h1 : ¬ k1 = 0
  · have e1 : (k1 != 0) = true := by simpa using h1
    have e1' : (k1 == 0) = false := by simpa using h1
    have HQ : Hid (R = false) := by rw [e1'] at HR; exact HR.out
    rw [HQ.out]
    clear h1 e1' HR hvf hcl hcm
    go_enter Try.func38, Try.ntmps38
    repeat' (first | (go_big_may; first | (refine v_box rfl rfl rfl ?_; intro u zb hN; replace hM := hM.new hN (by decide); clear hN) | (refine v_load rfl rfl row_ring rfl hM.at0 E0.out C0.out ?_)) | go_values | go_skip | go_guarded | go_step | go_upon | (simp only [Int.not_lt, Int.not_le] at *; go_simp))
    refine (K1.out _ (hM.read (b := false) (by simp))).mono ?_
    rintro r u1 ⟨rfl, hv⟩
    replace hM := hM.call hv
    clear hv
    repeat' (first | go_values | go_skip | go_guarded | go_step | go_upon | (simp only [Int.not_lt, Int.not_le] at *; go_simp))
    go_ret
    exact ⟨rfl, hM.below⟩
  have h1 : k1 = 0 := Classical.not_not.1 h1
  subst h1
  by_cases h2 : ¬ k2 = 0
  · have e1 : (k2 != 0) = true := by simpa using h2
    have e1' : (k2 == 0) = false := by simpa using h2
    have HQ : Hid (R = false) := by rw [e1'] at HR; exact HR.out
    rw [HQ.out]
    clear h2 e1' HR hvf hcl hcm
    go_enter Try.func38, Try.ntmps38
    repeat' (first | (go_big_may; first | (refine v_box rfl rfl rfl ?_; intro u zb hN; replace hM := hM.new hN (by decide); clear hN) | (refine v_load rfl rfl row_ring rfl hM.at0 E0.out C0.out ?_)) | go_values | go_skip | go_guarded | go_step | go_upon | (simp only [Int.not_lt, Int.not_le] at *; go_simp))
    refine (K1.out _ (hM.read (b := false) (by simp))).mono ?_
    rintro r u1 ⟨rfl, hv⟩
    replace hM := hM.call hv
    clear hv
    repeat' (first | (go_big_may; first | (refine v_load rfl rfl row_ring rfl hM.at0 E6.out C6.out ?_)) | go_values | go_skip | go_guarded | go_step | go_upon | (simp only [Int.not_lt, Int.not_le] at *; go_simp))
    refine (K2.out _ (hM.read (b := false) (by simp))).mono ?_
    rintro r u2 ⟨rfl, hv⟩
    replace hM := hM.call hv
    clear hv
    repeat' (first | go_values | go_skip | go_guarded | go_step | go_upon | (simp only [Int.not_lt, Int.not_le] at *; go_simp))
    go_ret
    exact ⟨rfl, hM.below⟩
  have h2 : k2 = 0 := Classical.not_not.1 h2
  subst h2
  cases b3
  · have HQ : Hid (R = false) := HR.out
    have HK3 : Hid (k3 = 4) := HK.out
    rw [HK3.out] at K3
    rw [HQ.out]
    clear HR HK hvf hcl hcm
    go_enter Try.func38, Try.ntmps38
    repeat' (first | (go_big_may; first | (refine v_box rfl rfl rfl ?_; intro u zb hN; replace hM := hM.new hN (by decide); clear hN) | (refine v_load rfl rfl row_ring rfl hM.at0 E0.out C0.out ?_)) | go_values | go_skip | go_guarded | go_step | go_upon | (simp only [Int.not_lt, Int.not_le] at *; go_simp))
    refine (K1.out _ (hM.read (b := false) (by simp))).mono ?_
    rintro r u1 ⟨rfl, hv⟩
    replace hM := hM.call hv
    clear hv
    repeat' (first | (go_big_may; first | (refine v_load rfl rfl row_ring rfl hM.at0 E6.out C6.out ?_)) | go_values | go_skip | go_guarded | go_step | go_upon | (simp only [Int.not_lt, Int.not_le] at *; go_simp))
    refine (K2.out _ (hM.read (b := false) (by simp))).mono ?_
    rintro r u2 ⟨rfl, hv⟩
    replace hM := hM.call hv
    clear hv
    repeat' (first | (go_big_may; first | (refine v_load rfl rfl row_board rfl hM.at0 E12.out C12.out ?_)) | go_values | go_skip | go_guarded | go_step | go_upon | (simp only [Int.not_lt, Int.not_le] at *; go_simp))
    refine (K3.out _).mono ?_
    rintro r u3 ⟨rfl, hv⟩
    replace hM := hM.call hv
    clear hv
    repeat' (first | go_values | go_skip | go_guarded | go_step | go_upon | (simp only [Int.not_lt, Int.not_le] at *; go_simp))
    go_ret
    exact ⟨rfl, hM.below⟩
  have HK3 : Hid (k3 = 0) := HK.out
  rw [HK3.out] at K3
  clear HK
  have K64' : m.c.C.length ≤ 64 := K64.out (by first | rfl | trivial)
  replace K5 : Hid (∀ u, Rcs u ve m.e.C → Calls Try.prog 58 #[ve, .func (.func 65) #[] #[]] u fun e w' => e = .returned (.bool (!b5)) ∧ Below u.heap.size u w') := fun u h => K5.out (by first | rfl | trivial) u h
  have HQ : Hid (R = (b4 && b5)) := HR.out
  rw [HQ.out]
  subst hvf
  obtain ⟨n, hn⟩ : ∃ n, m.c.C.length = n := ⟨_, rfl⟩
  have HN : Hid (m.c.C.length = n) := hn
  rw [hn] at K64' hcl
  generalize hls : (Value.slice va m.c.C.length vcap) = LV at *
  rw [hn] at hls
  subst hls
  unfold maxLen at hcm
  have HCC : Hid (Rcs w (.slice va n vcap) m.c.C) := hc
  clear HR K64 hc he hn HQ
  go_enter Try.func38, Try.ntmps38
  repeat' (first | (go_big_may; first | (refine v_box rfl rfl rfl ?_; intro u zb hN; replace hM := hM.new hN (by decide); clear hN) | (refine v_load rfl rfl row_ring rfl hM.at0 E0.out C0.out ?_)) | go_values | go_skip | go_guarded | go_step | go_upon | (simp only [Int.not_lt, Int.not_le] at *; go_simp))
  refine (K1.out _ (hM.read (b := false) (by simp))).mono ?_
  rintro r u1 ⟨rfl, hv⟩
  replace hM := hM.call hv
  clear hv
  repeat' (first | (go_big_may; first | (refine v_load rfl rfl row_ring rfl hM.at0 E6.out C6.out ?_)) | go_values | go_skip | go_guarded | go_step | go_upon | (simp only [Int.not_lt, Int.not_le] at *; go_simp))
  refine (K2.out _ (hM.read (b := false) (by simp))).mono ?_
  rintro r u2 ⟨rfl, hv⟩
  replace hM := hM.call hv
  clear hv
  repeat' (first | (go_big_may; first | (refine v_load rfl rfl row_board rfl hM.at0 E12.out C12.out ?_)) | go_values | go_skip | go_guarded | go_step | go_upon | (simp only [Int.not_lt, Int.not_le] at *; go_simp))
  refine (K3.out _).mono ?_
  rintro r u3 ⟨rfl, hv⟩
  replace hM := hM.call hv
  clear hv
  repeat' (first | (go_big_may; first | (refine v_get rfl rfl (.inr rfl) rfl hM.at0 Q0.out ?_)) | go_values | go_skip | go_guarded | go_step | go_upon | (simp only [Int.not_lt, Int.not_le] at *; go_simp))
  have HMM : Hid (Mv w u3 [(zb, 43, V)] [(false, .slice va n vcap, m.c.C), (false, ve, m.e.C)]) := hM
  clear hM
  go_loopw [27] (fun i wr => ∃ k : Nat, k ≤ n ∧ i = .int .i64 (k : Int) ∧ Hid (Below u3.heap.size u3 wr ∧ (m.c.C.drop k).all (fun x => cwB x.1) = b4)) (fun i _ => n - (intOf i).toNat)
  case atStart => exact ⟨0, Nat.zero_le _, rfl, Below.refl _ _, HWC.out.symm⟩
  case round =>
    obtain ⟨k, hk, rfl, HA⟩ := hrel
    have hM := HMM.out.call HA.out.1
    by_cases hlt : ¬ k < n
    · have HB4 : Hid (true = b4) := by
        have := HA.out.2
        rw [List.drop_eq_nil_of_le (by have := HN.out; omega)] at this
        exact this
      have e3 : decide ((k : Int) < (n : Int)) = false := by simp; omega
      have HNN : Hid ((!!b5) = b5) := Bool.not_not b5
      clear HA
      repeat' (first | (go_big_may; first | (refine v_get rfl rfl (.inr rfl) rfl hM.at0 Q6.out ?_)) | go_values | go_skip | go_guarded | go_step | go_upon | (simp only [Int.not_lt, Int.not_le] at *; go_simp))
      refine (K5.out _ (hM.read (b := false) (by simp))).mono ?_
      rintro r u5 ⟨rfl, hv⟩
      replace hM := hM.call hv
      clear hv
      repeat' (first | go_values | go_skip | go_guarded | go_step | go_upon | (simp only [Int.not_lt, Int.not_le] at *; go_simp))
      go_ret
      rw [← HB4.out, Bool.true_and]
      exact ⟨by first | rfl | (rw [HNN.out]; rfl), hM.below⟩
    have hlt : k < n := by omega
    obtain ⟨x, hx⟩ : ∃ x, m.c.C[k]? = some x := ⟨_, List.getElem?_eq_getElem (by have := HN.out; omega)⟩
    have HK4 : Hid (∀ u, Calls Try.prog 12 #[.int .u64 x.1] u fun e w' => e = .returned (.tuple #[agv (ivs [(upV x.1).1, (upV x.1).2.1, (upV x.1).2.2.1, (upV x.1).2.2.2]), .int .i64 (upC x.1)]) ∧ Below u.heap.size u w') := K4.out x (List.mem_of_getElem? hx)
    have HAL : Hid ((cwB x.1 && (m.c.C.drop (k + 1)).all (fun x => cwB x.1)) = b4) := by have := HA.out.2; rw [all_at' hx] at this; exact this
    have HUC : Hid (upC x.1 = if cwB x.1 = true then 0 else 4) := rfl
    have HBr : Hid (Below u3.heap.size u3 wr) := HA.out.1
    obtain ⟨g, off, rfl, hcell⟩ := HCC.out.at k x hx
    obtain ⟨c0, c1, c2⟩ := hcell wr hM.below
    obtain ⟨xw, xb, xl⟩ := x
    simp only at c0 c1 c2 HK4 HAL HUC
    have HUV : Hid (Vs (ivs [(upV xw).1, (upV xw).2.1, (upV xw).2.2.1, (upV xw).2.2.2]) 4) := ivs_vs rfl
    have HU0 : Hid ((ivs [0, 0, 0, 0]).length = 4) := rfl
    generalize ivs [(upV xw).1, (upV xw).2.1, (upV xw).2.2.1, (upV xw).2.2.2] = UV at *
    generalize upC xw = uc at *
    obtain ⟨w1', uf, hu1, huf, hY1, hYf, hbf⟩ := laid3 wr 91 (.int .u64 0) (.int .i64 0) (.bool false) (.int .u64 xw) (.int .i64 xb) (.bool xl)
    obtain ⟨⟨hy, y0, y1, y2⟩, g0, g1, g2⟩ := box3 hY1
    obtain ⟨⟨hz, z0, z1, z2⟩, _⟩ := box3 hYf
    have HBf : Hid (Below u3.heap.size u3 uf) := bsq HBr.out hbf
    have HMB : Hid (Below w.heap.size w u3) := HMM.out.below
    have e3 : decide ((k : Int) < (n : Int)) = true := by simp; omega
    clear hcell hx hbf hY1 hYf HA hM
    go_upto_region 6 with (fail)
    try rw [huf]
    clear huf hu1 y0 y1 y2 g0 g1 g2 c0 c1 c2
    go_wp2_with fail
    refine (HK4.out _).mono ?_
    rintro r u4 ⟨rfl, hv⟩
    have HB4' : Hid (Below u3.heap.size u3 u4) := bsq HBf.out hv
    have hM := Mv.nil u4
    clear hv z0 z1 z2
    cases hcw : cwB xw
    · have HQ4 : Hid (false = b4) := by have := HAL.out; rw [hcw] at this; exact this
      have huc : uc = 4 := by have := HUC.out; rw [hcw] at this; exact this
      subst huc
      clear HAL HUC hcw
      repeat' (first | (go_big_may; first | (refine v_alloc rfl zer_cmd rfl ?_; intro u xd hN; replace hM := hM.new hN (by decide); clear hN) | (refine v_fill rfl rfl row_cmd rfl rfl hM.at0 HUV.out HU0.out ?_; intro u hv hc; replace hM := hM.put0 hc hv; clear hv hc)) | go_values | go_skip | go_guarded | go_step | go_upon | (simp only [Int.not_lt, Int.not_le] at *; go_simp))
      go_ret
      rw [← HQ4.out]
      exact ⟨rfl, bsq HMB.out (bsq HB4'.out hM.below)⟩
    · have HQ4 : Hid ((m.c.C.drop (k + 1)).all (fun x => cwB x.1) = b4) := by have := HAL.out; rw [hcw, Bool.true_and] at this; exact this
      have huc : uc = 0 := by have := HUC.out; rw [hcw] at this; exact this
      subst huc
      clear HAL HUC hcw
      repeat' (first | (go_big_may; first | (refine v_alloc rfl zer_cmd rfl ?_; intro u xd hN; replace hM := hM.new hN (by decide); clear hN) | (refine v_fill rfl rfl row_cmd rfl rfl hM.at0 HUV.out HU0.out ?_; intro u hv hc; replace hM := hM.put0 hc hv; clear hv hc)) | go_values | go_skip | go_guarded | go_step | go_upon | (simp only [Int.not_lt, Int.not_le] at *; go_simp))
      go_roundw
      case rel => exact ⟨k + 1, by omega, by go_num, bsq HB4'.out hM.below, HQ4.out⟩
      case measure => simp [intOf]; omega
end Go.Proofs.Ythjmcopknkemnaa.host

/- host: the commands that were taken; a deed that is a halt. -/
namespace Go.Proofs.Ythjmcopknkemnaa.host
open Go Go.RowKit
open Go.Proofs.Ythjmcopknkemnaa
open Go.Proofs.Ythjmcopknkemnaa.slots (Row row_board row_cmd Chg ag fl Wf bsq balloc bx_lt)
open Go.Proofs.Ythjmcopknkemnaa.ring (Ces Rcs rgV rgW Rg Ce ceV named keep below_drewN)
set_option linter.unusedVariables false
set_option linter.unusedSimpArgs false
set_option maxRecDepth 100000

theorem el_cmd : El 75 23 4 := el_of (b := 32) (z := agv (ivs [0, 0, 0, 0])) Try.underlying75 (by kernel_rfl) rfl (by omega) (by omega) (by omega) (by decide)
def cm4 (x : Cm) : List Int := [x.1, x.2.1, x.2.2.1, x.2.2.2]
theorem wk_c {p q : Nat} : ∀ (n : Nat) (s : Ps), (wkS p q n s).C = s.C
  | 0, s => rfl
  | n + 1, s => by
    unfold wkS
    split
    · rw [wk_c n (wsV p s)]; rfl
    · rfl
theorem wr_c {p q : Nat} (s : Ps) (n : Int) : (wrS p q s n).C = s.C := by unfold wrS; split; exact wk_c _ _; rfl
theorem rs_c (s : Ps) : (rsV s).C = s.C := by unfold rsV; split <;> rfl
theorem stp_c {p q : Nat} (s : Ps) (d : Dd) (h : d.1 ≠ 1) : (stp p q s d).C = s.C ∧ tld p s d = [] := by
  unfold stp tld
  rw [if_neg h, if_neg h]
  refine ⟨?_, rfl⟩
  split
  · exact wr_c s _
  · split
    · exact rs_c s
    · split <;> rfl
theorem sb_c {p : Nat} (s : Ps) (x : Cm) : (sbT p s x = 0 → (sbS p s x).C = s.C ++ [x]) ∧ (sbT p s x ≠ 0 → (sbS p s x).C = s.C) := by
  unfold sbT sbS
  cases h1 : pkB x
  · simp
  · cases h2 : rmB p s <;> simp
/-- a number of a slice is read -/
theorem v_getR {ops : Array Oper} {rest : List Oper} {o : Oper} {a : Act} {w : World} {Q : Exit → Act → World → Prop} (hgd : Region.wanted o (yielded ops a.tmps) = true) {t : TypeId} {x : Operand} (ho : o.op = .load t x) (ht : t = 3 ∨ t = 25)
    {B j : Nat} {v : Value} (hx : a.eval x = .pointer (some ⟨B, j, none⟩)) (hc : w.cell? ⟨B, j, none⟩ = some v)
    (h : wpList Try.prog ops Q rest (a.put o.dst v) w) : wpList Try.prog ops Q (o :: rest) a w := by
  refine wpList_step fun K hK' => ?_
  rw [if_pos hgd]
  have hs : (Instr.loadAt t (.pointer (some ⟨B, j, none⟩))).run Try.prog w = .ok v w := by
    rcases ht with rfl | rfl <;> simp [go_sem, hc]
  unfold Oper.wp execOp
  simp only [ho, hx, Sem.run_bind, hs, Result.andThen_ok, Sem.run_pure]
  exact hK' _ _ h
/-- where taken is in its rounds -/
structure Tki (w wr : World) (p q : Nat) (T : List Dd) (k j : Nat) (v : Value) (s : Ps) (old : List Int) : Prop where
  mo : Mo w wr [] [] [(23, 4, v, s.C.map cm4)]
  e1 : pls p q s (T.drop k) = pls p q ps0 T
  e2 : old ++ plt p q s (T.drop k) = plt p q ps0 T
  e3 : old.length = j ∧ j ≤ k ∧ s.C.length ≤ k
theorem one_at {l : List Int} {j : Nat} {x : Int} (h : l[j]? = some x) : (l.map one1)[j]? = some [x] := by rw [List.getElem?_map, h]; rfl
set_option maxHeartbeats 8000000 in
theorem taken_any (p q : Nat) (v tv : Value) (T : List Dd) (w : World) (hv : Rds 8 w v (T.map ddL)) (ht : Rds 1 w tv ((plt p q ps0 T).map one1)) (hT : T.length ≤ 200) : Calls Try.prog 29 #[v, tv] w fun r w' => ∃ lv, r = .returned (.tuple #[lv, .bool true]) ∧ Rds 4 w' lv ((pls p q ps0 T).C.map cm4) ∧ Below w.heap.size w w' := by
  obtain ⟨a, cc, rfl, hc1, hc2⟩ := hv.form
  obtain ⟨a2, cc2, rfl, hd1, hd2⟩ := ht.form
  rw [List.length_map] at hc1 hv hd1 ht ⊢
  rw [List.length_map]
  obtain ⟨n, hn⟩ : ∃ n, T.length = n := ⟨_, rfl⟩
  obtain ⟨t, hlt⟩ : ∃ t, (plt p q ps0 T).length = t := ⟨_, rfl⟩
  have htn : t ≤ n := by rw [← hlt, ← hn]; exact plt_len T ps0
  have HTn : Hid (T.length = n) := hn
  have HTt : Hid ((plt p q ps0 T).length = t) := hlt
  rw [hn] at hv hc1 hT ⊢
  rw [hlt] at ht hd1 ⊢
  have HR : Hid (Rds 8 w (.slice a n cc) (T.map ddL)) := hv
  have HT : Hid (Rds 1 w (.slice a2 t cc2) ((plt p q ps0 T).map one1)) := ht
  have hmx : n ≤ 9223372036854775807 := by unfold maxLen at hc2; omega
  have hM := (Mo.nil w).row 23 4 (by decide)
  have HP0 : Hid (Tki w w p q T 0 0 (.slice none 0 0) ps0 []) := ⟨hM, rfl, rfl, by simp [ps0]⟩
  clear hv ht hn hlt hM
  go_enter Try.func29, Try.ntmps29
  go_wp2
  go_loopw [6, 7, 12] (fun ov jv i wr => ∃ k j : Nat, k ≤ n ∧ j ≤ t ∧ i = .int .i64 (k : Int) ∧ jv = .int .i64 (j : Int) ∧ Hid (∃ s old, Tki w wr p q T k j ov s old)) (fun _ _ i _ => n - (intOf i).toNat)
  case atStart => exact ⟨0, 0, Nat.zero_le _, Nat.zero_le _, rfl, rfl, ps0, [], HP0.out⟩
  case round =>
    obtain ⟨k, j, hk, hj, rfl, rfl, HA⟩ := hrel
    obtain ⟨s, old, hP⟩ := HA.out
    obtain ⟨hM, he1, he2, he3⟩ := hP
    have HE3 : Hid (old.length = j ∧ j ≤ k ∧ s.C.length ≤ k) := he3
    by_cases hlt : ¬ k < n
    · have HX : Hid (s = pls p q ps0 T ∧ j = t) := by
        rw [List.drop_eq_nil_of_le (by have := HTn.out; omega)] at he1 he2
        refine ⟨he1, ?_⟩
        have := congrArg List.length he2
        rw [List.length_append, HTt.out] at this
        simp [plt] at this
        omega
      have e3 : decide ((k : Int) < (n : Int)) = false := by simp; omega
      have e4 : ((j : Int) == (t : Int)) = true := by have := HX.out.2; simp; omega
      clear he1 he2 he3 HP0 HA
      repeat' (first | go_values | go_skip | go_guarded | go_step | go_upon | (simp only [Int.not_lt, Int.not_le] at *; go_simp))
      go_ret2
      refine ⟨u6, rfl, ?_, hM.below⟩
      rw [← HX.out.1]
      exact (hM.ow (23, 4, u6, s.C.map cm4) (by simp)).rds
    have hlt : k < n := by omega
    have e3 : decide ((k : Int) < (n : Int)) = true := by simp; omega
    obtain ⟨x, hx⟩ : ∃ x, T[k]? = some x := ⟨T[k]'(by have := HTn.out; omega), List.getElem?_eq_getElem (by have := HTn.out; omega)⟩
    obtain ⟨g, off, rfl, hrg⟩ := HR.out.at k (ddL x) (by rw [List.getElem?_map, hx]; rfl)
    rw [pls_at hx] at he1
    rw [plt_at hx] at he2
    have HE1 : Hid (pls p q (stp p q s x) (T.drop (k + 1)) = pls p q ps0 T) := he1
    have HE2 : Hid (old ++ (tld p s x ++ plt p q (stp p q s x) (T.drop (k + 1))) = plt p q ps0 T) := he2
    have HRG : Hid (wr.rangeAt g (off + k * 8) (ivs (ddL x))) := hrg wr hM.below
    have HDL : Hid ((ivs (ddL x)).length = 8) := rfl
    have HDV : Hid (Vs (ivs (ddL x)) 8) := ivs_vs rfl
    have HD0 : Hid ((ivs [0, 0, 0, 0, 0, 0, 0, 0]).length = 8) := rfl
    have Q0 : Hid ((ivs (ddL x))[0]? = some (.int .i64 x.1)) := rfl
    have HLC : Hid (1 + 4 ≤ (ivs (ddL x)).length) := by show 1 + 4 ≤ 8; omega
    have HAC : Hid (cv (ivs (ddL x)) 1 4 = ivs (cm4 x.2.1)) := rfl
    have HC4 : Hid ((agv (ivs (cm4 x.2.1))).cells = (ivs (cm4 x.2.1)).toArray) := rfl
    have HCL : Hid ((ivs (cm4 x.2.1)).length = 4) := rfl
    have HML : Hid ((s.C.map cm4).length ≤ 100000) := by show _ ≤ _; rw [List.length_map]; omega
    have HNO : Hid (x.1 ≠ 1 → (stp p q s x).C = s.C ∧ tld p s x = []) := fun h => stp_c s x h
    have HYE : Hid (x.1 = 1 → stp p q s x = sbS p s x.2.1 ∧ tld p s x = [sbT p s x.2.1]) := fun h => by unfold stp tld; rw [if_pos h, if_pos h]; exact ⟨rfl, rfl⟩
    have HSC : Hid ((sbT p s x.2.1 = 0 → (sbS p s x.2.1).C = s.C ++ [x.2.1]) ∧ (sbT p s x.2.1 ≠ 0 → (sbS p s x.2.1).C = s.C)) := sb_c s x.2.1
    clear he1 he2 he3 hx hrg HP0 HA
    obtain ⟨kd, cm, rest⟩ := x
    simp only at Q0 HAC HC4 HCL HNO HYE HSC
    generalize hdd : ivs (ddL (kd, cm, rest)) = DD at *
    clear hdd
    by_cases c1 : kd = 1
    · subst c1
      obtain ⟨y1, y2⟩ := HYE.out rfl
      have HS1 : Hid (stp p q s (1, cm, rest) = sbS p s cm) := y1
      have HT1 : Hid (tld p s (1, cm, rest) = [sbT p s cm]) := y2
      have htx : (plt p q ps0 T)[j]? = some (sbT p s cm) := by
        rw [← HE2.out, HT1.out, List.getElem?_append_right (by have := HE3.out.1; omega), HE3.out.1, Nat.sub_self]
        rfl
      have hjt : j < t := by have := (List.getElem?_eq_some_iff.1 htx).1; have := HTt.out; omega
      obtain ⟨g2, off2, rfl, hrg2⟩ := HT.out.at j [sbT p s cm] (one_at htx)
      have HCE : Hid (∀ W, Below w.heap.size w W → W.cell? ⟨g2, off2 + j, none⟩ = some (.int .i64 (sbT p s cm))) := fun W hW => by have := hrg2 W hW 0 _ rfl; rw [Nat.mul_one] at this; exact this
      have e5 : decide ((t : Int) ≤ (j : Int)) = false := by simp; omega
      have hE2 : old ++ [sbT p s cm] ++ plt p q (sbS p s cm) (T.drop (k + 1)) = plt p q ps0 T := by
        have := HE2.out
        rw [HT1.out, HS1.out] at this
        rw [List.append_assoc]
        exact this
      have HE2' : Hid (old ++ [sbT p s cm] ++ plt p q (sbS p s cm) (T.drop (k + 1)) = plt p q ps0 T) := hE2
      have HE1' : Hid (pls p q (sbS p s cm) (T.drop (k + 1)) = pls p q ps0 T) := by have := HE1.out; rw [HS1.out] at this; exact this
      clear y1 y2 htx hrg2 hE2 HE1 HE2 HS1 HT1 HYE HNO
      generalize hS : sbS p s cm = S' at *
      generalize sbT p s cm = tx at *
      clear hS
      by_cases h0 : tx = 0
      · subst h0
        have HC' : Hid (S'.C = s.C ++ [cm]) := HSC.out.1 (by first | rfl | trivial)
        clear HSC
        repeat' (first | (go_big_may; first | (refine v_ldR rfl rfl row_deed rfl HRG.out HDL.out ?_) | (refine v_alloc rfl zer_deed rfl ?_; intro u xd hN; replace hM := hM.new hN (by decide); clear hN) | (refine v_fill rfl rfl row_deed rfl rfl hM.at0 HDV.out HD0.out ?_; intro u hv hc; replace hM := hM.put0 hc hv; clear hv hc) | (refine v_get rfl rfl (.inl rfl) rfl hM.at0 Q0.out ?_) | (refine v_getR rfl rfl (.inr rfl) rfl (HCE.out _ hM.below) ?_) | (refine v_load rfl rfl row_cmd rfl hM.at0 HLC.out HAC.out ?_) | (refine v_bs rfl rfl el_cmd rfl HC4.out HCL.out ?_; intro u4 g4 hb4 hc4; replace hM := hM.call hb4; clear hb4) | (refine v_appO rfl rfl el_cmd [] rfl rfl hM hc4 rfl HML.out ?_; intro u5 ov2 hM2; replace hM := hM2; clear hM2 hc4)) | go_values | go_skip | go_guarded | go_step | go_upon | (simp only [Int.not_lt, Int.not_le] at *; go_simp))
        go_roundw
        case rel =>
          refine ⟨k + 1, j + 1, by omega, by omega, by go_num, by go_num, S', old ++ [0], ?_, HE1'.out, HE2'.out, ?_⟩
          · rw [HC'.out, List.map_append]
            exact hM.sub (List.nil_sublist _) (by simp)
          · have := HE3.out
            rw [HC'.out, List.length_append, List.length_append, List.length_singleton, List.length_singleton]
            omega
        case measure => simp [intOf]; omega
      · have HC' : Hid (S'.C = s.C) := HSC.out.2 h0
        have e6 : (tx == 0) = false := by simpa using h0
        clear HSC h0
        repeat' (first | (go_big_may; first | (refine v_ldR rfl rfl row_deed rfl HRG.out HDL.out ?_) | (refine v_alloc rfl zer_deed rfl ?_; intro u xd hN; replace hM := hM.new hN (by decide); clear hN) | (refine v_fill rfl rfl row_deed rfl rfl hM.at0 HDV.out HD0.out ?_; intro u hv hc; replace hM := hM.put0 hc hv; clear hv hc) | (refine v_get rfl rfl (.inl rfl) rfl hM.at0 Q0.out ?_) | (refine v_getR rfl rfl (.inr rfl) rfl (HCE.out _ hM.below) ?_)) | go_values | go_skip | go_guarded | go_step | go_upon | (simp only [Int.not_lt, Int.not_le] at *; go_simp))
        go_roundw
        case rel =>
          refine ⟨k + 1, j + 1, by omega, by omega, by go_num, by go_num, S', old ++ [tx], ?_, HE1'.out, HE2'.out, ?_⟩
          · rw [HC'.out]
            exact hM.sub (List.nil_sublist _) (by simp)
          · have := HE3.out
            rw [HC'.out, List.length_append, List.length_singleton]
            omega
        case measure => simp [intOf]; omega
    · have e7 : (kd != 1) = true := by simpa using c1
      obtain ⟨y1, y2⟩ := HNO.out c1
      have HE1' : Hid (pls p q (stp p q s (kd, cm, rest)) (T.drop (k + 1)) = pls p q ps0 T) := HE1.out
      have HE2' : Hid (old ++ plt p q (stp p q s (kd, cm, rest)) (T.drop (k + 1)) = plt p q ps0 T) := by have := HE2.out; rw [y2] at this; exact this
      have HC' : Hid ((stp p q s (kd, cm, rest)).C = s.C) := y1
      generalize hS : stp p q s (kd, cm, rest) = S' at *
      clear hS y1 y2 c1 HE1 HE2 HYE HNO HSC
      repeat' (first | (go_big_may; first | (refine v_ldR rfl rfl row_deed rfl HRG.out HDL.out ?_) | (refine v_alloc rfl zer_deed rfl ?_; intro u xd hN; replace hM := hM.new hN (by decide); clear hN) | (refine v_fill rfl rfl row_deed rfl rfl hM.at0 HDV.out HD0.out ?_; intro u hv hc; replace hM := hM.put0 hc hv; clear hv hc) | (refine v_get rfl rfl (.inl rfl) rfl hM.at0 Q0.out ?_)) | go_values | go_skip | go_guarded | go_step | go_upon | (simp only [Int.not_lt, Int.not_le] at *; go_simp))
      go_roundw
      case rel =>
        refine ⟨k + 1, j, by omega, by omega, by go_num, rfl, S', old, ?_, HE1'.out, HE2'.out, ?_⟩
        · rw [HC'.out]
          exact hM.sub (List.nil_sublist _) (by simp)
        · have := HE3.out
          rw [HC'.out]
          omega
      case measure => simp [intOf]; omega
end Go.Proofs.Ythjmcopknkemnaa.host
