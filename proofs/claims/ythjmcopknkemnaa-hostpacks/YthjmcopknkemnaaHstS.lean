/- host, the document's answer: what Word answers. -/
import Derived.Test.YthjmcopknkemnaaHstR
namespace Go.Proofs.Ythjmcopknkemnaa.host
open Go Go.RowKit
open Go.Proofs.Ythjmcopknkemnaa
open Go.Proofs.Ythjmcopknkemnaa.slots (Row row_board row_cmd Chg ag fl Wf bsq)
open Go.Proofs.Ythjmcopknkemnaa.ring (Ces Rcs rgV rgW Rg Ce ceV named keep below_drewN)
set_option linter.unusedVariables false
set_option linter.unusedSimpArgs false
set_option maxRecDepth 100000

def btw (x lo hi : Int) : Bool := decide (lo ≤ x) && decide (x ≤ hi)
theorem btw_any (x lo hi : Int) (u : World) : Calls Try.prog 32 #[.int .i64 x, .int .i64 lo, .int .i64 hi] u fun e w' => e = .returned (.bool (btw x lo hi)) ∧ w' = u := (ring.between_any x lo hi u).mono fun e w' h => ⟨h.1, h.2.symm⟩
set_option maxHeartbeats 2000000 in
theorem word_no1 (k n e a : Int) (w : World)  (h1 : btw k 0 15 = false) : Calls Try.prog 10 #[agv (ivs [k, n, e, a])] w fun r w' => r = .returned (.tuple #[.int .u64 0, .int .i64 1]) ∧ Below w.heap.size w w' := by
  have HB : Hid (∀ x lo hi u, Calls Try.prog 32 #[.int .i64 x, .int .i64 lo, .int .i64 hi] u fun e w' => e = .returned (.bool (btw x lo hi)) ∧ w' = u) := btw_any
  have H32 : Hid (∀ u, Calls Try.prog 33 #[.int .i64 32] u fun e w' => e = .returned (.int .i64 4294967296) ∧ w' = u) := two32
  have Q0 : Hid ((ivs [k, n, e, a])[0]? = some (.int .i64 k)) := rfl
  have Q1 : Hid ((ivs [k, n, e, a])[1]? = some (.int .i64 n)) := rfl
  have Q2 : Hid ((ivs [k, n, e, a])[2]? = some (.int .i64 e)) := rfl
  have Q3 : Hid ((ivs [k, n, e, a])[3]? = some (.int .i64 a)) := rfl
  have hM := Mv.nil w
  generalize ivs [k, n, e, a] = V at *
  go_enter Try.func10, Try.ntmps10
  repeat' (first | (go_big_may; first | (refine v_box rfl rfl rfl ?_; intro u zb hN; replace hM := hM.new hN (by decide); clear hN)) | go_values | go_skip | go_guarded | go_step | go_upon | (simp only [Int.not_lt, Int.not_le] at *; go_simp))
  have d0 := bv_cell hM.at0 Q0.out
  have d1 := bv_cell hM.at0 Q1.out
  have d2 := bv_cell hM.at0 Q2.out
  have d3 := bv_cell hM.at0 Q3.out
  have HMB : Hid (Below w.heap.size w u) := hM.below
  clear hM
  go_wp2_with fail
  go_quiet (first | (go_at_call 32; exact Calls.quiet_of_same (HB.out _ _ _ _)) | (go_at_call 33; exact Calls.quiet_of_same (H32.out _)))
  go_wp2
  go_ret2
  exact ⟨rfl, below_drewN HMB.out _⟩
set_option maxHeartbeats 2000000 in
theorem word_no2 (k n e a : Int) (w : World) (h1 : btw k 0 15 = true) (h2 : btw n 0 15 = false) : Calls Try.prog 10 #[agv (ivs [k, n, e, a])] w fun r w' => r = .returned (.tuple #[.int .u64 0, .int .i64 1]) ∧ Below w.heap.size w w' := by
  have HB : Hid (∀ x lo hi u, Calls Try.prog 32 #[.int .i64 x, .int .i64 lo, .int .i64 hi] u fun e w' => e = .returned (.bool (btw x lo hi)) ∧ w' = u) := btw_any
  have H32 : Hid (∀ u, Calls Try.prog 33 #[.int .i64 32] u fun e w' => e = .returned (.int .i64 4294967296) ∧ w' = u) := two32
  have Q0 : Hid ((ivs [k, n, e, a])[0]? = some (.int .i64 k)) := rfl
  have Q1 : Hid ((ivs [k, n, e, a])[1]? = some (.int .i64 n)) := rfl
  have Q2 : Hid ((ivs [k, n, e, a])[2]? = some (.int .i64 e)) := rfl
  have Q3 : Hid ((ivs [k, n, e, a])[3]? = some (.int .i64 a)) := rfl
  have hM := Mv.nil w
  generalize ivs [k, n, e, a] = V at *
  go_enter Try.func10, Try.ntmps10
  repeat' (first | (go_big_may; first | (refine v_box rfl rfl rfl ?_; intro u zb hN; replace hM := hM.new hN (by decide); clear hN)) | go_values | go_skip | go_guarded | go_step | go_upon | (simp only [Int.not_lt, Int.not_le] at *; go_simp))
  have d0 := bv_cell hM.at0 Q0.out
  have d1 := bv_cell hM.at0 Q1.out
  have d2 := bv_cell hM.at0 Q2.out
  have d3 := bv_cell hM.at0 Q3.out
  have HMB : Hid (Below w.heap.size w u) := hM.below
  clear hM
  go_wp2_with fail
  go_quiet (first | (go_at_call 32; exact Calls.quiet_of_same (HB.out _ _ _ _)) | (go_at_call 33; exact Calls.quiet_of_same (H32.out _)))
  go_wp2
  go_ret2
  exact ⟨rfl, below_drewN HMB.out _⟩
set_option maxHeartbeats 2000000 in
theorem word_no3 (k n e a : Int) (w : World) (h1 : btw k 0 15 = true) (h2 : btw n 0 15 = true) (h3 : btw e 0 31 = false) : Calls Try.prog 10 #[agv (ivs [k, n, e, a])] w fun r w' => r = .returned (.tuple #[.int .u64 0, .int .i64 1]) ∧ Below w.heap.size w w' := by
  have HB : Hid (∀ x lo hi u, Calls Try.prog 32 #[.int .i64 x, .int .i64 lo, .int .i64 hi] u fun e w' => e = .returned (.bool (btw x lo hi)) ∧ w' = u) := btw_any
  have H32 : Hid (∀ u, Calls Try.prog 33 #[.int .i64 32] u fun e w' => e = .returned (.int .i64 4294967296) ∧ w' = u) := two32
  have Q0 : Hid ((ivs [k, n, e, a])[0]? = some (.int .i64 k)) := rfl
  have Q1 : Hid ((ivs [k, n, e, a])[1]? = some (.int .i64 n)) := rfl
  have Q2 : Hid ((ivs [k, n, e, a])[2]? = some (.int .i64 e)) := rfl
  have Q3 : Hid ((ivs [k, n, e, a])[3]? = some (.int .i64 a)) := rfl
  have hM := Mv.nil w
  generalize ivs [k, n, e, a] = V at *
  go_enter Try.func10, Try.ntmps10
  repeat' (first | (go_big_may; first | (refine v_box rfl rfl rfl ?_; intro u zb hN; replace hM := hM.new hN (by decide); clear hN)) | go_values | go_skip | go_guarded | go_step | go_upon | (simp only [Int.not_lt, Int.not_le] at *; go_simp))
  have d0 := bv_cell hM.at0 Q0.out
  have d1 := bv_cell hM.at0 Q1.out
  have d2 := bv_cell hM.at0 Q2.out
  have d3 := bv_cell hM.at0 Q3.out
  have HMB : Hid (Below w.heap.size w u) := hM.below
  clear hM
  go_wp2_with fail
  go_quiet (first | (go_at_call 32; exact Calls.quiet_of_same (HB.out _ _ _ _)) | (go_at_call 33; exact Calls.quiet_of_same (H32.out _)))
  go_wp2
  go_ret2
  exact ⟨rfl, below_drewN HMB.out _⟩
set_option maxHeartbeats 2000000 in
theorem word_no4 (k n e a : Int) (w : World) (h1 : btw k 0 15 = true) (h2 : btw n 0 15 = true) (h3 : btw e 0 31 = true) (h4 : btw a 0 4294967295 = false) : Calls Try.prog 10 #[agv (ivs [k, n, e, a])] w fun r w' => r = .returned (.tuple #[.int .u64 0, .int .i64 1]) ∧ Below w.heap.size w w' := by
  have HB : Hid (∀ x lo hi u, Calls Try.prog 32 #[.int .i64 x, .int .i64 lo, .int .i64 hi] u fun e w' => e = .returned (.bool (btw x lo hi)) ∧ w' = u) := btw_any
  have H32 : Hid (∀ u, Calls Try.prog 33 #[.int .i64 32] u fun e w' => e = .returned (.int .i64 4294967296) ∧ w' = u) := two32
  have Q0 : Hid ((ivs [k, n, e, a])[0]? = some (.int .i64 k)) := rfl
  have Q1 : Hid ((ivs [k, n, e, a])[1]? = some (.int .i64 n)) := rfl
  have Q2 : Hid ((ivs [k, n, e, a])[2]? = some (.int .i64 e)) := rfl
  have Q3 : Hid ((ivs [k, n, e, a])[3]? = some (.int .i64 a)) := rfl
  have hM := Mv.nil w
  generalize ivs [k, n, e, a] = V at *
  go_enter Try.func10, Try.ntmps10
  repeat' (first | (go_big_may; first | (refine v_box rfl rfl rfl ?_; intro u zb hN; replace hM := hM.new hN (by decide); clear hN)) | go_values | go_skip | go_guarded | go_step | go_upon | (simp only [Int.not_lt, Int.not_le] at *; go_simp))
  have d0 := bv_cell hM.at0 Q0.out
  have d1 := bv_cell hM.at0 Q1.out
  have d2 := bv_cell hM.at0 Q2.out
  have d3 := bv_cell hM.at0 Q3.out
  have HMB : Hid (Below w.heap.size w u) := hM.below
  clear hM
  go_wp2_with fail
  go_quiet (first | (go_at_call 32; exact Calls.quiet_of_same (HB.out _ _ _ _)) | (go_at_call 33; exact Calls.quiet_of_same (H32.out _)))
  go_wp2
  go_ret2
  exact ⟨rfl, below_drewN HMB.out _⟩
set_option maxHeartbeats 4000000 in
theorem word_yes (k n e a : Int) (w : World) (hpk : Pk (k, n, e, a)) (h1 : btw k 0 15 = true) (h2 : btw n 0 15 = true) (h3 : btw e 0 31 = true) (h4 : btw a 0 4294967295 = true) : Calls Try.prog 10 #[agv (ivs [k, n, e, a])] w fun r w' => r = .returned (.tuple #[.int .u64 (pkW (k, n, e, a)), .int .i64 0]) ∧ Below w.heap.size w w' := by
  have HB : Hid (∀ x lo hi u, Calls Try.prog 32 #[.int .i64 x, .int .i64 lo, .int .i64 hi] u fun e w' => e = .returned (.bool (btw x lo hi)) ∧ w' = u) := btw_any
  have H32 : Hid (∀ u, Calls Try.prog 33 #[.int .i64 32] u fun e w' => e = .returned (.int .i64 4294967296) ∧ w' = u) := two32
  have Q0 : Hid ((ivs [k, n, e, a])[0]? = some (.int .i64 k)) := rfl
  have Q1 : Hid ((ivs [k, n, e, a])[1]? = some (.int .i64 n)) := rfl
  have Q2 : Hid ((ivs [k, n, e, a])[2]? = some (.int .i64 e)) := rfl
  have Q3 : Hid ((ivs [k, n, e, a])[3]? = some (.int .i64 a)) := rfl
  have hM := Mv.nil w
  obtain ⟨k0, k1, n0, n1, e0, e1, a0, a1⟩ := hpk
  simp only at k0 k1 n0 n1 e0 e1 a0 a1
  obtain ⟨y1, hy1⟩ : ∃ y, k * 16 = y := ⟨_, rfl⟩
  obtain ⟨y2, hy2⟩ : ∃ y, y1 + n = y := ⟨_, rfl⟩
  obtain ⟨y3, hy3⟩ : ∃ y, y2 * 32 = y := ⟨_, rfl⟩
  obtain ⟨y4, hy4⟩ : ∃ y, y3 + e = y := ⟨_, rfl⟩
  obtain ⟨y5, hy5⟩ : ∃ y, y4 * 4294967296 = y := ⟨_, rfl⟩
  obtain ⟨y6, hy6⟩ : ∃ y, y5 + a = y := ⟨_, rfl⟩
  have HW : Hid (pkW (k, n, e, a) = y6) := by show pkW _ = _; unfold pkW; simp only; omega
  rw [HW.out]
  have c1 : 0 ≤ y1 := by omega
  have c2 : y1 ≤ 240 := by omega
  have c3 : 0 ≤ y2 := by omega
  have c4 : y2 ≤ 255 := by omega
  have c5 : 0 ≤ y3 := by omega
  have c6 : y3 ≤ 8160 := by omega
  have c7 : 0 ≤ y4 := by omega
  have c8 : y4 ≤ 8191 := by omega
  have c9 : 0 ≤ y5 := by omega
  have c10 : y5 ≤ 35180077121536 := by omega
  have c11 : 0 ≤ y6 := by omega
  have c12 : y6 ≤ 35184372088831 := by omega
  have hwr : IntKind.u64.wrap y6 = y6 := by rw [IntKind.wrap_u64]; omega
  clear HW
  generalize ivs [k, n, e, a] = V at *
  go_enter Try.func10, Try.ntmps10
  repeat' (first | (go_big_may; first | (refine v_box rfl rfl rfl ?_; intro u zb hN; replace hM := hM.new hN (by decide); clear hN)) | go_values | go_skip | go_guarded | go_step | go_upon | (simp only [Int.not_lt, Int.not_le] at *; go_simp))
  have d0 := bv_cell hM.at0 Q0.out
  have d1 := bv_cell hM.at0 Q1.out
  have d2 := bv_cell hM.at0 Q2.out
  have d3 := bv_cell hM.at0 Q3.out
  have HMB : Hid (Below w.heap.size w u) := hM.below
  clear hM
  go_wp2_with fail
  go_quiet (first | (go_at_call 32; exact Calls.quiet_of_same (HB.out _ _ _ _)) | (go_at_call 33; exact Calls.quiet_of_same (H32.out _)))
  go_wp2_with fail
  generalize hu9 : u.drewN nq = u9
  have f0 : u9.cell? ⟨zb, 0, none⟩ = some (.int .i64 k) := by rw [← hu9]; exact d0
  have f1 : u9.cell? ⟨zb, 1, none⟩ = some (.int .i64 n) := by rw [← hu9]; exact d1
  have f2 : u9.cell? ⟨zb, 2, none⟩ = some (.int .i64 e) := by rw [← hu9]; exact d2
  have f3 : u9.cell? ⟨zb, 3, none⟩ = some (.int .i64 a) := by rw [← hu9]; exact d3
  have HU9 : Hid (Below w.heap.size w u9) := by rw [← hu9]; exact below_drewN HMB.out _
  clear d0 d1 d2 d3 hu9
  go_quiet ((go_at_call 33; exact Calls.quiet_of_same (H32.out _)))
  go_wp2
  go_ret2
  exact ⟨rfl, below_drewN HU9.out _⟩
theorem word_any (x : Cm) (w : World) : Calls Try.prog 10 #[cmV x] w fun e w' => e = .returned (.tuple #[.int .u64 (pkV x), .int .i64 (pkC x)]) ∧ Below w.heap.size w w' := by
  obtain ⟨k, n, e, a⟩ := x
  show Calls Try.prog 10 #[agv (ivs [k, n, e, a])] w _
  have hp : pkB (k, n, e, a) = (btw k 0 15 && (btw n 0 15 && (btw e 0 31 && btw a 0 4294967295))) := rfl
  unfold pkV pkC
  cases h1 : btw k 0 15
  · rw [h1] at hp; rw [hp]; exact word_no1 k n e a w h1
  cases h2 : btw n 0 15
  · rw [h1, h2] at hp; rw [hp]; exact word_no2 k n e a w h1 h2
  cases h3 : btw e 0 31
  · rw [h1, h2, h3] at hp; rw [hp]; exact word_no3 k n e a w h1 h2 h3
  cases h4 : btw a 0 4294967295
  · rw [h1, h2, h3, h4] at hp; rw [hp]; exact word_no4 k n e a w h1 h2 h3 h4
  have hb : pkB (k, n, e, a) = true := by rw [hp, h1, h2, h3, h4]; rfl
  rw [hb]
  exact word_yes k n e a w (pk_iff.1 hb) h1 h2 h3 h4
end Go.Proofs.Ythjmcopknkemnaa.host
