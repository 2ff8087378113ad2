/- host: what Pack, Unpack, packEvent, unpackEvent, isNoCmd and isNoEvent answer. -/
import Derived.Test.YthjmcopknkemnaaHstB
namespace Go.Proofs.Ythjmcopknkemnaa.host
open Go Go.RowKit
open Go.Proofs.Ythjmcopknkemnaa
open Go.Proofs.Ythjmcopknkemnaa.slots (Row row_board row_cmd Chg ag fl Wf)
open Go.Proofs.Ythjmcopknkemnaa.ring (Ces Rcs rgV rgW Rg Ce ceV)
set_option linter.unusedVariables false
set_option linter.unusedSimpArgs false
set_option maxRecDepth 100000

abbrev cmV (x : Cm) : Value := agv (ivs [x.1, x.2.1, x.2.2.1, x.2.2.2])
abbrev evV (x : Ev) : Value := agv (ivs [x.1, x.2.1, x.2.2])
theorem cm_vs (x : Cm) : Vs (ivs [x.1, x.2.1, x.2.2.1, x.2.2.2]) 4 := ivs_vs rfl
theorem ev_vs (x : Ev) : Vs (ivs [x.1, x.2.1, x.2.2]) 3 := ivs_vs rfl
theorem pk_or {k n e a : Int} (h : Pk (k, n, e, a)) : bits .or .u64 (k * 2199023255552) (n * 137438953472) = k * 2199023255552 + n * 137438953472 ∧ bits .or .u64 (k * 2199023255552 + n * 137438953472) (e * 4294967296) = k * 2199023255552 + n * 137438953472 + e * 4294967296 ∧ bits .or .u64 (k * 2199023255552 + n * 137438953472 + e * 4294967296) a = pkW (k, n, e, a) := by
  obtain ⟨k0, k1, n0, n1, e0, e1, a0, a1⟩ := h
  simp only at *
  refine ⟨or_hi _ _ 41 (by omega) (by omega) (by omega) (by omega) (by omega) (by omega) (by omega), or_hi _ _ 37 (by omega) (by omega) (by omega) (by omega) (by omega) (by omega) (by omega), ?_⟩
  rw [or_hi _ _ 32 (by omega) (by omega) (by omega) (by omega) (by omega) (by omega) (by omega)]
  unfold pkW
  simp only
  omega
set_option maxHeartbeats 2000000 in
theorem pack_any (x : Cm) (w : World) : Calls Try.prog 9 #[cmV x] w fun e w' => e = .returned (.tuple #[.int .u64 (pkV x), .int .i64 (pkC x)]) ∧ Below w.heap.size w w' := by
  obtain ⟨k, n, e, a⟩ := x
  show Calls Try.prog 9 #[agv (ivs [k, n, e, a])] w _
  have HF1 : Hid (∀ u, Calls Try.prog 31 #[.int .i64 k, .int .i64 4] u fun e w' => e = .returned (.bool (decide (0 ≤ k) && decide (k ≤ 15))) ∧ u = w') := fits4 k
  have HF2 : Hid (∀ u, Calls Try.prog 31 #[.int .i64 n, .int .i64 4] u fun e w' => e = .returned (.bool (decide (0 ≤ n) && decide (n ≤ 15))) ∧ u = w') := fits4 n
  have HF3 : Hid (∀ u, Calls Try.prog 31 #[.int .i64 e, .int .i64 5] u fun r w' => r = .returned (.bool (decide (0 ≤ e) && decide (e ≤ 31))) ∧ u = w') := fits5 e
  have HF4 : Hid (∀ u, Calls Try.prog 31 #[.int .i64 a, .int .i64 32] u fun e w' => e = .returned (.bool (decide (0 ≤ a) && decide (a ≤ 4294967295))) ∧ u = w') := fits32 a
  have Q0 : Hid ((ivs [k, n, e, a])[0]? = some (.int .i64 k)) := rfl
  have Q1 : Hid ((ivs [k, n, e, a])[1]? = some (.int .i64 n)) := rfl
  have Q2 : Hid ((ivs [k, n, e, a])[2]? = some (.int .i64 e)) := rfl
  have Q3 : Hid ((ivs [k, n, e, a])[3]? = some (.int .i64 a)) := rfl
  have HP : Hid (pkB (k, n, e, a) = ((decide (0 ≤ k) && decide (k ≤ 15)) && ((decide (0 ≤ n) && decide (n ≤ 15)) && ((decide (0 ≤ e) && decide (e ≤ 31)) && (decide (0 ≤ a) && decide (a ≤ 4294967295)))))) := rfl
  have hM := Mv.nil w
  unfold pkV pkC
  have HI : Hid (pkB (k, n, e, a) = true → Pk (k, n, e, a)) := pk_iff.1
  generalize (decide (0 ≤ k) && decide (k ≤ 15)) = b1 at HF1 HP
  generalize (decide (0 ≤ n) && decide (n ≤ 15)) = b2 at HF2 HP
  generalize (decide (0 ≤ e) && decide (e ≤ 31)) = b3 at HF3 HP
  generalize (decide (0 ≤ a) && decide (a ≤ 4294967295)) = b4 at HF4 HP
  generalize hv : ivs [k, n, e, a] = V at *
  clear hv
  cases b1
  · have HQ : Hid (pkB (k, n, e, a) = false) := HP.out
    clear HP HI
    rw [HQ.out]
    go_enter Try.func9, Try.ntmps9
    repeat' (first | (go_big_may; first | (refine v_box rfl rfl rfl ?_; intro u zb hN; replace hM := hM.new hN (by decide); clear hN) | (refine v_get rfl rfl (.inl rfl) rfl hM.at0 Q0.out ?_)) | go_values | go_skip | go_guarded | go_step | go_upon | (simp only [Int.not_lt, Int.not_le] at *; go_simp))
    refine (HF1.out _).mono ?_
    rintro r u ⟨rfl, rfl⟩
    repeat' (first | go_values | go_skip | go_guarded | go_step | go_upon | (simp only [Int.not_lt, Int.not_le] at *; go_simp))
    go_ret2
    exact ⟨rfl, hM.below⟩
  cases b2
  · have HQ : Hid (pkB (k, n, e, a) = false) := HP.out
    clear HP HI
    rw [HQ.out]
    go_enter Try.func9, Try.ntmps9
    repeat' (first | (go_big_may; first | (refine v_box rfl rfl rfl ?_; intro u zb hN; replace hM := hM.new hN (by decide); clear hN) | (refine v_get rfl rfl (.inl rfl) rfl hM.at0 Q0.out ?_)) | go_values | go_skip | go_guarded | go_step | go_upon | (simp only [Int.not_lt, Int.not_le] at *; go_simp))
    refine (HF1.out _).mono ?_
    rintro r u ⟨rfl, rfl⟩
    repeat' (first | (go_big_may; first | (refine v_get rfl rfl (.inl rfl) rfl hM.at0 Q1.out ?_)) | go_values | go_skip | go_guarded | go_step | go_upon | (simp only [Int.not_lt, Int.not_le] at *; go_simp))
    refine (HF2.out _).mono ?_
    rintro r u ⟨rfl, rfl⟩
    repeat' (first | go_values | go_skip | go_guarded | go_step | go_upon | (simp only [Int.not_lt, Int.not_le] at *; go_simp))
    go_ret2
    exact ⟨rfl, hM.below⟩
  cases b3
  · have HQ : Hid (pkB (k, n, e, a) = false) := HP.out
    clear HP HI
    rw [HQ.out]
    go_enter Try.func9, Try.ntmps9
    repeat' (first | (go_big_may; first | (refine v_box rfl rfl rfl ?_; intro u zb hN; replace hM := hM.new hN (by decide); clear hN) | (refine v_get rfl rfl (.inl rfl) rfl hM.at0 Q0.out ?_)) | go_values | go_skip | go_guarded | go_step | go_upon | (simp only [Int.not_lt, Int.not_le] at *; go_simp))
    refine (HF1.out _).mono ?_
    rintro r u ⟨rfl, rfl⟩
    repeat' (first | (go_big_may; first | (refine v_get rfl rfl (.inl rfl) rfl hM.at0 Q1.out ?_)) | go_values | go_skip | go_guarded | go_step | go_upon | (simp only [Int.not_lt, Int.not_le] at *; go_simp))
    refine (HF2.out _).mono ?_
    rintro r u ⟨rfl, rfl⟩
    repeat' (first | (go_big_may; first | (refine v_get rfl rfl (.inl rfl) rfl hM.at0 Q2.out ?_)) | go_values | go_skip | go_guarded | go_step | go_upon | (simp only [Int.not_lt, Int.not_le] at *; go_simp))
    refine (HF3.out _).mono ?_
    rintro r u ⟨rfl, rfl⟩
    repeat' (first | go_values | go_skip | go_guarded | go_step | go_upon | (simp only [Int.not_lt, Int.not_le] at *; go_simp))
    go_ret2
    exact ⟨rfl, hM.below⟩
  cases b4
  · have HQ : Hid (pkB (k, n, e, a) = false) := HP.out
    clear HP HI
    rw [HQ.out]
    go_enter Try.func9, Try.ntmps9
    repeat' (first | (go_big_may; first | (refine v_box rfl rfl rfl ?_; intro u zb hN; replace hM := hM.new hN (by decide); clear hN) | (refine v_get rfl rfl (.inl rfl) rfl hM.at0 Q0.out ?_)) | go_values | go_skip | go_guarded | go_step | go_upon | (simp only [Int.not_lt, Int.not_le] at *; go_simp))
    refine (HF1.out _).mono ?_
    rintro r u ⟨rfl, rfl⟩
    repeat' (first | (go_big_may; first | (refine v_get rfl rfl (.inl rfl) rfl hM.at0 Q1.out ?_)) | go_values | go_skip | go_guarded | go_step | go_upon | (simp only [Int.not_lt, Int.not_le] at *; go_simp))
    refine (HF2.out _).mono ?_
    rintro r u ⟨rfl, rfl⟩
    repeat' (first | (go_big_may; first | (refine v_get rfl rfl (.inl rfl) rfl hM.at0 Q2.out ?_)) | go_values | go_skip | go_guarded | go_step | go_upon | (simp only [Int.not_lt, Int.not_le] at *; go_simp))
    refine (HF3.out _).mono ?_
    rintro r u ⟨rfl, rfl⟩
    repeat' (first | (go_big_may; first | (refine v_get rfl rfl (.inl rfl) rfl hM.at0 Q3.out ?_)) | go_values | go_skip | go_guarded | go_step | go_upon | (simp only [Int.not_lt, Int.not_le] at *; go_simp))
    refine (HF4.out _).mono ?_
    rintro r u ⟨rfl, rfl⟩
    repeat' (first | go_values | go_skip | go_guarded | go_step | go_upon | (simp only [Int.not_lt, Int.not_le] at *; go_simp))
    go_ret2
    exact ⟨rfl, hM.below⟩
  have HQ : Hid (pkB (k, n, e, a) = true) := HP.out
  have hpk := HI.out HQ.out
  obtain ⟨o1, o2, o3⟩ := pk_or hpk
  obtain ⟨k0, k1, n0, n1, e0, e1, a0, a1⟩ := hpk
  simp only at k0 k1 n0 n1 e0 e1 a0 a1
  rw [HQ.out, if_pos rfl, if_pos rfl]
  generalize pkW (k, n, e, a) = W at *
  have c1 : IntKind.u64.wrap k = k := by rw [IntKind.wrap_u64]; omega
  have c2 : IntKind.u64.wrap n = n := by rw [IntKind.wrap_u64]; omega
  have c3 : IntKind.u64.wrap e = e := by rw [IntKind.wrap_u64]; omega
  have c4 : IntKind.u64.wrap a = a := by rw [IntKind.wrap_u64]; omega
  have s1 : IntKind.u64.wrap (k * 2199023255552) = k * 2199023255552 := by rw [IntKind.wrap_u64]; omega
  have s2 : IntKind.u64.wrap (n * 137438953472) = n * 137438953472 := by rw [IntKind.wrap_u64]; omega
  have s3 : IntKind.u64.wrap (e * 4294967296) = e * 4294967296 := by rw [IntKind.wrap_u64]; omega
  clear HP HI HQ
  go_enter Try.func9, Try.ntmps9
  repeat' (first | (go_big_may; first | (refine v_box rfl rfl rfl ?_; intro u zb hN; replace hM := hM.new hN (by decide); clear hN) | (refine v_get rfl rfl (.inl rfl) rfl hM.at0 Q0.out ?_)) | go_values | go_skip | go_guarded | go_step | go_upon | (simp only [Int.not_lt, Int.not_le] at *; go_simp))
  refine (HF1.out _).mono ?_
  rintro r u ⟨rfl, rfl⟩
  repeat' (first | (go_big_may; first | (refine v_get rfl rfl (.inl rfl) rfl hM.at0 Q1.out ?_)) | go_values | go_skip | go_guarded | go_step | go_upon | (simp only [Int.not_lt, Int.not_le] at *; go_simp))
  refine (HF2.out _).mono ?_
  rintro r u ⟨rfl, rfl⟩
  repeat' (first | (go_big_may; first | (refine v_get rfl rfl (.inl rfl) rfl hM.at0 Q2.out ?_)) | go_values | go_skip | go_guarded | go_step | go_upon | (simp only [Int.not_lt, Int.not_le] at *; go_simp))
  refine (HF3.out _).mono ?_
  rintro r u ⟨rfl, rfl⟩
  repeat' (first | (go_big_may; first | (refine v_get rfl rfl (.inl rfl) rfl hM.at0 Q3.out ?_)) | go_values | go_skip | go_guarded | go_step | go_upon | (simp only [Int.not_lt, Int.not_le] at *; go_simp))
  refine (HF4.out _).mono ?_
  rintro r u ⟨rfl, rfl⟩
  repeat' (first | (go_big_may; first | (refine v_get rfl rfl (.inl rfl) rfl hM.at0 Q0.out ?_) | (refine v_get rfl rfl (.inl rfl) rfl hM.at0 Q1.out ?_) | (refine v_get rfl rfl (.inl rfl) rfl hM.at0 Q2.out ?_) | (refine v_get rfl rfl (.inl rfl) rfl hM.at0 Q3.out ?_)) | go_values | go_skip | go_guarded | go_step | go_upon | (simp only [Int.not_lt, Int.not_le] at *; go_simp))
  go_ret2
  exact ⟨rfl, hM.below⟩
theorem bld_c0 (w : World) : (Instr.build 23 #[]).run Try.prog w = .ok (agv (ivs [0, 0, 0, 0])) w := by kernel_rfl
theorem bld_c4 (k n e a : Int) (w : World) : (Instr.build 23 #[(0, .int .i64 k), (1, .int .i64 n), (2, .int .i64 e), (3, .int .i64 a)]).run Try.prog w = .ok (agv (ivs [k, n, e, a])) w := by kernel_rfl
theorem bld_e0 (w : World) : (Instr.build 52 #[]).run Try.prog w = .ok (agv (ivs [0, 0, 0])) w := by kernel_rfl
theorem bld_e3 (k n e : Int) (w : World) : (Instr.build 52 #[(0, .int .i64 k), (1, .int .i64 n), (2, .int .i64 e)]).run Try.prog w = .ok (agv (ivs [k, n, e])) w := by kernel_rfl
set_option maxHeartbeats 2000000 in
theorem unpack_any (x : Int) (w : World) (h0 : 0 ≤ x) (h1 : x < 18446744073709551616) : Calls Try.prog 11 #[.int .u64 x] w fun e w' => e = .returned (.tuple #[cmV (upV x), .int .i64 (upC x)]) ∧ Below w.heap.size w w' := by
  have hM := Mv.nil w
  unfold upV upC
  have hz : (x / 35184372088832 != 0) = !cwB x := by
    unfold cwB
    rw [Bool.eq_iff_iff]
    simp only [bne_iff_ne, ne_eq, Bool.not_eq_true', decide_eq_false_iff_not]
    omega
  have HL : Hid (Vs (ivs [0, 0, 0, 0]) 4) := ivs_vs rfl
  cases hc : cwB x
  · rw [hc] at hz
    have hz : (x / 35184372088832 != 0) = true := hz
    have hb := bld_c0
    clear h0 h1 hc
    go_enter Try.func11, Try.ntmps11
    repeat' (first | (go_big_may; first | (refine v_alloc rfl zer_cmd rfl ?_; intro u zb hN; replace hM := hM.new hN (by decide); clear hN) | (refine v_build rfl rfl hb (by simp [Act.eval]) ?_) | (refine v_fill rfl rfl row_cmd rfl rfl hM.at0 HL.out HL.out.len ?_; intro u hv hc; replace hM := hM.put0 hc hv; clear hv hc)) | go_values | go_skip | go_guarded | go_step | go_upon | (simp only [Int.not_lt, Int.not_le] at *; go_simp))
    exact bodyPost_ret (slots.ret_2 Try.results11 rfl (ld_var row_cmd hM.at0 HL.out.len) rfl) rfl ⟨rfl, hM.below⟩
  · rw [hc] at hz
    have hz : (x / 35184372088832 != 0) = false := hz
    have h45 : x < 35184372088832 := of_decide_eq_true hc
    have P1 : Hid (∀ u, Calls Try.prog 34 #[.int .u64 x, .int .i64 41, .int .i64 4] u fun e w' => e = .returned (.int .i64 (upK x).1) ∧ Below u.heap.size u w') := fun u => by
      have := part41_4 x u h0 h1
      rw [show x / 2199023255552 % 16 = (upK x).1 by unfold upK; simp only; omega] at this
      exact this
    have P2 : Hid (∀ u, Calls Try.prog 34 #[.int .u64 x, .int .i64 37, .int .i64 4] u fun e w' => e = .returned (.int .i64 (upK x).2.1) ∧ Below u.heap.size u w') := fun u => part37_4 x u h0 h1
    have P3 : Hid (∀ u, Calls Try.prog 34 #[.int .u64 x, .int .i64 32, .int .i64 5] u fun e w' => e = .returned (.int .i64 (upK x).2.2.1) ∧ Below u.heap.size u w') := fun u => part32_5 x u h0 h1
    have P4 : Hid (∀ u, Calls Try.prog 34 #[.int .u64 x, .int .i64 0, .int .i64 32] u fun e w' => e = .returned (.int .i64 (upK x).2.2.2) ∧ Below u.heap.size u w') := fun u => by
      have := part0_32 x u h0 h1
      rw [show x / 1 % 4294967296 = (upK x).2.2.2 by unfold upK; simp only; omega] at this
      exact this
    rw [if_pos rfl, if_pos rfl]
    generalize upK x = y at *
    obtain ⟨y1, y2, y3, y4⟩ := y
    simp only at P1 P2 P3 P4
    have hb := bld_c4 y1 y2 y3 y4
    have HV : Hid (Vs (ivs [y1, y2, y3, y4]) 4) := ivs_vs rfl
    show Calls _ _ _ _ fun e w' => e = .returned (.tuple #[agv (ivs [y1, y2, y3, y4]), .int .i64 0]) ∧ _
    clear h0 h1 hc h45
    generalize ivs [y1, y2, y3, y4] = V at *
    go_enter Try.func11, Try.ntmps11
    repeat' (first | (go_big_may; first | (refine v_alloc rfl zer_cmd rfl ?_; intro u zb hN; replace hM := hM.new hN (by decide); clear hN)) | go_values | go_skip | go_guarded | go_step | go_upon | (simp only [Int.not_lt, Int.not_le] at *; go_simp))
    refine (P1.out _).mono ?_
    rintro r u1 ⟨rfl, hv⟩
    replace hM := hM.call hv
    clear hv
    repeat' (first | go_values | go_skip | go_guarded | go_step | go_upon | (simp only [Int.not_lt, Int.not_le] at *; go_simp))
    refine (P2.out _).mono ?_
    rintro r u2 ⟨rfl, hv⟩
    replace hM := hM.call hv
    clear hv
    repeat' (first | go_values | go_skip | go_guarded | go_step | go_upon | (simp only [Int.not_lt, Int.not_le] at *; go_simp))
    refine (P3.out _).mono ?_
    rintro r u3 ⟨rfl, hv⟩
    replace hM := hM.call hv
    clear hv
    repeat' (first | go_values | go_skip | go_guarded | go_step | go_upon | (simp only [Int.not_lt, Int.not_le] at *; go_simp))
    refine (P4.out _).mono ?_
    rintro r u4 ⟨rfl, hv⟩
    replace hM := hM.call hv
    clear hv
    repeat' (first | (go_big_may; first | (refine v_build rfl rfl hb (by simp [Act.eval]) ?_) | (refine v_fill rfl rfl row_cmd rfl rfl hM.at0 HV.out HL.out.len ?_; intro u hv hc; replace hM := hM.put0 hc hv; clear hv hc)) | go_values | go_skip | go_guarded | go_step | go_upon | (simp only [Int.not_lt, Int.not_le] at *; go_simp))
    exact bodyPost_ret (slots.ret_2 Try.results11 rfl (ld_var row_cmd hM.at0 HV.out.len) rfl) rfl ⟨rfl, hM.below⟩
theorem ev_or {c s a : Int} (h : Sm (c, s, a)) : bits .or .u64 c (s * 256) = c + s * 256 ∧ bits .or .u64 (c + s * 256) (a * 65536) = evW (c, s, a) := by
  obtain ⟨c0, c1, s0, s1, a0, a1⟩ := h
  simp only at *
  refine ⟨or_lo _ _ 8 (by omega) (by omega) (by omega) (by omega) (by omega) (by omega) (by omega), ?_⟩
  rw [or_lo _ _ 16 (by omega) (by omega) (by omega) (by omega) (by omega) (by omega) (by omega)]
  unfold evW
  simp only
  omega
set_option maxHeartbeats 2000000 in
theorem packEvent_any (x : Ev) (w : World) (h : Sm x) : Calls Try.prog 67 #[evV x] w fun e w' => e = .returned (.int .u64 (evW x)) ∧ Below w.heap.size w w' := by
  obtain ⟨c, s, a⟩ := x
  obtain ⟨o1, o2⟩ := ev_or h
  obtain ⟨c0, c1, s0, s1, a0, a1⟩ := h
  simp only at *
  show Calls Try.prog 67 #[agv (ivs [c, s, a])] w _
  have Q0 : Hid ((ivs [c, s, a])[0]? = some (.int .i64 c)) := rfl
  have Q1 : Hid ((ivs [c, s, a])[1]? = some (.int .i64 s)) := rfl
  have Q2 : Hid ((ivs [c, s, a])[2]? = some (.int .i64 a)) := rfl
  have c1 : IntKind.u64.wrap c = c := by rw [IntKind.wrap_u64]; omega
  have c2 : IntKind.u64.wrap s = s := by rw [IntKind.wrap_u64]; omega
  have c3 : IntKind.u64.wrap a = a := by rw [IntKind.wrap_u64]; omega
  have t2 : IntKind.u64.wrap (s * 256) = s * 256 := by rw [IntKind.wrap_u64]; omega
  have t3 : IntKind.u64.wrap (a * 65536) = a * 65536 := by rw [IntKind.wrap_u64]; omega
  have hM := Mv.nil w
  generalize evW (c, s, a) = W at *
  generalize hv : ivs [c, s, a] = V at *
  clear hv
  go_enter Try.func67, Try.ntmps67
  repeat' (first | (go_big_may; first | (refine v_box rfl rfl rfl ?_; intro u zb hN; replace hM := hM.new hN (by decide); clear hN) | (refine v_get rfl rfl (.inl rfl) rfl hM.at0 Q0.out ?_) | (refine v_get rfl rfl (.inl rfl) rfl hM.at0 Q1.out ?_) | (refine v_get rfl rfl (.inl rfl) rfl hM.at0 Q2.out ?_)) | go_values | go_skip | go_guarded | go_step | go_upon | (simp only [Int.not_lt, Int.not_le] at *; go_simp))
  go_ret
  exact ⟨rfl, hM.below⟩
set_option maxHeartbeats 2000000 in
theorem unpackEvent_any (x : Int) (w : World) (h0 : 0 ≤ x) (h1 : x < 18446744073709551616) : Calls Try.prog 45 #[.int .u64 x] w fun e w' => e = .returned (evV (evU x)) ∧ Below w.heap.size w w' := by
  have hM := Mv.nil w
  have P1 : Hid (∀ u, Calls Try.prog 34 #[.int .u64 x, .int .i64 0, .int .i64 8] u fun e w' => e = .returned (.int .i64 (evU x).1) ∧ Below u.heap.size u w') := fun u => by
    have := part0_8 x u h0 h1
    rw [show x / 1 % 256 = (evU x).1 by unfold evU; simp only; omega] at this
    exact this
  have P2 : Hid (∀ u, Calls Try.prog 34 #[.int .u64 x, .int .i64 8, .int .i64 8] u fun e w' => e = .returned (.int .i64 (evU x).2.1) ∧ Below u.heap.size u w') := fun u => part8_8 x u h0 h1
  have P3 : Hid (∀ u, Calls Try.prog 34 #[.int .u64 x, .int .i64 16, .int .i64 8] u fun e w' => e = .returned (.int .i64 (evU x).2.2) ∧ Below u.heap.size u w') := fun u => part16_8 x u h0 h1
  generalize evU x = y at *
  obtain ⟨y1, y2, y3⟩ := y
  simp only at P1 P2 P3
  have hb := bld_e3 y1 y2 y3
  have HV : Hid (Vs (ivs [y1, y2, y3]) 3) := ivs_vs rfl
  have HL : Hid (Vs (ivs [0, 0, 0]) 3) := ivs_vs rfl
  show Calls _ _ _ _ fun e w' => e = .returned (agv (ivs [y1, y2, y3])) ∧ _
  clear h0 h1
  generalize ivs [y1, y2, y3] = V at *
  go_enter Try.func45, Try.ntmps45
  repeat' (first | (go_big_may; first | (refine v_alloc rfl zer_event rfl ?_; intro u zb hN; replace hM := hM.new hN (by decide); clear hN)) | go_values | go_skip | go_guarded | go_step | go_upon | (simp only [Int.not_lt, Int.not_le] at *; go_simp))
  refine (P1.out _).mono ?_
  rintro r u1 ⟨rfl, hv⟩
  replace hM := hM.call hv
  clear hv
  repeat' (first | go_values | go_skip | go_guarded | go_step | go_upon | (simp only [Int.not_lt, Int.not_le] at *; go_simp))
  refine (P2.out _).mono ?_
  rintro r u2 ⟨rfl, hv⟩
  replace hM := hM.call hv
  clear hv
  repeat' (first | go_values | go_skip | go_guarded | go_step | go_upon | (simp only [Int.not_lt, Int.not_le] at *; go_simp))
  refine (P3.out _).mono ?_
  rintro r u3 ⟨rfl, hv⟩
  replace hM := hM.call hv
  clear hv
  repeat' (first | (go_big_may; first | (refine v_build rfl rfl hb (by simp [Act.eval]) ?_) | (refine v_fill rfl rfl row_event rfl rfl hM.at0 HV.out HL.out.len ?_; intro u hv hc; replace hM := hM.put0 hc hv; clear hv hc)) | go_values | go_skip | go_guarded | go_step | go_upon | (simp only [Int.not_lt, Int.not_le] at *; go_simp))
  exact bodyPost_ret (slots.ret_1 Try.results45 rfl (ld_var row_event hM.at0 HV.out.len)) rfl ⟨rfl, hM.below⟩
end Go.Proofs.Ythjmcopknkemnaa.host
