/- HostBack: a command is read as it was packed, and no two have one word. -/
import Derived.Test.YthjmcopknkemnaaHstL
import Derived.Test.YthjmcopknkemnaaHstO
namespace Go.Proofs.Ythjmcopknkemnaa.hostBack
open Go Go.RowKit
open Go.Proofs.Ythjmcopknkemnaa Go.Proofs.Ythjmcopknkemnaa.host
open Go.Proofs.Ythjmcopknkemnaa.slots (Row row_cmd Chg ag bsq InB)
set_option linter.unusedVariables false
set_option linter.unusedSimpArgs false
set_option maxRecDepth 100000

set_option maxHeartbeats 4000000 in
theorem walk0 (k n e a x : Int) (h0 : 0 ≤ x) (h1 : x < 18446744073709551616) (w : World) : Calls Try.prog 6 #[agv (ivs [k, n, e, a]), .int .u64 x] w fun r w' => r = .returned (.bool true) ∧ Below w.heap.size w w' := by
  have HPK : Hid (∀ u, Calls Try.prog 9 #[agv (ivs [k, n, e, a])] u fun e' w' => e' = .returned (.tuple #[.int .u64 (pkV (k, n, e, a)), .int .i64 (pkC (k, n, e, a))]) ∧ Below u.heap.size u w') := pack_any (k, n, e, a)
  have HLV : Hid (∀ u, Calls Try.prog 26 #[] u fun e w' => e = .returned (.bool true) ∧ Below u.heap.size u w') := lives_any
  have HUX : Hid (∀ u, Calls Try.prog 11 #[.int .u64 x] u fun e w' => e = .returned (.tuple #[agv (ivs [(upV x).1, (upV x).2.1, (upV x).2.2.1, (upV x).2.2.2]), .int .i64 (upC x)]) ∧ Below u.heap.size u w') := fun u => unpack_any x u h0 h1
  have HL : Hid (0 + 4 ≤ (ivs [k, n, e, a]).length) := Nat.le_refl _
  have HA : Hid (cv (ivs [k, n, e, a]) 0 4 = ivs [k, n, e, a]) := rfl
  have HZ : Hid ((ivs [0, 0, 0, 0]).length = 4) := rfl
  have HZV : Hid (Vs (ivs [0, 0, 0, 0]) 4) := ivs_vs rfl
  have HZL : Hid (0 + 4 ≤ (ivs [0, 0, 0, 0]).length) := Nat.le_refl _
  have HZA : Hid (cv (ivs [0, 0, 0, 0]) 0 4 = ivs [0, 0, 0, 0]) := rfl
  have HVV : Hid (Vs (ivs [k, n, e, a]) 4) := ivs_vs rfl
  have hb0 := bld_c0
  have hM := Mv.nil w
  -- what is read of the word that is handed in
  obtain ⟨U, hU⟩ : ∃ U, [(upV x).1, (upV x).2.1, (upV x).2.2.1, (upV x).2.2.2] = U := ⟨_, rfl⟩
  have HUL : Hid (U.length = 4) := by rw [← hU]; rfl
  have HUV : Hid (Vs (ivs U) 4) := ivs_vs HUL.out
  have HL2 : Hid (0 + 4 ≤ (ivs U).length) := by show _ ≤ _; rw [HUV.out.len]; exact Nat.le_refl _
  have HA2 : Hid (cv (ivs U) 0 4 = ivs U) := cv_all HUV.out.len
  have HCU : Hid (cwB x = false → upC x = 4 ∧ U = [0, 0, 0, 0]) := fun h => by
    rw [← hU]
    unfold upC upV
    rw [h]
    exact ⟨rfl, rfl⟩
  have HCT : Hid (cwB x = true → upC x = 0 ∧ ∀ u, Calls Try.prog 9 #[agv (ivs U)] u fun e' w' => e' = .returned (.tuple #[.int .u64 x, .int .i64 0]) ∧ Below u.heap.size u w') := fun h => by
    have hx : x < 35184372088832 := of_decide_eq_true h
    have e1 : upV x = upK x := by unfold upV; rw [if_pos h]
    refine ⟨by unfold upC; rw [if_pos h], fun u => ?_⟩
    have := pack_any (upV x) u
    rw [e1] at this hU
    have hp := pk_iff.2 (up_in h0 hx)
    have p1 : pkV (upK x) = x := by unfold pkV; rw [if_pos hp, pk_up h0 hx]
    have p2 : pkC (upK x) = 0 := by unfold pkC; rw [if_pos hp]
    rw [p1, p2] at this
    rw [← hU]
    exact this
  have HPT : Hid (pkB (k, n, e, a) = true → ∀ u, Calls Try.prog 11 #[.int .u64 (pkW (k, n, e, a))] u fun e' w' => e' = .returned (.tuple #[agv (ivs [k, n, e, a]), .int .i64 0]) ∧ Below u.heap.size u w') := fun h u => by
    have hp := pk_iff.1 h
    have hi := pkW_in hp
    have := unpack_any (pkW (k, n, e, a)) u hi.1 (by omega)
    have hc : cwB (pkW (k, n, e, a)) = true := decide_eq_true hi.2
    unfold upV upC at this
    rw [if_pos hc, if_pos hc, up_pk hp] at this
    exact this
  have HPV : Hid (pkV (k, n, e, a) = (if pkB (k, n, e, a) = true then pkW (k, n, e, a) else 0) ∧ pkC (k, n, e, a) = if pkB (k, n, e, a) = true then 0 else 1) := ⟨rfl, rfl⟩
  rw [hU] at HUX
  clear hU h0 h1
  generalize pkV (k, n, e, a) = pv at *
  generalize pkC (k, n, e, a) = pc at *
  generalize pkW (k, n, e, a) = pw at *
  generalize pkB (k, n, e, a) = pb at *
  generalize upC x = uc at *
  generalize hbx : cwB x = bx at *
  clear hbx
  have HZ4 : Hid (([k, n, e, a] : List Int).length = 4) := rfl
  generalize hZ : ([k, n, e, a] : List Int) = Z at *
  clear hZ
  cases pb
  · cases bx
    · have p0 := HPV.out
      simp only [Bool.false_eq_true, if_false] at p0
      obtain ⟨p1, p2⟩ := p0
      rw [p1, p2] at HPK
      obtain ⟨c1, c2⟩ := HCU.out (by first | rfl | trivial)
      have HUO : Hid (U = [0, 0, 0, 0]) := c2
      rw [c1] at HUX
      clear c1 c2
      clear p1 p2 HPV HPT HCU HCT
      go_enter Try.func6, Try.ntmps6
      repeat' (first | (go_big_may; first | (refine v_box rfl rfl rfl ?_; intro u xc hN; replace hM := hM.new hN (by decide); clear hN) | (refine v_load rfl rfl row_cmd rfl hM.at0 HL.out HA.out ?_)) | go_values | go_skip | go_guarded | go_step | go_upon | (simp only [Int.not_lt, Int.not_le] at *; go_simp))
      refine (HPK.out _).mono ?_
      rintro r u1 ⟨rfl, hv⟩
      replace hM := hM.call hv
      clear hv
      repeat' (first | go_values | go_skip | go_guarded | go_step | go_upon | (simp only [Int.not_lt, Int.not_le] at *; go_simp))
      refine (HUX.out _).mono ?_
      rintro r u3 ⟨rfl, hv⟩
      replace hM := hM.call hv
      clear hv
      repeat' (first | (go_big_may; first | (refine v_alloc rfl zer_cmd rfl ?_; intro u xd hN; replace hM := hM.new hN (by decide); clear hN) | (refine v_fill rfl rfl row_cmd rfl rfl hM.at0 HUV.out rfl ?_; intro u hv hc; replace hM := hM.put0 hc hv; clear hv hc)) | go_values | go_skip | go_guarded | go_step | go_upon | (simp only [Int.not_lt, Int.not_le] at *; go_simp))
      refine (HLV.out _).mono ?_
      rintro r u5 ⟨rfl, hv⟩
      replace hM := hM.call hv
      clear hv
      repeat' (first | (go_big_may; first | (refine v_load rfl rfl row_cmd rfl hM.at0 HL2.out HA2.out ?_) | (refine v_build rfl rfl hb0 ?hbv ?_; (case hbv => simp [Act.eval, Act.put])) | (refine slots.a_eql rfl rfl cmp_cmd (l := U) (m := [0, 0, 0, 0]) rfl rfl HUL.out rfl ?_; rw [decide_eq_true HUO.out])) | go_values | go_skip | go_guarded | go_step | go_upon | (simp only [Int.not_lt, Int.not_le] at *; go_simp))
      go_ret
      exact ⟨rfl, hM.below⟩
    · have p0 := HPV.out
      simp only [Bool.false_eq_true, if_false] at p0
      obtain ⟨p1, p2⟩ := p0
      rw [p1, p2] at HPK
      obtain ⟨c1, c2⟩ := HCT.out (by first | rfl | trivial)
      have HPU2 : Hid (∀ u, Calls Try.prog 9 #[agv (ivs U)] u fun e' w' => e' = .returned (.tuple #[.int .u64 x, .int .i64 0]) ∧ Below u.heap.size u w') := c2
      rw [c1] at HUX
      clear c1 c2
      clear p1 p2 HPV HPT HCU HCT
      go_enter Try.func6, Try.ntmps6
      repeat' (first | (go_big_may; first | (refine v_box rfl rfl rfl ?_; intro u xc hN; replace hM := hM.new hN (by decide); clear hN) | (refine v_load rfl rfl row_cmd rfl hM.at0 HL.out HA.out ?_)) | go_values | go_skip | go_guarded | go_step | go_upon | (simp only [Int.not_lt, Int.not_le] at *; go_simp))
      refine (HPK.out _).mono ?_
      rintro r u1 ⟨rfl, hv⟩
      replace hM := hM.call hv
      clear hv
      repeat' (first | go_values | go_skip | go_guarded | go_step | go_upon | (simp only [Int.not_lt, Int.not_le] at *; go_simp))
      refine (HUX.out _).mono ?_
      rintro r u3 ⟨rfl, hv⟩
      replace hM := hM.call hv
      clear hv
      repeat' (first | (go_big_may; first | (refine v_alloc rfl zer_cmd rfl ?_; intro u xd hN; replace hM := hM.new hN (by decide); clear hN) | (refine v_fill rfl rfl row_cmd rfl rfl hM.at0 HUV.out rfl ?_; intro u hv hc; replace hM := hM.put0 hc hv; clear hv hc) | (refine v_load rfl rfl row_cmd rfl hM.at0 HL2.out HA2.out ?_)) | go_values | go_skip | go_guarded | go_step | go_upon | (simp only [Int.not_lt, Int.not_le] at *; go_simp))
      refine (HPU2.out _).mono ?_
      rintro r u4 ⟨rfl, hv⟩
      replace hM := hM.call hv
      clear hv
      have ex : (x == x) = true := by simp
      repeat' (first | go_values | go_skip | go_guarded | go_step | go_upon | (simp only [Int.not_lt, Int.not_le] at *; go_simp))
      refine (HLV.out _).mono ?_
      rintro r u5 ⟨rfl, hv⟩
      replace hM := hM.call hv
      clear hv
      repeat' (first | go_values | go_skip | go_guarded | go_step | go_upon | (simp only [Int.not_lt, Int.not_le] at *; go_simp))
      go_ret
      exact ⟨rfl, hM.below⟩
  · cases bx
    · have p0 := HPV.out
      simp only [if_true] at p0
      obtain ⟨p1, p2⟩ := p0
      rw [p1, p2] at HPK
      have HPU : Hid (∀ u, Calls Try.prog 11 #[.int .u64 pw] u fun e' w' => e' = .returned (.tuple #[agv (ivs Z), .int .i64 0]) ∧ Below u.heap.size u w') := HPT.out (by first | rfl | trivial)
      obtain ⟨c1, c2⟩ := HCU.out (by first | rfl | trivial)
      have HUO : Hid (U = [0, 0, 0, 0]) := c2
      rw [c1] at HUX
      clear c1 c2
      clear p1 p2 HPV HPT HCU HCT
      go_enter Try.func6, Try.ntmps6
      repeat' (first | (go_big_may; first | (refine v_box rfl rfl rfl ?_; intro u xc hN; replace hM := hM.new hN (by decide); clear hN) | (refine v_load rfl rfl row_cmd rfl hM.at0 HL.out HA.out ?_)) | go_values | go_skip | go_guarded | go_step | go_upon | (simp only [Int.not_lt, Int.not_le] at *; go_simp))
      refine (HPK.out _).mono ?_
      rintro r u1 ⟨rfl, hv⟩
      replace hM := hM.call hv
      clear hv
      repeat' (first | go_values | go_skip | go_guarded | go_step | go_upon | (simp only [Int.not_lt, Int.not_le] at *; go_simp))
      refine (HPU.out _).mono ?_
      rintro r u2 ⟨rfl, hv⟩
      replace hM := hM.call hv
      clear hv
      repeat' (first | (go_big_may; first | (refine v_alloc rfl zer_cmd rfl ?_; intro u xa hN; replace hM := hM.new hN (by decide); clear hN) | (refine v_fill rfl rfl row_cmd rfl rfl hM.at0 HVV.out rfl ?_; intro u hv hc; replace hM := hM.put0 hc hv; clear hv hc) | (refine v_load rfl rfl row_cmd rfl hM.at0 HL.out HA.out ?_) | (refine v_load rfl rfl row_cmd rfl hM.at1 HL.out HA.out ?_) | (refine slots.a_neq rfl rfl cmp_cmd (l := Z) (m := Z) rfl rfl HZ4.out HZ4.out ?_; rw [decide_eq_true (rfl : Z = Z)])) | go_values | go_skip | go_guarded | go_step | go_upon | (simp only [Int.not_lt, Int.not_le] at *; go_simp))
      refine (HUX.out _).mono ?_
      rintro r u3 ⟨rfl, hv⟩
      replace hM := hM.call hv
      clear hv
      repeat' (first | (go_big_may; first | (refine v_alloc rfl zer_cmd rfl ?_; intro u xd hN; replace hM := hM.new hN (by decide); clear hN) | (refine v_fill rfl rfl row_cmd rfl rfl hM.at0 HUV.out rfl ?_; intro u hv hc; replace hM := hM.put0 hc hv; clear hv hc)) | go_values | go_skip | go_guarded | go_step | go_upon | (simp only [Int.not_lt, Int.not_le] at *; go_simp))
      refine (HLV.out _).mono ?_
      rintro r u5 ⟨rfl, hv⟩
      replace hM := hM.call hv
      clear hv
      repeat' (first | (go_big_may; first | (refine v_load rfl rfl row_cmd rfl hM.at0 HL2.out HA2.out ?_) | (refine v_build rfl rfl hb0 ?hbv ?_; (case hbv => simp [Act.eval, Act.put])) | (refine slots.a_eql rfl rfl cmp_cmd (l := U) (m := [0, 0, 0, 0]) rfl rfl HUL.out rfl ?_; rw [decide_eq_true HUO.out])) | go_values | go_skip | go_guarded | go_step | go_upon | (simp only [Int.not_lt, Int.not_le] at *; go_simp))
      go_ret
      exact ⟨rfl, hM.below⟩
    · have p0 := HPV.out
      simp only [if_true] at p0
      obtain ⟨p1, p2⟩ := p0
      rw [p1, p2] at HPK
      have HPU : Hid (∀ u, Calls Try.prog 11 #[.int .u64 pw] u fun e' w' => e' = .returned (.tuple #[agv (ivs Z), .int .i64 0]) ∧ Below u.heap.size u w') := HPT.out (by first | rfl | trivial)
      obtain ⟨c1, c2⟩ := HCT.out (by first | rfl | trivial)
      have HPU2 : Hid (∀ u, Calls Try.prog 9 #[agv (ivs U)] u fun e' w' => e' = .returned (.tuple #[.int .u64 x, .int .i64 0]) ∧ Below u.heap.size u w') := c2
      rw [c1] at HUX
      clear c1 c2
      clear p1 p2 HPV HPT HCU HCT
      go_enter Try.func6, Try.ntmps6
      repeat' (first | (go_big_may; first | (refine v_box rfl rfl rfl ?_; intro u xc hN; replace hM := hM.new hN (by decide); clear hN) | (refine v_load rfl rfl row_cmd rfl hM.at0 HL.out HA.out ?_)) | go_values | go_skip | go_guarded | go_step | go_upon | (simp only [Int.not_lt, Int.not_le] at *; go_simp))
      refine (HPK.out _).mono ?_
      rintro r u1 ⟨rfl, hv⟩
      replace hM := hM.call hv
      clear hv
      repeat' (first | go_values | go_skip | go_guarded | go_step | go_upon | (simp only [Int.not_lt, Int.not_le] at *; go_simp))
      refine (HPU.out _).mono ?_
      rintro r u2 ⟨rfl, hv⟩
      replace hM := hM.call hv
      clear hv
      repeat' (first | (go_big_may; first | (refine v_alloc rfl zer_cmd rfl ?_; intro u xa hN; replace hM := hM.new hN (by decide); clear hN) | (refine v_fill rfl rfl row_cmd rfl rfl hM.at0 HVV.out rfl ?_; intro u hv hc; replace hM := hM.put0 hc hv; clear hv hc) | (refine v_load rfl rfl row_cmd rfl hM.at0 HL.out HA.out ?_) | (refine v_load rfl rfl row_cmd rfl hM.at1 HL.out HA.out ?_) | (refine slots.a_neq rfl rfl cmp_cmd (l := Z) (m := Z) rfl rfl HZ4.out HZ4.out ?_; rw [decide_eq_true (rfl : Z = Z)])) | go_values | go_skip | go_guarded | go_step | go_upon | (simp only [Int.not_lt, Int.not_le] at *; go_simp))
      refine (HUX.out _).mono ?_
      rintro r u3 ⟨rfl, hv⟩
      replace hM := hM.call hv
      clear hv
      repeat' (first | (go_big_may; first | (refine v_alloc rfl zer_cmd rfl ?_; intro u xd hN; replace hM := hM.new hN (by decide); clear hN) | (refine v_fill rfl rfl row_cmd rfl rfl hM.at0 HUV.out rfl ?_; intro u hv hc; replace hM := hM.put0 hc hv; clear hv hc) | (refine v_load rfl rfl row_cmd rfl hM.at0 HL2.out HA2.out ?_)) | go_values | go_skip | go_guarded | go_step | go_upon | (simp only [Int.not_lt, Int.not_le] at *; go_simp))
      refine (HPU2.out _).mono ?_
      rintro r u4 ⟨rfl, hv⟩
      replace hM := hM.call hv
      clear hv
      have ex : (x == x) = true := by simp
      repeat' (first | go_values | go_skip | go_guarded | go_step | go_upon | (simp only [Int.not_lt, Int.not_le] at *; go_simp))
      refine (HLV.out _).mono ?_
      rintro r u5 ⟨rfl, hv⟩
      replace hM := hM.call hv
      clear hv
      repeat' (first | go_values | go_skip | go_guarded | go_step | go_upon | (simp only [Int.not_lt, Int.not_le] at *; go_simp))
      go_ret
      exact ⟨rfl, hM.below⟩
theorem walk (k n e a x : Int) (hx : (Lit.int .u64 x).wf = true) (w : World) (hp : InB k n e a) : Calls Try.prog 6 #[ag [k, n, e, a], .int .u64 x] w fun r w' => r = .returned (.bool true) ∧ Below w.heap.size w w' := by
  have hb := host.u64_wf hx
  exact walk0 k n e a x hb.1 hb.2 w
end Go.Proofs.Ythjmcopknkemnaa.hostBack
