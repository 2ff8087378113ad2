/- HostPacks: whatever is handed in, Pack and Unpack answer what the document says. -/
import Derived.Test.YthjmcopknkemnaaHstS
import Derived.Test.YthjmcopknkemnaaHstL
import Derived.Test.YthjmcopknkemnaaHstO
namespace Go.Proofs.Ythjmcopknkemnaa.hostPacks
open Go Go.RowKit
open Go.Proofs.Ythjmcopknkemnaa Go.Proofs.Ythjmcopknkemnaa.host
open Go.Proofs.Ythjmcopknkemnaa.slots (Row row_cmd Chg ag bsq InB)
set_option linter.unusedVariables false
set_option linter.unusedSimpArgs false
set_option maxRecDepth 100000

set_option maxHeartbeats 4000000 in
theorem walk (k n e a x : Int) (wx : (Lit.int .u64 x).wf = true) (w : World) (hp : InB k n e a) : Calls Try.prog 3 #[ag [k, n, e, a], .int .u64 x] w fun r w' => r = .returned (.bool true) ∧ Below w.heap.size w w' := by
  have hx := u64_wf wx
  show Calls Try.prog 3 #[agv (ivs [k, n, e, a]), .int .u64 x] w _
  have H1 : Hid (∀ u, Calls Try.prog 9 #[agv (ivs [k, n, e, a])] u fun e' w' => e' = .returned (.tuple #[.int .u64 (pkV (k, n, e, a)), .int .i64 (pkC (k, n, e, a))]) ∧ Below u.heap.size u w') := pack_any (k, n, e, a)
  have H2 : Hid (∀ u, Calls Try.prog 10 #[agv (ivs [k, n, e, a])] u fun e' w' => e' = .returned (.tuple #[.int .u64 (pkV (k, n, e, a)), .int .i64 (pkC (k, n, e, a))]) ∧ Below u.heap.size u w') := word_any (k, n, e, a)
  have H3 : Hid (∀ u, Calls Try.prog 11 #[.int .u64 x] u fun e w' => e = .returned (.tuple #[agv (ivs [(upV x).1, (upV x).2.1, (upV x).2.2.1, (upV x).2.2.2]), .int .i64 (upC x)]) ∧ Below u.heap.size u w') := fun u => unpack_any x u hx.1 hx.2
  have H4 : Hid (∀ u, Calls Try.prog 12 #[.int .u64 x] u fun e w' => e = .returned (.tuple #[agv (ivs [(upV x).1, (upV x).2.1, (upV x).2.2.1, (upV x).2.2.2]), .int .i64 (upC x)]) ∧ Below u.heap.size u w') := fun u => unword_any x u hx.1 hx.2
  have HL : Hid (0 + 4 ≤ (ivs [k, n, e, a]).length) := Nat.le_refl _
  have HA : Hid (cv (ivs [k, n, e, a]) 0 4 = ivs [k, n, e, a]) := rfl
  have HZ : Hid ((ivs [0, 0, 0, 0]).length = 4) := rfl
  obtain ⟨U, hU⟩ : ∃ U, [(upV x).1, (upV x).2.1, (upV x).2.2.1, (upV x).2.2.2] = U := ⟨_, rfl⟩
  have HUL : Hid (U.length = 4) := by rw [← hU]; rfl
  rw [hU] at H3 H4
  have HUV : Hid (Vs (ivs U) 4) := ivs_vs HUL.out
  have HL2 : Hid (0 + 4 ≤ (ivs U).length) := by show _ ≤ _; rw [HUV.out.len]; exact Nat.le_refl _
  have HA2 : Hid (cv (ivs U) 0 4 = ivs U) := cv_all HUV.out.len
  generalize ivs [k, n, e, a] = V at *
  generalize pkV (k, n, e, a) = p1 at *
  generalize pkC (k, n, e, a) = p2 at *
  generalize upC x = p3 at *
  have hM := Mv.nil w
  have e1 : (p1 == p1) = true := by simp
  have e2 : (p2 == p2) = true := by simp
  have e3 : (p3 == p3) = true := by simp
  clear hU hx hp wx
  go_enter Try.func3, Try.ntmps3
  repeat' (first | (go_big_may; first | (refine v_box rfl rfl rfl ?_; intro u xc hN; replace hM := hM.new hN (by decide); clear hN) | (refine v_load rfl rfl row_cmd rfl hM.at0 HL.out HA.out ?_)) | go_values | go_skip | go_guarded | go_step | go_upon | (simp only [Int.not_lt, Int.not_le] at *; go_simp))
  refine (H1.out _).mono ?_
  rintro r u1 ⟨rfl, hv⟩
  replace hM := hM.call hv
  clear hv
  repeat' (first | (go_big_may; first | (refine v_load rfl rfl row_cmd rfl hM.at0 HL.out HA.out ?_)) | go_values | go_skip | go_guarded | go_step | go_upon | (simp only [Int.not_lt, Int.not_le] at *; go_simp))
  refine (H2.out _).mono ?_
  rintro r u2 ⟨rfl, hv⟩
  replace hM := hM.call hv
  clear hv
  repeat' (first | go_values | go_skip | go_guarded | go_step | go_upon | (simp only [Int.not_lt, Int.not_le] at *; go_simp))
  refine (H3.out _).mono ?_
  rintro r u3 ⟨rfl, hv⟩
  replace hM := hM.call hv
  clear hv
  repeat' (first | (go_big_may; first | (refine v_alloc rfl zer_cmd rfl ?_; intro u xa hN; replace hM := hM.new hN (by decide); clear hN) | (refine v_fill rfl rfl row_cmd rfl rfl hM.at0 HUV.out HZ.out ?_; intro u hv hc; replace hM := hM.put0 hc hv; clear hv hc)) | go_values | go_skip | go_guarded | go_step | go_upon | (simp only [Int.not_lt, Int.not_le] at *; go_simp))
  refine (H4.out _).mono ?_
  rintro r u4 ⟨rfl, hv⟩
  replace hM := hM.call hv
  clear hv
  repeat' (first | (go_big_may; first | (refine v_alloc rfl zer_cmd rfl ?_; intro u xb hN; replace hM := hM.new hN (by decide); clear hN) | (refine v_fill rfl rfl row_cmd rfl rfl hM.at0 HUV.out HZ.out ?_; intro u hv hc; replace hM := hM.put0 hc hv; clear hv hc) | (refine v_load rfl rfl row_cmd rfl hM.at1 HL2.out HA2.out ?_) | (refine v_load rfl rfl row_cmd rfl hM.at0 HL2.out HA2.out ?_) | (refine slots.a_eql rfl rfl cmp_cmd (l := U) (m := U) rfl rfl HUL.out HUL.out ?_; rw [decide_eq_true (rfl : U = U)])) | go_values | go_skip | go_guarded | go_step | go_upon | (simp only [Int.not_lt, Int.not_le] at *; go_simp))
  go_ret
  exact ⟨rfl, hM.below⟩
end Go.Proofs.Ythjmcopknkemnaa.hostPacks
