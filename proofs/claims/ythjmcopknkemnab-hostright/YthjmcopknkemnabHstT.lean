/- host, the document's answer: what SameMachine and Machine answer. -/
import Derived.Test.YthjmcopknkemnabHstR
import Derived.Test.YthjmcopknkemnabHstE
import Derived.Test.YthjmcopknkemnabRngS
import Derived.Test.YthjmcopknkemnabSltT
import Derived.Test.YthjmcopknkemnabSltE
namespace Go.Proofs.Ythjmcopknkemnab.host
open Go Go.RowKit
open Go.Proofs.Ythjmcopknkemnab
open Go.Proofs.Ythjmcopknkemnab.slots (Row row_board row_cmd Chg ag fl Wf bsq)
open Go.Proofs.Ythjmcopknkemnab.ring (Ces Rcs rgV rgW Rg Ce ceV named keep below_drewN laid3 box3 ceO)
set_option linter.unusedVariables false
set_option linter.unusedSimpArgs false
set_option maxRecDepth 100000

theorem sam_self (r : Rg) : ring.samB r r = true := by unfold ring.samB; simp
set_option maxHeartbeats 4000000 in
theorem same_mc (vc ve vc' ve' : Value) (m : Mc) (w : World) (h1 : Rcs w vc m.c.C) (h2 : Rcs w ve m.e.C) (h3 : Rcs w vc' m.c.C) (h4 : Rcs w ve' m.e.C) (hB : Wf m.B) :
    Calls Try.prog 7 #[agv (mvl vc ve m), agv (mvl vc' ve' m)] w fun e w' => e = .returned (.bool true) ∧ Below w.heap.size w w' := by
  have hM : Mv w w [] [(false, vc, m.c.C), (false, ve, m.e.C), (false, vc', m.c.C), (false, ve', m.e.C)] := ((((Mv.nil w).old h4).old h3).old h2).old h1
  have V1 := mvl_vs (rcs_one h1) (rcs_one h2) hB
  have V2 := mvl_vs (rcs_one h3) (rcs_one h4) hB
  have A0 : Hid (0 + 6 ≤ (mvl vc ve m).length) := by show _ ≤ _; rw [V1.len]; omega
  have A6 : Hid (6 + 6 ≤ (mvl vc ve m).length) := by show _ ≤ _; rw [V1.len]; omega
  have A12 : Hid (12 + 594 ≤ (mvl vc ve m).length) := by show _ ≤ _; rw [V1.len]; exact Nat.le_refl _
  have B0 : Hid (cv (mvl vc ve m) 0 6 = rgl vc m.c) := cv_c _ _ _
  have B6 : Hid (cv (mvl vc ve m) 6 6 = rgl ve m.e) := cv_e _ _ _
  have B12 : Hid (cv (mvl vc ve m) 12 594 = ivs (fl m.B)) := cv_b _ _ hB
  have C0 : Hid (0 + 6 ≤ (mvl vc' ve' m).length) := by show _ ≤ _; rw [V2.len]; omega
  have C6 : Hid (6 + 6 ≤ (mvl vc' ve' m).length) := by show _ ≤ _; rw [V2.len]; omega
  have C12 : Hid (12 + 594 ≤ (mvl vc' ve' m).length) := by show _ ≤ _; rw [V2.len]; exact Nat.le_refl _
  have D0 : Hid (cv (mvl vc' ve' m) 0 6 = rgl vc' m.c) := cv_c _ _ _
  have D6 : Hid (cv (mvl vc' ve' m) 6 6 = rgl ve' m.e) := cv_e _ _ _
  have D12 : Hid (cv (mvl vc' ve' m) 12 594 = ivs (fl m.B)) := cv_b _ _ hB
  have HS1 : Hid (∀ u, Rcs u vc m.c.C → Rcs u vc' m.c.C → Calls Try.prog 17 #[agv (rgl vc m.c), agv (rgl vc' m.c)] u fun e w' => e = .returned (.bool true) ∧ Below u.heap.size u w') := fun u k1 k2 => by
    have := ring.same_any m.c m.c vc vc' u k1 k2
    rw [sam_self] at this
    exact this
  have HS2 : Hid (∀ u, Rcs u ve m.e.C → Rcs u ve' m.e.C → Calls Try.prog 17 #[agv (rgl ve m.e), agv (rgl ve' m.e)] u fun e w' => e = .returned (.bool true) ∧ Below u.heap.size u w') := fun u k1 k2 => by
    have := ring.same_any m.e m.e ve ve' u k1 k2
    rw [sam_self] at this
    exact this
  have HBL : Hid ((fl m.B).length = 594) := hB.length
  generalize mvl vc ve m = X1 at *
  generalize mvl vc' ve' m = X2 at *
  generalize fl m.B = F at *
  clear V1 V2 h1 h2 h3 h4 hB
  go_enter Try.func7, Try.ntmps7
  repeat' (first | (go_big_may; first | (refine v_box rfl rfl rfl ?_; intro u xa hN; replace hM := hM.new hN (by decide); clear hN) | (refine v_box rfl rfl rfl ?_; intro u xb hN; replace hM := hM.new hN (by decide); clear hN) | (refine v_load rfl rfl row_ring rfl hM.at1 A0.out B0.out ?_) | (refine v_load rfl rfl row_ring rfl hM.at0 C0.out D0.out ?_)) | go_values | go_skip | go_guarded | go_step | go_upon | (simp only [Int.not_lt, Int.not_le] at *; go_simp))
  refine (HS1.out _ (hM.read (b := false) (by simp)) (hM.read (b := false) (by simp))).mono ?_
  rintro r u1 ⟨rfl, hv⟩
  replace hM := hM.call hv
  clear hv
  repeat' (first | (go_big_may; first | (refine v_load rfl rfl row_ring rfl hM.at1 A6.out B6.out ?_) | (refine v_load rfl rfl row_ring rfl hM.at0 C6.out D6.out ?_)) | go_values | go_skip | go_guarded | go_step | go_upon | (simp only [Int.not_lt, Int.not_le] at *; go_simp))
  refine (HS2.out _ (hM.read (b := false) (by simp)) (hM.read (b := false) (by simp))).mono ?_
  rintro r u2 ⟨rfl, hv⟩
  replace hM := hM.call hv
  clear hv
  repeat' (first | (go_big_may; first | (refine v_load rfl rfl row_board rfl hM.at1 A12.out B12.out ?_) | (refine v_load rfl rfl row_board rfl hM.at0 C12.out D12.out ?_) | (refine slots.a_eql rfl rfl slots.cmp_board (l := F) (m := F) rfl rfl HBL.out HBL.out ?_; rw [decide_eq_true (rfl : F = F)])) | go_values | go_skip | go_guarded | go_step | go_upon | (simp only [Int.not_lt, Int.not_le] at *; go_simp))
  go_ret
  exact ⟨rfl, hM.below⟩
theorem noEv_any (x : Ce) (w : World) (h0 : 0 ≤ x.1) (h1 : x.1 < 18446744073709551616) : Calls Try.prog 28 #[ceV x.1 x.2.1 x.2.2] w fun e w' => e = .returned (.bool (!ewB x.1)) ∧ Below w.heap.size w w' := by
  obtain ⟨xw, xb, xl⟩ := x
  simp only at h0 h1 ⊢
  obtain ⟨w1, hw1, hX1, hb1⟩ := named w (.cells #[.int .u64 xw, .int .i64 xb, .bool xl] 78)
  obtain ⟨⟨hz, x0, x1, x2⟩, _⟩ := ring.box3 hX1
  have HB1 : Hid (Below w.heap.size w w1) := hb1
  have H24 : Hid (∀ u, Calls Try.prog 29 #[.int .i64 24] u fun e w' => e = .returned (.int .i64 16777216) ∧ w' = u) := two24
  have hc : decide (16777216 ≤ xw) = !ewB xw := by
    unfold ewB
    rw [Bool.eq_iff_iff]
    simp
  clear hb1 hX1
  go_enter Try.func28, Try.ntmps28
  go_wp2_with fail
  go_quiet ((go_at_call 29; exact Calls.quiet_of_same (H24.out _)))
  go_wp2
  go_ret
  exact ⟨by rw [← hc]; rfl, below_drewN HB1.out _⟩
theorem all_at' {L : List Ce} {f : Ce → Bool} {k : Nat} {x : Ce} (h : L[k]? = some x) : (L.drop k).all f = (f x && (L.drop (k + 1)).all f) := by
  have hk := (List.getElem?_eq_some_iff.1 h).1
  have hx := (List.getElem?_eq_some_iff.1 h).2
  rw [List.drop_eq_getElem_cons hk, hx]
  rfl
set_option maxHeartbeats 8000000 in
theorem machine_any (vc ve : Value) (m : Mc) (w : World) (hc : Rcs w vc m.c.C) (he : Rcs w ve m.e.C) (hB : Wf m.B) (hwc : Ws m.c.C) (hwe : Ws m.e.C) :
    Calls Try.prog 10 #[agv (mvl vc ve m)] w fun e w' => e = .returned (.bool (rtB m)) ∧ Below w.heap.size w w' := by
  have hM : Mv w w [] [(false, vc, m.c.C), (false, ve, m.e.C)] := ((Mv.nil w).old he).old hc
  have HV : Hid (Vs (mvl vc ve m) 606) := mvl_vs (rcs_one hc) (rcs_one he) hB
  have E0 : Hid (0 + 6 ≤ (mvl vc ve m).length) := by show _ ≤ _; rw [HV.out.len]; omega
  have E6 : Hid (6 + 6 ≤ (mvl vc ve m).length) := by show _ ≤ _; rw [HV.out.len]; omega
  have E12 : Hid (12 + 594 ≤ (mvl vc ve m).length) := by show _ ≤ _; rw [HV.out.len]; exact Nat.le_refl _
  have C0 : Hid (cv (mvl vc ve m) 0 6 = rgl vc m.c) := cv_c vc ve m
  have C6 : Hid (cv (mvl vc ve m) 6 6 = rgl ve m.e) := cv_e vc ve m
  have C12 : Hid (cv (mvl vc ve m) 12 594 = ivs (fl m.B)) := cv_b vc ve hB
  have Q0 : Hid ((mvl vc ve m)[0]? = some vc) := rfl
  have Q6 : Hid ((mvl vc ve m)[6]? = some ve) := rfl
  have K1 : Hid (∀ u, Rcs u vc m.c.C → Calls Try.prog 24 #[agv (rgl vc m.c)] u fun e w' => e = .returned (.int .i64 (ring.chk m.c)) ∧ Below u.heap.size u w') := fun u h => ring.refRing_any vc m.c u h
  have K2 : Hid (∀ u, Rcs u ve m.e.C → Calls Try.prog 24 #[agv (rgl ve m.e)] u fun e w' => e = .returned (.int .i64 (ring.chk m.e)) ∧ Below u.heap.size u w') := fun u h => ring.refRing_any ve m.e u h
  have K3 : Hid (∀ u, Calls Try.prog 25 #[agv (ivs (fl m.B))] u fun e w' => e = .returned (.int .i64 (slots.chE m.B)) ∧ Below u.heap.size u w') := fun u => slots.board_any m.B u hB
  have K5 : Hid (ring.chk m.e = 0 → ∀ u, Rcs u ve m.e.C → Calls Try.prog 27 #[ve, .func (.func 28) #[] #[]] u fun e w' => e = .returned (.bool (!wE m.e.C)) ∧ Below u.heap.size u w') := fun h0 u h => by
    have := containsF_any 28 (fun x => !ewB x.1) ve m.e.C u h (ring.chk_ok.1 h0).n64 (enters_of Try.func28 (by kernel_rfl) rfl) (fun x hx v => noEv_any x v (hwe x hx).1 (hwe x hx).2)
    rw [show m.e.C.any (fun x => !ewB x.1) = !wE m.e.C by unfold wE; rw [List.not_all_eq_any_not]] at this
    exact this
  have K4 : Hid (∀ x ∈ m.c.C, ∀ u, Calls Try.prog 26 #[.int .u64 x.1] u fun e w' => e = .returned (.tuple #[cmV (upV x.1), .int .i64 (upC x.1)]) ∧ Below u.heap.size u w') := fun x hx u => unword_any x.1 u (hwc x hx).1 (hwc x hx).2
  have K64 : Hid (ring.chk m.c = 0 → m.c.C.length ≤ 64) := fun h => (ring.chk_ok.1 h).n64
  have HR : Hid (rtB m = ((ring.chk m.c == 0) && ((ring.chk m.e == 0) && (slots.chk m.B && (wC m.c.C && wE m.e.C))))) := rfl
  have HK : Hid (slots.chE m.B = if slots.chk m.B = true then 0 else 4) := rfl
  have HWC : Hid (wC m.c.C = m.c.C.all (fun x => cwB x.1)) := rfl
  generalize rtB m = R at *
  generalize ring.chk m.c = k1 at *
  generalize ring.chk m.e = k2 at *
  generalize slots.chE m.B = k3 at *
  generalize slots.chk m.B = b3 at *
  generalize wC m.c.C = b4 at *
  generalize wE m.e.C = b5 at *
  generalize mvl vc ve m = V at *
  generalize rgl vc m.c = V1 at *
  generalize rgl ve m.e = V2 at *
  generalize ivs (fl m.B) = V3 at *
  obtain ⟨va, vcap, hvf, hcl, hcm⟩ := hc.form
  clear hwc hwe hB
  by_cases h1 : ¬ k1 = 0
  · have e1 : (k1 != 0) = true := by simpa using h1
    have e1' : (k1 == 0) = false := by simpa using h1
    have HQ : Hid (R = false) := by rw [e1'] at HR; exact HR.out
    rw [HQ.out]
    clear h1 e1' HR hvf hcl hcm
    go_enter Try.func10, Try.ntmps10
    repeat' (first | (go_big_may; first | (refine v_box rfl rfl rfl ?_; intro u zb hN; replace hM := hM.new hN (by decide); clear hN) | (refine v_load rfl rfl row_ring rfl hM.at0 E0.out C0.out ?_)) | go_values | go_skip | go_guarded | go_step | go_upon | (simp only [Int.not_lt, Int.not_le] at *; go_simp))
    refine (K1.out _ (hM.read (b := false) (by simp))).mono ?_
    rintro r u1 ⟨rfl, hv⟩
    replace hM := hM.call hv
    clear hv
    repeat' (first | go_values | go_skip | go_guarded | go_step | go_upon | (simp only [Int.not_lt, Int.not_le] at *; go_simp))
    go_ret
    exact ⟨rfl, hM.below⟩
  have h1 : k1 = 0 := Classical.not_not.1 h1
  subst h1
  by_cases h2 : ¬ k2 = 0
  · have e1 : (k2 != 0) = true := by simpa using h2
    have e1' : (k2 == 0) = false := by simpa using h2
    have HQ : Hid (R = false) := by rw [e1'] at HR; exact HR.out
    rw [HQ.out]
    clear h2 e1' HR hvf hcl hcm
    go_enter Try.func10, Try.ntmps10
    repeat' (first | (go_big_may; first | (refine v_box rfl rfl rfl ?_; intro u zb hN; replace hM := hM.new hN (by decide); clear hN) | (refine v_load rfl rfl row_ring rfl hM.at0 E0.out C0.out ?_)) | go_values | go_skip | go_guarded | go_step | go_upon | (simp only [Int.not_lt, Int.not_le] at *; go_simp))
    refine (K1.out _ (hM.read (b := false) (by simp))).mono ?_
    rintro r u1 ⟨rfl, hv⟩
    replace hM := hM.call hv
    clear hv
    repeat' (first | (go_big_may; first | (refine v_load rfl rfl row_ring rfl hM.at0 E6.out C6.out ?_)) | go_values | go_skip | go_guarded | go_step | go_upon | (simp only [Int.not_lt, Int.not_le] at *; go_simp))
    refine (K2.out _ (hM.read (b := false) (by simp))).mono ?_
    rintro r u2 ⟨rfl, hv⟩
    replace hM := hM.call hv
    clear hv
    repeat' (first | go_values | go_skip | go_guarded | go_step | go_upon | (simp only [Int.not_lt, Int.not_le] at *; go_simp))
    go_ret
    exact ⟨rfl, hM.below⟩
  have h2 : k2 = 0 := Classical.not_not.1 h2
  subst h2
  cases b3
  · have HQ : Hid (R = false) := HR.out
    have HK3 : Hid (k3 = 4) := HK.out
    rw [HK3.out] at K3
    rw [HQ.out]
    clear HR HK hvf hcl hcm
    go_enter Try.func10, Try.ntmps10
    repeat' (first | (go_big_may; first | (refine v_box rfl rfl rfl ?_; intro u zb hN; replace hM := hM.new hN (by decide); clear hN) | (refine v_load rfl rfl row_ring rfl hM.at0 E0.out C0.out ?_)) | go_values | go_skip | go_guarded | go_step | go_upon | (simp only [Int.not_lt, Int.not_le] at *; go_simp))
    refine (K1.out _ (hM.read (b := false) (by simp))).mono ?_
    rintro r u1 ⟨rfl, hv⟩
    replace hM := hM.call hv
    clear hv
    repeat' (first | (go_big_may; first | (refine v_load rfl rfl row_ring rfl hM.at0 E6.out C6.out ?_)) | go_values | go_skip | go_guarded | go_step | go_upon | (simp only [Int.not_lt, Int.not_le] at *; go_simp))
    refine (K2.out _ (hM.read (b := false) (by simp))).mono ?_
    rintro r u2 ⟨rfl, hv⟩
    replace hM := hM.call hv
    clear hv
    repeat' (first | (go_big_may; first | (refine v_load rfl rfl row_board rfl hM.at0 E12.out C12.out ?_)) | go_values | go_skip | go_guarded | go_step | go_upon | (simp only [Int.not_lt, Int.not_le] at *; go_simp))
    refine (K3.out _).mono ?_
    rintro r u3 ⟨rfl, hv⟩
    replace hM := hM.call hv
    clear hv
    repeat' (first | go_values | go_skip | go_guarded | go_step | go_upon | (simp only [Int.not_lt, Int.not_le] at *; go_simp))
    go_ret
    exact ⟨rfl, hM.below⟩
  have HK3 : Hid (k3 = 0) := HK.out
  rw [HK3.out] at K3
  clear HK
  have K64' : m.c.C.length ≤ 64 := K64.out (by first | rfl | trivial)
  replace K5 : Hid (∀ u, Rcs u ve m.e.C → Calls Try.prog 27 #[ve, .func (.func 28) #[] #[]] u fun e w' => e = .returned (.bool (!b5)) ∧ Below u.heap.size u w') := fun u h => K5.out (by first | rfl | trivial) u h
  have HQ : Hid (R = (b4 && b5)) := HR.out
  rw [HQ.out]
  subst hvf
  obtain ⟨n, hn⟩ : ∃ n, m.c.C.length = n := ⟨_, rfl⟩
  have HN : Hid (m.c.C.length = n) := hn
  rw [hn] at K64' hcl
  generalize hls : (Value.slice va m.c.C.length vcap) = LV at *
  rw [hn] at hls
  subst hls
  unfold maxLen at hcm
  have HCC : Hid (Rcs w (.slice va n vcap) m.c.C) := hc
  clear HR K64 hc he hn HQ
  go_enter Try.func10, Try.ntmps10
  repeat' (first | (go_big_may; first | (refine v_box rfl rfl rfl ?_; intro u zb hN; replace hM := hM.new hN (by decide); clear hN) | (refine v_load rfl rfl row_ring rfl hM.at0 E0.out C0.out ?_)) | go_values | go_skip | go_guarded | go_step | go_upon | (simp only [Int.not_lt, Int.not_le] at *; go_simp))
  refine (K1.out _ (hM.read (b := false) (by simp))).mono ?_
  rintro r u1 ⟨rfl, hv⟩
  replace hM := hM.call hv
  clear hv
  repeat' (first | (go_big_may; first | (refine v_load rfl rfl row_ring rfl hM.at0 E6.out C6.out ?_)) | go_values | go_skip | go_guarded | go_step | go_upon | (simp only [Int.not_lt, Int.not_le] at *; go_simp))
  refine (K2.out _ (hM.read (b := false) (by simp))).mono ?_
  rintro r u2 ⟨rfl, hv⟩
  replace hM := hM.call hv
  clear hv
  repeat' (first | (go_big_may; first | (refine v_load rfl rfl row_board rfl hM.at0 E12.out C12.out ?_)) | go_values | go_skip | go_guarded | go_step | go_upon | (simp only [Int.not_lt, Int.not_le] at *; go_simp))
  refine (K3.out _).mono ?_
  rintro r u3 ⟨rfl, hv⟩
  replace hM := hM.call hv
  clear hv
  repeat' (first | (go_big_may; first | (refine v_get rfl rfl (.inr rfl) rfl hM.at0 Q0.out ?_)) | go_values | go_skip | go_guarded | go_step | go_upon | (simp only [Int.not_lt, Int.not_le] at *; go_simp))
  have HMM : Hid (Mv w u3 [(zb, 34, V)] [(false, .slice va n vcap, m.c.C), (false, ve, m.e.C)]) := hM
  clear hM
  go_loopw [27] (fun i wr => ∃ k : Nat, k ≤ n ∧ i = .int .i64 (k : Int) ∧ Hid (Below u3.heap.size u3 wr ∧ (m.c.C.drop k).all (fun x => cwB x.1) = b4)) (fun i _ => n - (intOf i).toNat)
  case atStart => exact ⟨0, Nat.zero_le _, rfl, Below.refl _ _, HWC.out.symm⟩
  case round =>
    obtain ⟨k, hk, rfl, HA⟩ := hrel
    have hM := HMM.out.call HA.out.1
    by_cases hlt : ¬ k < n
    · have HB4 : Hid (true = b4) := by
        have := HA.out.2
        rw [List.drop_eq_nil_of_le (by have := HN.out; omega)] at this
        exact this
      have e3 : decide ((k : Int) < (n : Int)) = false := by simp; omega
      have HNN : Hid ((!!b5) = b5) := Bool.not_not b5
      clear HA
      repeat' (first | (go_big_may; first | (refine v_get rfl rfl (.inr rfl) rfl hM.at0 Q6.out ?_)) | go_values | go_skip | go_guarded | go_step | go_upon | (simp only [Int.not_lt, Int.not_le] at *; go_simp))
      refine (K5.out _ (hM.read (b := false) (by simp))).mono ?_
      rintro r u5 ⟨rfl, hv⟩
      replace hM := hM.call hv
      clear hv
      repeat' (first | go_values | go_skip | go_guarded | go_step | go_upon | (simp only [Int.not_lt, Int.not_le] at *; go_simp))
      go_ret
      rw [← HB4.out, Bool.true_and]
      exact ⟨by first | rfl | (rw [HNN.out]; rfl), hM.below⟩
    have hlt : k < n := by omega
    obtain ⟨x, hx⟩ : ∃ x, m.c.C[k]? = some x := ⟨_, List.getElem?_eq_getElem (by have := HN.out; omega)⟩
    have HK4 : Hid (∀ u, Calls Try.prog 26 #[.int .u64 x.1] u fun e w' => e = .returned (.tuple #[agv (ivs [(upV x.1).1, (upV x.1).2.1, (upV x.1).2.2.1, (upV x.1).2.2.2]), .int .i64 (upC x.1)]) ∧ Below u.heap.size u w') := K4.out x (List.mem_of_getElem? hx)
    have HAL : Hid ((cwB x.1 && (m.c.C.drop (k + 1)).all (fun x => cwB x.1)) = b4) := by have := HA.out.2; rw [all_at' hx] at this; exact this
    have HUC : Hid (upC x.1 = if cwB x.1 = true then 0 else 4) := rfl
    have HBr : Hid (Below u3.heap.size u3 wr) := HA.out.1
    obtain ⟨g, off, rfl, hcell⟩ := HCC.out.at k x hx
    obtain ⟨c0, c1, c2⟩ := hcell wr hM.below
    obtain ⟨xw, xb, xl⟩ := x
    simp only at c0 c1 c2 HK4 HAL HUC
    have HUV : Hid (Vs (ivs [(upV xw).1, (upV xw).2.1, (upV xw).2.2.1, (upV xw).2.2.2]) 4) := ivs_vs rfl
    have HU0 : Hid ((ivs [0, 0, 0, 0]).length = 4) := rfl
    generalize ivs [(upV xw).1, (upV xw).2.1, (upV xw).2.2.1, (upV xw).2.2.2] = UV at *
    generalize upC xw = uc at *
    obtain ⟨w1', uf, hu1, huf, hY1, hYf, hbf⟩ := laid3 wr 78 (.int .u64 0) (.int .i64 0) (.bool false) (.int .u64 xw) (.int .i64 xb) (.bool xl)
    obtain ⟨⟨hy, y0, y1, y2⟩, g0, g1, g2⟩ := box3 hY1
    obtain ⟨⟨hz, z0, z1, z2⟩, _⟩ := box3 hYf
    have HBf : Hid (Below u3.heap.size u3 uf) := bsq HBr.out hbf
    have HMB : Hid (Below w.heap.size w u3) := HMM.out.below
    have e3 : decide ((k : Int) < (n : Int)) = true := by simp; omega
    clear hcell hx hbf hY1 hYf HA hM
    go_upto_region 6 with (fail)
    try rw [huf]
    clear huf hu1 y0 y1 y2 g0 g1 g2 c0 c1 c2
    go_wp2_with fail
    refine (HK4.out _).mono ?_
    rintro r u4 ⟨rfl, hv⟩
    have HB4' : Hid (Below u3.heap.size u3 u4) := bsq HBf.out hv
    have hM := Mv.nil u4
    clear hv z0 z1 z2
    cases hcw : cwB xw
    · have HQ4 : Hid (false = b4) := by have := HAL.out; rw [hcw] at this; exact this
      have huc : uc = 4 := by have := HUC.out; rw [hcw] at this; exact this
      subst huc
      clear HAL HUC hcw
      repeat' (first | (go_big_may; first | (refine v_alloc rfl zer_cmd rfl ?_; intro u xd hN; replace hM := hM.new hN (by decide); clear hN) | (refine v_fill rfl rfl row_cmd rfl rfl hM.at0 HUV.out HU0.out ?_; intro u hv hc; replace hM := hM.put0 hc hv; clear hv hc)) | go_values | go_skip | go_guarded | go_step | go_upon | (simp only [Int.not_lt, Int.not_le] at *; go_simp))
      go_ret
      rw [← HQ4.out]
      exact ⟨rfl, bsq HMB.out (bsq HB4'.out hM.below)⟩
    · have HQ4 : Hid ((m.c.C.drop (k + 1)).all (fun x => cwB x.1) = b4) := by have := HAL.out; rw [hcw, Bool.true_and] at this; exact this
      have huc : uc = 0 := by have := HUC.out; rw [hcw] at this; exact this
      subst huc
      clear HAL HUC hcw
      repeat' (first | (go_big_may; first | (refine v_alloc rfl zer_cmd rfl ?_; intro u xd hN; replace hM := hM.new hN (by decide); clear hN) | (refine v_fill rfl rfl row_cmd rfl rfl hM.at0 HUV.out HU0.out ?_; intro u hv hc; replace hM := hM.put0 hc hv; clear hv hc)) | go_values | go_skip | go_guarded | go_step | go_upon | (simp only [Int.not_lt, Int.not_le] at *; go_simp))
      go_roundw
      case rel => exact ⟨k + 1, by omega, by go_num, bsq HB4'.out hM.below, HQ4.out⟩
      case measure => simp [intOf]; omega
end Go.Proofs.Ythjmcopknkemnab.host
