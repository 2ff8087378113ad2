/- HostRight: whatever is done with a right machine, it is right; what was refused left all as it was. -/
import Derived.Test.YthjmcopknkemnabHstT
import Derived.Test.YthjmcopknkemnabHstL
import Derived.Test.YthjmcopknkemnabHstO
namespace Go.Proofs.Ythjmcopknkemnab.hostRight
open Go Go.RowKit
open Go.Proofs.Ythjmcopknkemnab Go.Proofs.Ythjmcopknkemnab.host
open Go.Proofs.Ythjmcopknkemnab.slots (Row row_cmd Chg ag bsq InB Wf)
open Go.Proofs.Ythjmcopknkemnab.ring (Rcs)
set_option linter.unusedVariables false
set_option linter.unusedSimpArgs false
set_option maxRecDepth 100000

theorem wk_zero : ∀ (n : Nat) (m : Mc), wkN n m = 0 → wkV n m = m
  | 0, m, _ => rfl
  | n + 1, m, h => by
    rw [wn_at] at h
    rw [wk_at]
    split at h
    · omega
    · rename_i q
      rw [if_neg q]
theorem sb_refused {m : Mc} {x : Cm} (h : sbC m x ≠ 0) : sbV m x = m := by
  unfold sbC at h
  unfold sbV
  split
  · rfl
  · rename_i h1
    rw [if_neg h1] at h
    split
    · rfl
    · rename_i h2
      rw [if_neg h2] at h
      split
      · rename_i h3
        rw [if_pos h3] at h
        exact absurd rfl h
      · rfl
theorem wr_refused {m : Mc} {n : Int} (h : wrN m n = 0) : wrV m n = m := by
  unfold wrN at h
  unfold wrV
  split
  · rename_i q
    rw [if_pos q] at h
    exact wk_zero _ _ (by omega)
  · rfl
theorem rp_refused {m : Mc} (h : rpB m = false) : rpV m = m := by unfold rpV; rw [h]; rfl
/-- what is told is in order, too -/
structure Od (m : Mc) : Prop where
  B : Wf m.B
  wc : Ws m.c.C
  we : Ws m.e.C
theorem Od.sb {m : Mc} (h : Od m) (x : Cm) : Od (sbV m x) := by
  unfold sbV
  split
  · exact h
  · split
    · exact h
    · split
      · rename_i q1 q2 q3
        have hp := pkW_in (pk_iff.1 (by simpa using q2 : pkB x = true))
        exact ⟨h.B, putL_ws h.wc hp.1 (by omega), h.we⟩
      · exact h
theorem Od.wr {m : Mc} (h : Od m) (n : Int) : Od (wrV m n) := by
  unfold wrV
  split
  · rename_i q
    unfold wkB at q
    rw [Bool.and_eq_true] at q
    have := Fit.wk n.toNat ⟨q.1, h.B, h.wc, h.we⟩
    exact ⟨this.B, this.wc, this.we⟩
  · exact h
theorem Od.rp {m : Mc} (h : Od m) : Od (rpV m) := by
  unfold rpV
  split
  · exact ⟨h.B, h.wc, h.we⟩
  · exact h
theorem wr_right {m : Mc} (h : rtB m = true) (hB : Wf m.B) (n : Int) : rtB (wrV m n) = true := by
  unfold wrV
  split
  · exact rt_iff.2 (wk_both _ (rt_iff.1 h) hB).1
  · exact h
set_option maxHeartbeats 8000000 in
theorem way0 (vc ve : Value) (m : Mc) (x : Cm) (num : Int) (w : World) (hi : In w vc ve m) (hs : sbC m x ≠ 0) (hk : wrN m num = 0) (hr : rpB m = false) (ht : rtB m = false) : Calls Try.prog 4 #[agv (mvl vc ve m), cmV x, .int .i64 num] w fun r w' => r = .returned (.bool true) ∧ Below w.heap.size w w' := by
  have hM : Mv w w [] [(false, vc, m.c.C), (false, ve, m.e.C)] := ((Mv.nil w).old hi.e).old hi.c
  have HOD : Hid (Od m) := ⟨hi.B, hi.wc, hi.we⟩
  have HV : Hid (Vs (mvl vc ve m) 606) := hi.vs
  have HL0 : Hid (0 + 606 ≤ (mvl vc ve m).length) := by show _ ≤ _; rw [hi.vs.len]; exact Nat.le_refl _
  have HA0 : Hid (cv (mvl vc ve m) 0 606 = mvl vc ve m) := cv_all hi.vs.len
  have HZ : Hid (zl.length = 606) := zl_vs.len
  have HZE : Hid ((ivs [0, 0, 0]).length = 3) := rfl
  have HSB : Hid (∀ u, Below w.heap.size w u → Calls Try.prog 8 #[agv (mvl vc ve m), cmV x] u fun e w' => ∃ vc' ve', e = .returned (.tuple #[agv (mvl vc' ve' (sbV m x)), .int .i64 (sbC m x)]) ∧ Tl u vc' ve' (sbV m x) w') := fun u hb => submit_any vc ve m x u (hi.below hb)
  have HWK : Hid (∀ u, Below w.heap.size w u → Calls Try.prog 6 #[agv (mvl vc ve m), .int .i64 num] u fun e w' => ∃ vc' ve', e = .returned (.tuple #[agv (mvl vc' ve' (wrV m num)), .int .i64 (wrN m num)]) ∧ Tl u vc' ve' (wrV m num) w') := fun u hb => work_any vc ve m num u (hi.below hb)
  have HRP : Hid (∀ u, Below w.heap.size w u → Calls Try.prog 9 #[agv (mvl vc ve m)] u fun e w' => ∃ vc' ve', e = .returned (.tuple #[agv (mvl vc' ve' (rpV m)), agv (ivs [(rpX m).1, (rpX m).2.1, (rpX m).2.2]), .bool false]) ∧ Tl u vc' ve' (rpV m) w') := fun u hb => by
    have := reap_any vc ve m u (hi.below hb)
    rw [hr] at this
    exact this
  have HLV : Hid (∀ u, Calls Try.prog 5 #[] u fun e w' => e = .returned (.bool true) ∧ Below u.heap.size u w') := lives_any
  have HSM : Hid (∀ v1 v2 u, Rcs u v1 m.c.C → Rcs u v2 m.e.C → Rcs u vc m.c.C → Rcs u ve m.e.C → Calls Try.prog 7 #[agv (mvl v1 v2 m), agv (mvl vc ve m)] u fun e w' => e = .returned (.bool true) ∧ Below u.heap.size u w') := fun v1 v2 u h1 h2 h3 h4 => same_mc v1 v2 vc ve m u h1 h2 h3 h4 hi.B
  have HMA : Hid (∀ (M : Mc) v1 v2 u, Od M → Rcs u v1 M.c.C → Rcs u v2 M.e.C → Calls Try.prog 10 #[agv (mvl v1 v2 M)] u fun e w' => e = .returned (.bool (rtB M)) ∧ Below u.heap.size u w') := fun M v1 v2 u hO h1 h2 => machine_any v1 v2 M u h1 h2 hO.B hO.wc hO.we
  have HLX : Hid (0 + 4 ≤ (ivs [x.1, x.2.1, x.2.2.1, x.2.2.2]).length) := Nat.le_refl _
  have HAX : Hid (cv (ivs [x.1, x.2.1, x.2.2.1, x.2.2.2]) 0 4 = ivs [x.1, x.2.1, x.2.2.1, x.2.2.2]) := rfl
  have O1 : Hid (Od (sbV m x)) := HOD.out.sb x
  have O2 : Hid (Od (wrV m num)) := HOD.out.wr num
  have O3 : Hid (Od (rpV m)) := HOD.out.rp
  have HEV : Hid (Vs (ivs [(rpX m).1, (rpX m).2.1, (rpX m).2.2]) 3) := ivs_vs rfl
  rw [sb_refused hs] at HSB O1
  have e1 : (sbC m x != 0) = true := by simpa using hs
  generalize sbC m x = sc at *
  rw [hk, wr_refused hk] at HWK
  rw [wr_refused hk] at O2
  rw [rp_refused hr] at HRP O3
  have HTM : Hid (rtB m = false) := ht
  unfold cmV at HSB ⊢
  generalize ivs [x.1, x.2.1, x.2.2.1, x.2.2.2] = X at *
  generalize ivs [(rpX m).1, (rpX m).2.1, (rpX m).2.2] = EV at *
  clear hi hr ht hs hk
  go_enter Try.func4, Try.ntmps4
  repeat' (first | (go_big_may; first | (refine v_box rfl rfl rfl ?_; intro u xm hN; replace hM := hM.new hN (by decide); clear hN) | (refine v_box rfl rfl rfl ?_; intro u xc hN; replace hM := hM.new hN (by decide); clear hN) | (refine v_load rfl rfl row_mach rfl hM.at1 HL0.out HA0.out ?_) | (refine v_load rfl rfl row_cmd rfl hM.at0 HLX.out HAX.out ?_)) | go_values | go_skip | go_guarded | go_step | go_upon | (simp only [Int.not_lt, Int.not_le] at *; go_simp))
  refine (HSB.out _ hM.below).mono ?_
  rintro r u1 ⟨a1, a2, rfl, ht⟩
  have G1 : Hid (Vs (mvl a1 a2 m) 606) := mvl_vs (rcs_one ht.c.rcs) (rcs_one ht.e.rcs) O1.out.B
  have L1 : Hid (0 + 606 ≤ (mvl a1 a2 m).length) := by show _ ≤ _; rw [G1.out.len]; exact Nat.le_refl _
  have A1 : Hid (cv (mvl a1 a2 m) 0 606 = mvl a1 a2 m) := cv_all G1.out.len
  replace hM := (hM.tel ht.c ht.below).add (b := true) (ht.e.mono hM.below.size)
  clear ht
  repeat' (first | (go_big_may; first | (refine v_alloc rfl zer_mach rfl ?_; intro u xa hN; replace hM := hM.new hN (by decide); clear hN) | (refine v_fill rfl rfl row_mach rfl rfl hM.at0 G1.out HZ.out ?_; intro u hv hc; replace hM := hM.put0 hc hv; clear hv hc)) | go_values | go_skip | go_guarded | go_step | go_upon | (simp only [Int.not_lt, Int.not_le] at *; go_simp))
  refine (HLV.out _).mono ?_
  rintro r u2 ⟨rfl, hv⟩
  replace hM := hM.call hv
  clear hv
  repeat' (first | (go_big_may; first | (refine v_load rfl rfl row_mach rfl hM.at0 L1.out A1.out ?_) | (refine v_load rfl rfl row_mach rfl hM.at2 HL0.out HA0.out ?_)) | go_values | go_skip | go_guarded | go_step | go_upon | (simp only [Int.not_lt, Int.not_le] at *; go_simp))
  refine (HSM.out a1 a2 _ (hM.read (b := true) (by simp)) (hM.read (b := true) (by simp)) (hM.read (b := false) (by simp)) (hM.read (b := false) (by simp))).mono ?_
  rintro r u3 ⟨rfl, hv⟩
  replace hM := hM.call hv
  clear hv
  repeat' (first | (go_big_may; first | (refine v_load rfl rfl row_mach rfl hM.at2 HL0.out HA0.out ?_)) | go_values | go_skip | go_guarded | go_step | go_upon | (simp only [Int.not_lt, Int.not_le] at *; go_simp))
  refine (HWK.out _ hM.below).mono ?_
  rintro r u4 ⟨b1, b2, rfl, ht⟩
  have G2 : Hid (Vs (mvl b1 b2 m) 606) := mvl_vs (rcs_one ht.c.rcs) (rcs_one ht.e.rcs) O2.out.B
  have L2 : Hid (0 + 606 ≤ (mvl b1 b2 m).length) := by show _ ≤ _; rw [G2.out.len]; exact Nat.le_refl _
  have A2 : Hid (cv (mvl b1 b2 m) 0 606 = mvl b1 b2 m) := cv_all G2.out.len
  replace hM := (hM.tel ht.c ht.below).add (b := true) (ht.e.mono hM.below.size)
  clear ht
  repeat' (first | (go_big_may; first | (refine v_alloc rfl zer_mach rfl ?_; intro u xb hN; replace hM := hM.new hN (by decide); clear hN) | (refine v_fill rfl rfl row_mach rfl rfl hM.at0 G2.out HZ.out ?_; intro u hv hc; replace hM := hM.put0 hc hv; clear hv hc) | (refine v_load rfl rfl row_mach rfl hM.at3 HL0.out HA0.out ?_)) | go_values | go_skip | go_guarded | go_step | go_upon | (simp only [Int.not_lt, Int.not_le] at *; go_simp))
  refine (HRP.out _ hM.below).mono ?_
  rintro r u5 ⟨c1, c2, rfl, ht⟩
  have G3 : Hid (Vs (mvl c1 c2 m) 606) := mvl_vs (rcs_one ht.c.rcs) (rcs_one ht.e.rcs) O3.out.B
  have L3 : Hid (0 + 606 ≤ (mvl c1 c2 m).length) := by show _ ≤ _; rw [G3.out.len]; exact Nat.le_refl _
  have A3 : Hid (cv (mvl c1 c2 m) 0 606 = mvl c1 c2 m) := cv_all G3.out.len
  replace hM := (hM.tel ht.c ht.below).add (b := true) (ht.e.mono hM.below.size)
  clear ht
  repeat' (first | (go_big_may; first | (refine v_alloc rfl zer_mach rfl ?_; intro u xd hN; replace hM := hM.new hN (by decide); clear hN) | (refine v_alloc rfl zer_event rfl ?_; intro u xe hN; replace hM := hM.new hN (by decide); clear hN) | (refine v_fill rfl rfl row_mach rfl rfl hM.at1 G3.out HZ.out ?_; intro u hv hc; replace hM := hM.put1 hc hv; clear hv hc) | (refine v_fill rfl rfl row_event rfl rfl hM.at0 HEV.out HZE.out ?_; intro u hv hc; replace hM := hM.put0 hc hv; clear hv hc) | (refine v_load rfl rfl row_mach rfl hM.at2 L2.out A2.out ?_) | (refine v_load rfl rfl row_mach rfl hM.at5 HL0.out HA0.out ?_)) | go_values | go_skip | go_guarded | go_step | go_upon | (simp only [Int.not_lt, Int.not_le] at *; go_simp))
  refine (HSM.out b1 b2 _ (hM.read (b := true) (by simp)) (hM.read (b := true) (by simp)) (hM.read (b := false) (by simp)) (hM.read (b := false) (by simp))).mono ?_
  rintro r u6 ⟨rfl, hv⟩
  replace hM := hM.call hv
  clear hv
  repeat' (first | (go_big_may; first | (refine v_load rfl rfl row_mach rfl hM.at1 L3.out A3.out ?_) | (refine v_load rfl rfl row_mach rfl hM.at5 HL0.out HA0.out ?_)) | go_values | go_skip | go_guarded | go_step | go_upon | (simp only [Int.not_lt, Int.not_le] at *; go_simp))
  refine (HSM.out c1 c2 _ (hM.read (b := true) (by simp)) (hM.read (b := true) (by simp)) (hM.read (b := false) (by simp)) (hM.read (b := false) (by simp))).mono ?_
  rintro r u7 ⟨rfl, hv⟩
  replace hM := hM.call hv
  clear hv
  repeat' (first | (go_big_may; first | (refine v_load rfl rfl row_mach rfl hM.at5 HL0.out HA0.out ?_)) | go_values | go_skip | go_guarded | go_step | go_upon | (simp only [Int.not_lt, Int.not_le] at *; go_simp))
  refine (HMA.out m vc ve _ HOD.out (hM.read (b := false) (by simp)) (hM.read (b := false) (by simp))).mono ?_
  rintro r u8 ⟨rfl, hv⟩
  replace hM := hM.call hv
  clear hv
  rw [HTM.out]
  repeat' (first | go_values | go_skip | go_guarded | go_step | go_upon | (simp only [Int.not_lt, Int.not_le] at *; go_simp))
  go_ret
  exact ⟨rfl, hM.below⟩
set_option maxHeartbeats 8000000 in
theorem way1 (vc ve : Value) (m : Mc) (x : Cm) (num : Int) (w : World) (hi : In w vc ve m) (hs : sbC m x = 0) (hk : wrN m num = 0) (hr : rpB m = false) (ht : rtB m = true) : Calls Try.prog 4 #[agv (mvl vc ve m), cmV x, .int .i64 num] w fun r w' => r = .returned (.bool true) ∧ Below w.heap.size w w' := by
  have hM : Mv w w [] [(false, vc, m.c.C), (false, ve, m.e.C)] := ((Mv.nil w).old hi.e).old hi.c
  have HOD : Hid (Od m) := ⟨hi.B, hi.wc, hi.we⟩
  have HV : Hid (Vs (mvl vc ve m) 606) := hi.vs
  have HL0 : Hid (0 + 606 ≤ (mvl vc ve m).length) := by show _ ≤ _; rw [hi.vs.len]; exact Nat.le_refl _
  have HA0 : Hid (cv (mvl vc ve m) 0 606 = mvl vc ve m) := cv_all hi.vs.len
  have HZ : Hid (zl.length = 606) := zl_vs.len
  have HZE : Hid ((ivs [0, 0, 0]).length = 3) := rfl
  have HSB : Hid (∀ u, Below w.heap.size w u → Calls Try.prog 8 #[agv (mvl vc ve m), cmV x] u fun e w' => ∃ vc' ve', e = .returned (.tuple #[agv (mvl vc' ve' (sbV m x)), .int .i64 (sbC m x)]) ∧ Tl u vc' ve' (sbV m x) w') := fun u hb => submit_any vc ve m x u (hi.below hb)
  have HWK : Hid (∀ u, Below w.heap.size w u → Calls Try.prog 6 #[agv (mvl vc ve m), .int .i64 num] u fun e w' => ∃ vc' ve', e = .returned (.tuple #[agv (mvl vc' ve' (wrV m num)), .int .i64 (wrN m num)]) ∧ Tl u vc' ve' (wrV m num) w') := fun u hb => work_any vc ve m num u (hi.below hb)
  have HRP : Hid (∀ u, Below w.heap.size w u → Calls Try.prog 9 #[agv (mvl vc ve m)] u fun e w' => ∃ vc' ve', e = .returned (.tuple #[agv (mvl vc' ve' (rpV m)), agv (ivs [(rpX m).1, (rpX m).2.1, (rpX m).2.2]), .bool false]) ∧ Tl u vc' ve' (rpV m) w') := fun u hb => by
    have := reap_any vc ve m u (hi.below hb)
    rw [hr] at this
    exact this
  have HLV : Hid (∀ u, Calls Try.prog 5 #[] u fun e w' => e = .returned (.bool true) ∧ Below u.heap.size u w') := lives_any
  have HSM : Hid (∀ v1 v2 u, Rcs u v1 m.c.C → Rcs u v2 m.e.C → Rcs u vc m.c.C → Rcs u ve m.e.C → Calls Try.prog 7 #[agv (mvl v1 v2 m), agv (mvl vc ve m)] u fun e w' => e = .returned (.bool true) ∧ Below u.heap.size u w') := fun v1 v2 u h1 h2 h3 h4 => same_mc v1 v2 vc ve m u h1 h2 h3 h4 hi.B
  have HMA : Hid (∀ (M : Mc) v1 v2 u, Od M → Rcs u v1 M.c.C → Rcs u v2 M.e.C → Calls Try.prog 10 #[agv (mvl v1 v2 M)] u fun e w' => e = .returned (.bool (rtB M)) ∧ Below u.heap.size u w') := fun M v1 v2 u hO h1 h2 => machine_any v1 v2 M u h1 h2 hO.B hO.wc hO.we
  have HLX : Hid (0 + 4 ≤ (ivs [x.1, x.2.1, x.2.2.1, x.2.2.2]).length) := Nat.le_refl _
  have HAX : Hid (cv (ivs [x.1, x.2.1, x.2.2.1, x.2.2.2]) 0 4 = ivs [x.1, x.2.1, x.2.2.1, x.2.2.2]) := rfl
  have O1 : Hid (Od (sbV m x)) := HOD.out.sb x
  have O2 : Hid (Od (wrV m num)) := HOD.out.wr num
  have O3 : Hid (Od (rpV m)) := HOD.out.rp
  have HEV : Hid (Vs (ivs [(rpX m).1, (rpX m).2.1, (rpX m).2.2]) 3) := ivs_vs rfl
  have R1 : Hid (rtB (sbV m x) = true) := rt_iff.2 ((rt_iff.1 ht).sb x)
  have R2 : Hid (rtB (wrV m num) = true) := wr_right ht hi.B num
  have R3 : Hid (rtB (rpV m) = true) := rt_iff.2 (rt_iff.1 ht).rp
  rw [hs] at HSB
  rw [hk, wr_refused hk] at HWK
  rw [wr_refused hk] at O2
  rw [rp_refused hr] at HRP O3
  have HTM : Hid (rtB m = true) := ht
  unfold cmV at HSB ⊢
  generalize ivs [x.1, x.2.1, x.2.2.1, x.2.2.2] = X at *
  generalize ivs [(rpX m).1, (rpX m).2.1, (rpX m).2.2] = EV at *
  clear hi hr ht hs hk
  go_enter Try.func4, Try.ntmps4
  repeat' (first | (go_big_may; first | (refine v_box rfl rfl rfl ?_; intro u xm hN; replace hM := hM.new hN (by decide); clear hN) | (refine v_box rfl rfl rfl ?_; intro u xc hN; replace hM := hM.new hN (by decide); clear hN) | (refine v_load rfl rfl row_mach rfl hM.at1 HL0.out HA0.out ?_) | (refine v_load rfl rfl row_cmd rfl hM.at0 HLX.out HAX.out ?_)) | go_values | go_skip | go_guarded | go_step | go_upon | (simp only [Int.not_lt, Int.not_le] at *; go_simp))
  refine (HSB.out _ hM.below).mono ?_
  rintro r u1 ⟨a1, a2, rfl, ht⟩
  have G1 : Hid (Vs (mvl a1 a2 (sbV m x)) 606) := mvl_vs (rcs_one ht.c.rcs) (rcs_one ht.e.rcs) O1.out.B
  have L1 : Hid (0 + 606 ≤ (mvl a1 a2 (sbV m x)).length) := by show _ ≤ _; rw [G1.out.len]; exact Nat.le_refl _
  have A1 : Hid (cv (mvl a1 a2 (sbV m x)) 0 606 = mvl a1 a2 (sbV m x)) := cv_all G1.out.len
  replace hM := (hM.tel ht.c ht.below).add (b := true) (ht.e.mono hM.below.size)
  clear ht
  repeat' (first | (go_big_may; first | (refine v_alloc rfl zer_mach rfl ?_; intro u xa hN; replace hM := hM.new hN (by decide); clear hN) | (refine v_fill rfl rfl row_mach rfl rfl hM.at0 G1.out HZ.out ?_; intro u hv hc; replace hM := hM.put0 hc hv; clear hv hc)) | go_values | go_skip | go_guarded | go_step | go_upon | (simp only [Int.not_lt, Int.not_le] at *; go_simp))
  refine (HLV.out _).mono ?_
  rintro r u2 ⟨rfl, hv⟩
  replace hM := hM.call hv
  clear hv
  repeat' (first | (go_big_may; first | (refine v_load rfl rfl row_mach rfl hM.at2 HL0.out HA0.out ?_)) | go_values | go_skip | go_guarded | go_step | go_upon | (simp only [Int.not_lt, Int.not_le] at *; go_simp))
  refine (HWK.out _ hM.below).mono ?_
  rintro r u4 ⟨b1, b2, rfl, ht⟩
  have G2 : Hid (Vs (mvl b1 b2 m) 606) := mvl_vs (rcs_one ht.c.rcs) (rcs_one ht.e.rcs) O2.out.B
  have L2 : Hid (0 + 606 ≤ (mvl b1 b2 m).length) := by show _ ≤ _; rw [G2.out.len]; exact Nat.le_refl _
  have A2 : Hid (cv (mvl b1 b2 m) 0 606 = mvl b1 b2 m) := cv_all G2.out.len
  replace hM := (hM.tel ht.c ht.below).add (b := true) (ht.e.mono hM.below.size)
  clear ht
  repeat' (first | (go_big_may; first | (refine v_alloc rfl zer_mach rfl ?_; intro u xb hN; replace hM := hM.new hN (by decide); clear hN) | (refine v_fill rfl rfl row_mach rfl rfl hM.at0 G2.out HZ.out ?_; intro u hv hc; replace hM := hM.put0 hc hv; clear hv hc) | (refine v_load rfl rfl row_mach rfl hM.at3 HL0.out HA0.out ?_)) | go_values | go_skip | go_guarded | go_step | go_upon | (simp only [Int.not_lt, Int.not_le] at *; go_simp))
  refine (HRP.out _ hM.below).mono ?_
  rintro r u5 ⟨c1, c2, rfl, ht⟩
  have G3 : Hid (Vs (mvl c1 c2 m) 606) := mvl_vs (rcs_one ht.c.rcs) (rcs_one ht.e.rcs) O3.out.B
  have L3 : Hid (0 + 606 ≤ (mvl c1 c2 m).length) := by show _ ≤ _; rw [G3.out.len]; exact Nat.le_refl _
  have A3 : Hid (cv (mvl c1 c2 m) 0 606 = mvl c1 c2 m) := cv_all G3.out.len
  replace hM := (hM.tel ht.c ht.below).add (b := true) (ht.e.mono hM.below.size)
  clear ht
  repeat' (first | (go_big_may; first | (refine v_alloc rfl zer_mach rfl ?_; intro u xd hN; replace hM := hM.new hN (by decide); clear hN) | (refine v_alloc rfl zer_event rfl ?_; intro u xe hN; replace hM := hM.new hN (by decide); clear hN) | (refine v_fill rfl rfl row_mach rfl rfl hM.at1 G3.out HZ.out ?_; intro u hv hc; replace hM := hM.put1 hc hv; clear hv hc) | (refine v_fill rfl rfl row_event rfl rfl hM.at0 HEV.out HZE.out ?_; intro u hv hc; replace hM := hM.put0 hc hv; clear hv hc) | (refine v_load rfl rfl row_mach rfl hM.at2 L2.out A2.out ?_) | (refine v_load rfl rfl row_mach rfl hM.at5 HL0.out HA0.out ?_)) | go_values | go_skip | go_guarded | go_step | go_upon | (simp only [Int.not_lt, Int.not_le] at *; go_simp))
  refine (HSM.out b1 b2 _ (hM.read (b := true) (by simp)) (hM.read (b := true) (by simp)) (hM.read (b := false) (by simp)) (hM.read (b := false) (by simp))).mono ?_
  rintro r u6 ⟨rfl, hv⟩
  replace hM := hM.call hv
  clear hv
  repeat' (first | (go_big_may; first | (refine v_load rfl rfl row_mach rfl hM.at1 L3.out A3.out ?_) | (refine v_load rfl rfl row_mach rfl hM.at5 HL0.out HA0.out ?_)) | go_values | go_skip | go_guarded | go_step | go_upon | (simp only [Int.not_lt, Int.not_le] at *; go_simp))
  refine (HSM.out c1 c2 _ (hM.read (b := true) (by simp)) (hM.read (b := true) (by simp)) (hM.read (b := false) (by simp)) (hM.read (b := false) (by simp))).mono ?_
  rintro r u7 ⟨rfl, hv⟩
  replace hM := hM.call hv
  clear hv
  repeat' (first | (go_big_may; first | (refine v_load rfl rfl row_mach rfl hM.at5 HL0.out HA0.out ?_)) | go_values | go_skip | go_guarded | go_step | go_upon | (simp only [Int.not_lt, Int.not_le] at *; go_simp))
  refine (HMA.out m vc ve _ HOD.out (hM.read (b := false) (by simp)) (hM.read (b := false) (by simp))).mono ?_
  rintro r u8 ⟨rfl, hv⟩
  replace hM := hM.call hv
  clear hv
  rw [HTM.out]
  repeat' (first | (go_big_may; first | (refine v_load rfl rfl row_mach rfl hM.at3 L1.out A1.out ?_)) | go_values | go_skip | go_guarded | go_step | go_upon | (simp only [Int.not_lt, Int.not_le] at *; go_simp))
  refine (HMA.out (sbV m x) a1 a2 _ O1.out (hM.read (b := true) (by simp)) (hM.read (b := true) (by simp))).mono ?_
  rintro r u9 ⟨rfl, hv⟩
  replace hM := hM.call hv
  clear hv
  rw [R1.out]
  repeat' (first | (go_big_may; first | (refine v_load rfl rfl row_mach rfl hM.at2 L2.out A2.out ?_)) | go_values | go_skip | go_guarded | go_step | go_upon | (simp only [Int.not_lt, Int.not_le] at *; go_simp))
  refine (HMA.out m b1 b2 _ O2.out (hM.read (b := true) (by simp)) (hM.read (b := true) (by simp))).mono ?_
  rintro r u10 ⟨rfl, hv⟩
  replace hM := hM.call hv
  clear hv
  rw [HTM.out]
  repeat' (first | (go_big_may; first | (refine v_load rfl rfl row_mach rfl hM.at1 L3.out A3.out ?_)) | go_values | go_skip | go_guarded | go_step | go_upon | (simp only [Int.not_lt, Int.not_le] at *; go_simp))
  refine (HMA.out m c1 c2 _ O3.out (hM.read (b := true) (by simp)) (hM.read (b := true) (by simp))).mono ?_
  rintro r u11 ⟨rfl, hv⟩
  replace hM := hM.call hv
  clear hv
  rw [HTM.out]
  repeat' (first | go_values | go_skip | go_guarded | go_step | go_upon | (simp only [Int.not_lt, Int.not_le] at *; go_simp))
  go_ret
  exact ⟨rfl, hM.below⟩
set_option maxHeartbeats 8000000 in
theorem way2 (vc ve : Value) (m : Mc) (x : Cm) (num : Int) (w : World) (hi : In w vc ve m) (hs : sbC m x = 0) (hk : wrN m num = 0) (hr : rpB m = true) (ht : rtB m = true) : Calls Try.prog 4 #[agv (mvl vc ve m), cmV x, .int .i64 num] w fun r w' => r = .returned (.bool true) ∧ Below w.heap.size w w' := by
  have hM : Mv w w [] [(false, vc, m.c.C), (false, ve, m.e.C)] := ((Mv.nil w).old hi.e).old hi.c
  have HOD : Hid (Od m) := ⟨hi.B, hi.wc, hi.we⟩
  have HV : Hid (Vs (mvl vc ve m) 606) := hi.vs
  have HL0 : Hid (0 + 606 ≤ (mvl vc ve m).length) := by show _ ≤ _; rw [hi.vs.len]; exact Nat.le_refl _
  have HA0 : Hid (cv (mvl vc ve m) 0 606 = mvl vc ve m) := cv_all hi.vs.len
  have HZ : Hid (zl.length = 606) := zl_vs.len
  have HZE : Hid ((ivs [0, 0, 0]).length = 3) := rfl
  have HSB : Hid (∀ u, Below w.heap.size w u → Calls Try.prog 8 #[agv (mvl vc ve m), cmV x] u fun e w' => ∃ vc' ve', e = .returned (.tuple #[agv (mvl vc' ve' (sbV m x)), .int .i64 (sbC m x)]) ∧ Tl u vc' ve' (sbV m x) w') := fun u hb => submit_any vc ve m x u (hi.below hb)
  have HWK : Hid (∀ u, Below w.heap.size w u → Calls Try.prog 6 #[agv (mvl vc ve m), .int .i64 num] u fun e w' => ∃ vc' ve', e = .returned (.tuple #[agv (mvl vc' ve' (wrV m num)), .int .i64 (wrN m num)]) ∧ Tl u vc' ve' (wrV m num) w') := fun u hb => work_any vc ve m num u (hi.below hb)
  have HRP : Hid (∀ u, Below w.heap.size w u → Calls Try.prog 9 #[agv (mvl vc ve m)] u fun e w' => ∃ vc' ve', e = .returned (.tuple #[agv (mvl vc' ve' (rpV m)), agv (ivs [(rpX m).1, (rpX m).2.1, (rpX m).2.2]), .bool true]) ∧ Tl u vc' ve' (rpV m) w') := fun u hb => by
    have := reap_any vc ve m u (hi.below hb)
    rw [hr] at this
    exact this
  have HLV : Hid (∀ u, Calls Try.prog 5 #[] u fun e w' => e = .returned (.bool true) ∧ Below u.heap.size u w') := lives_any
  have HSM : Hid (∀ v1 v2 u, Rcs u v1 m.c.C → Rcs u v2 m.e.C → Rcs u vc m.c.C → Rcs u ve m.e.C → Calls Try.prog 7 #[agv (mvl v1 v2 m), agv (mvl vc ve m)] u fun e w' => e = .returned (.bool true) ∧ Below u.heap.size u w') := fun v1 v2 u h1 h2 h3 h4 => same_mc v1 v2 vc ve m u h1 h2 h3 h4 hi.B
  have HMA : Hid (∀ (M : Mc) v1 v2 u, Od M → Rcs u v1 M.c.C → Rcs u v2 M.e.C → Calls Try.prog 10 #[agv (mvl v1 v2 M)] u fun e w' => e = .returned (.bool (rtB M)) ∧ Below u.heap.size u w') := fun M v1 v2 u hO h1 h2 => machine_any v1 v2 M u h1 h2 hO.B hO.wc hO.we
  have HLX : Hid (0 + 4 ≤ (ivs [x.1, x.2.1, x.2.2.1, x.2.2.2]).length) := Nat.le_refl _
  have HAX : Hid (cv (ivs [x.1, x.2.1, x.2.2.1, x.2.2.2]) 0 4 = ivs [x.1, x.2.1, x.2.2.1, x.2.2.2]) := rfl
  have O1 : Hid (Od (sbV m x)) := HOD.out.sb x
  have O2 : Hid (Od (wrV m num)) := HOD.out.wr num
  have O3 : Hid (Od (rpV m)) := HOD.out.rp
  have HEV : Hid (Vs (ivs [(rpX m).1, (rpX m).2.1, (rpX m).2.2]) 3) := ivs_vs rfl
  have R1 : Hid (rtB (sbV m x) = true) := rt_iff.2 ((rt_iff.1 ht).sb x)
  have R2 : Hid (rtB (wrV m num) = true) := wr_right ht hi.B num
  have R3 : Hid (rtB (rpV m) = true) := rt_iff.2 (rt_iff.1 ht).rp
  rw [hs] at HSB
  rw [hk, wr_refused hk] at HWK
  rw [wr_refused hk] at O2
  have HTM : Hid (rtB m = true) := ht
  unfold cmV at HSB ⊢
  generalize ivs [x.1, x.2.1, x.2.2.1, x.2.2.2] = X at *
  generalize ivs [(rpX m).1, (rpX m).2.1, (rpX m).2.2] = EV at *
  clear hi hr ht hs hk
  go_enter Try.func4, Try.ntmps4
  repeat' (first | (go_big_may; first | (refine v_box rfl rfl rfl ?_; intro u xm hN; replace hM := hM.new hN (by decide); clear hN) | (refine v_box rfl rfl rfl ?_; intro u xc hN; replace hM := hM.new hN (by decide); clear hN) | (refine v_load rfl rfl row_mach rfl hM.at1 HL0.out HA0.out ?_) | (refine v_load rfl rfl row_cmd rfl hM.at0 HLX.out HAX.out ?_)) | go_values | go_skip | go_guarded | go_step | go_upon | (simp only [Int.not_lt, Int.not_le] at *; go_simp))
  refine (HSB.out _ hM.below).mono ?_
  rintro r u1 ⟨a1, a2, rfl, ht⟩
  have G1 : Hid (Vs (mvl a1 a2 (sbV m x)) 606) := mvl_vs (rcs_one ht.c.rcs) (rcs_one ht.e.rcs) O1.out.B
  have L1 : Hid (0 + 606 ≤ (mvl a1 a2 (sbV m x)).length) := by show _ ≤ _; rw [G1.out.len]; exact Nat.le_refl _
  have A1 : Hid (cv (mvl a1 a2 (sbV m x)) 0 606 = mvl a1 a2 (sbV m x)) := cv_all G1.out.len
  replace hM := (hM.tel ht.c ht.below).add (b := true) (ht.e.mono hM.below.size)
  clear ht
  repeat' (first | (go_big_may; first | (refine v_alloc rfl zer_mach rfl ?_; intro u xa hN; replace hM := hM.new hN (by decide); clear hN) | (refine v_fill rfl rfl row_mach rfl rfl hM.at0 G1.out HZ.out ?_; intro u hv hc; replace hM := hM.put0 hc hv; clear hv hc)) | go_values | go_skip | go_guarded | go_step | go_upon | (simp only [Int.not_lt, Int.not_le] at *; go_simp))
  refine (HLV.out _).mono ?_
  rintro r u2 ⟨rfl, hv⟩
  replace hM := hM.call hv
  clear hv
  repeat' (first | (go_big_may; first | (refine v_load rfl rfl row_mach rfl hM.at2 HL0.out HA0.out ?_)) | go_values | go_skip | go_guarded | go_step | go_upon | (simp only [Int.not_lt, Int.not_le] at *; go_simp))
  refine (HWK.out _ hM.below).mono ?_
  rintro r u4 ⟨b1, b2, rfl, ht⟩
  have G2 : Hid (Vs (mvl b1 b2 m) 606) := mvl_vs (rcs_one ht.c.rcs) (rcs_one ht.e.rcs) O2.out.B
  have L2 : Hid (0 + 606 ≤ (mvl b1 b2 m).length) := by show _ ≤ _; rw [G2.out.len]; exact Nat.le_refl _
  have A2 : Hid (cv (mvl b1 b2 m) 0 606 = mvl b1 b2 m) := cv_all G2.out.len
  replace hM := (hM.tel ht.c ht.below).add (b := true) (ht.e.mono hM.below.size)
  clear ht
  repeat' (first | (go_big_may; first | (refine v_alloc rfl zer_mach rfl ?_; intro u xb hN; replace hM := hM.new hN (by decide); clear hN) | (refine v_fill rfl rfl row_mach rfl rfl hM.at0 G2.out HZ.out ?_; intro u hv hc; replace hM := hM.put0 hc hv; clear hv hc) | (refine v_load rfl rfl row_mach rfl hM.at3 HL0.out HA0.out ?_)) | go_values | go_skip | go_guarded | go_step | go_upon | (simp only [Int.not_lt, Int.not_le] at *; go_simp))
  refine (HRP.out _ hM.below).mono ?_
  rintro r u5 ⟨c1, c2, rfl, ht⟩
  have G3 : Hid (Vs (mvl c1 c2 (rpV m)) 606) := mvl_vs (rcs_one ht.c.rcs) (rcs_one ht.e.rcs) O3.out.B
  have L3 : Hid (0 + 606 ≤ (mvl c1 c2 (rpV m)).length) := by show _ ≤ _; rw [G3.out.len]; exact Nat.le_refl _
  have A3 : Hid (cv (mvl c1 c2 (rpV m)) 0 606 = mvl c1 c2 (rpV m)) := cv_all G3.out.len
  replace hM := (hM.tel ht.c ht.below).add (b := true) (ht.e.mono hM.below.size)
  clear ht
  repeat' (first | (go_big_may; first | (refine v_alloc rfl zer_mach rfl ?_; intro u xd hN; replace hM := hM.new hN (by decide); clear hN) | (refine v_alloc rfl zer_event rfl ?_; intro u xe hN; replace hM := hM.new hN (by decide); clear hN) | (refine v_fill rfl rfl row_mach rfl rfl hM.at1 G3.out HZ.out ?_; intro u hv hc; replace hM := hM.put1 hc hv; clear hv hc) | (refine v_fill rfl rfl row_event rfl rfl hM.at0 HEV.out HZE.out ?_; intro u hv hc; replace hM := hM.put0 hc hv; clear hv hc) | (refine v_load rfl rfl row_mach rfl hM.at2 L2.out A2.out ?_) | (refine v_load rfl rfl row_mach rfl hM.at5 HL0.out HA0.out ?_)) | go_values | go_skip | go_guarded | go_step | go_upon | (simp only [Int.not_lt, Int.not_le] at *; go_simp))
  refine (HSM.out b1 b2 _ (hM.read (b := true) (by simp)) (hM.read (b := true) (by simp)) (hM.read (b := false) (by simp)) (hM.read (b := false) (by simp))).mono ?_
  rintro r u6 ⟨rfl, hv⟩
  replace hM := hM.call hv
  clear hv
  repeat' (first | (go_big_may; first | (refine v_load rfl rfl row_mach rfl hM.at5 HL0.out HA0.out ?_)) | go_values | go_skip | go_guarded | go_step | go_upon | (simp only [Int.not_lt, Int.not_le] at *; go_simp))
  refine (HMA.out m vc ve _ HOD.out (hM.read (b := false) (by simp)) (hM.read (b := false) (by simp))).mono ?_
  rintro r u8 ⟨rfl, hv⟩
  replace hM := hM.call hv
  clear hv
  rw [HTM.out]
  repeat' (first | (go_big_may; first | (refine v_load rfl rfl row_mach rfl hM.at3 L1.out A1.out ?_)) | go_values | go_skip | go_guarded | go_step | go_upon | (simp only [Int.not_lt, Int.not_le] at *; go_simp))
  refine (HMA.out (sbV m x) a1 a2 _ O1.out (hM.read (b := true) (by simp)) (hM.read (b := true) (by simp))).mono ?_
  rintro r u9 ⟨rfl, hv⟩
  replace hM := hM.call hv
  clear hv
  rw [R1.out]
  repeat' (first | (go_big_may; first | (refine v_load rfl rfl row_mach rfl hM.at2 L2.out A2.out ?_)) | go_values | go_skip | go_guarded | go_step | go_upon | (simp only [Int.not_lt, Int.not_le] at *; go_simp))
  refine (HMA.out m b1 b2 _ O2.out (hM.read (b := true) (by simp)) (hM.read (b := true) (by simp))).mono ?_
  rintro r u10 ⟨rfl, hv⟩
  replace hM := hM.call hv
  clear hv
  rw [HTM.out]
  repeat' (first | (go_big_may; first | (refine v_load rfl rfl row_mach rfl hM.at1 L3.out A3.out ?_)) | go_values | go_skip | go_guarded | go_step | go_upon | (simp only [Int.not_lt, Int.not_le] at *; go_simp))
  refine (HMA.out (rpV m) c1 c2 _ O3.out (hM.read (b := true) (by simp)) (hM.read (b := true) (by simp))).mono ?_
  rintro r u11 ⟨rfl, hv⟩
  replace hM := hM.call hv
  clear hv
  rw [R3.out]
  repeat' (first | go_values | go_skip | go_guarded | go_step | go_upon | (simp only [Int.not_lt, Int.not_le] at *; go_simp))
  go_ret
  exact ⟨rfl, hM.below⟩
set_option maxHeartbeats 8000000 in
theorem way3 (vc ve : Value) (m : Mc) (x : Cm) (num : Int) (w : World) (hi : In w vc ve m) (hs : sbC m x = 0) (hk : wrN m num ≠ 0) (hr : rpB m = false) (ht : rtB m = true) : Calls Try.prog 4 #[agv (mvl vc ve m), cmV x, .int .i64 num] w fun r w' => r = .returned (.bool true) ∧ Below w.heap.size w w' := by
  have hM : Mv w w [] [(false, vc, m.c.C), (false, ve, m.e.C)] := ((Mv.nil w).old hi.e).old hi.c
  have HOD : Hid (Od m) := ⟨hi.B, hi.wc, hi.we⟩
  have HV : Hid (Vs (mvl vc ve m) 606) := hi.vs
  have HL0 : Hid (0 + 606 ≤ (mvl vc ve m).length) := by show _ ≤ _; rw [hi.vs.len]; exact Nat.le_refl _
  have HA0 : Hid (cv (mvl vc ve m) 0 606 = mvl vc ve m) := cv_all hi.vs.len
  have HZ : Hid (zl.length = 606) := zl_vs.len
  have HZE : Hid ((ivs [0, 0, 0]).length = 3) := rfl
  have HSB : Hid (∀ u, Below w.heap.size w u → Calls Try.prog 8 #[agv (mvl vc ve m), cmV x] u fun e w' => ∃ vc' ve', e = .returned (.tuple #[agv (mvl vc' ve' (sbV m x)), .int .i64 (sbC m x)]) ∧ Tl u vc' ve' (sbV m x) w') := fun u hb => submit_any vc ve m x u (hi.below hb)
  have HWK : Hid (∀ u, Below w.heap.size w u → Calls Try.prog 6 #[agv (mvl vc ve m), .int .i64 num] u fun e w' => ∃ vc' ve', e = .returned (.tuple #[agv (mvl vc' ve' (wrV m num)), .int .i64 (wrN m num)]) ∧ Tl u vc' ve' (wrV m num) w') := fun u hb => work_any vc ve m num u (hi.below hb)
  have HRP : Hid (∀ u, Below w.heap.size w u → Calls Try.prog 9 #[agv (mvl vc ve m)] u fun e w' => ∃ vc' ve', e = .returned (.tuple #[agv (mvl vc' ve' (rpV m)), agv (ivs [(rpX m).1, (rpX m).2.1, (rpX m).2.2]), .bool false]) ∧ Tl u vc' ve' (rpV m) w') := fun u hb => by
    have := reap_any vc ve m u (hi.below hb)
    rw [hr] at this
    exact this
  have HLV : Hid (∀ u, Calls Try.prog 5 #[] u fun e w' => e = .returned (.bool true) ∧ Below u.heap.size u w') := lives_any
  have HSM : Hid (∀ v1 v2 u, Rcs u v1 m.c.C → Rcs u v2 m.e.C → Rcs u vc m.c.C → Rcs u ve m.e.C → Calls Try.prog 7 #[agv (mvl v1 v2 m), agv (mvl vc ve m)] u fun e w' => e = .returned (.bool true) ∧ Below u.heap.size u w') := fun v1 v2 u h1 h2 h3 h4 => same_mc v1 v2 vc ve m u h1 h2 h3 h4 hi.B
  have HMA : Hid (∀ (M : Mc) v1 v2 u, Od M → Rcs u v1 M.c.C → Rcs u v2 M.e.C → Calls Try.prog 10 #[agv (mvl v1 v2 M)] u fun e w' => e = .returned (.bool (rtB M)) ∧ Below u.heap.size u w') := fun M v1 v2 u hO h1 h2 => machine_any v1 v2 M u h1 h2 hO.B hO.wc hO.we
  have HLX : Hid (0 + 4 ≤ (ivs [x.1, x.2.1, x.2.2.1, x.2.2.2]).length) := Nat.le_refl _
  have HAX : Hid (cv (ivs [x.1, x.2.1, x.2.2.1, x.2.2.2]) 0 4 = ivs [x.1, x.2.1, x.2.2.1, x.2.2.2]) := rfl
  have O1 : Hid (Od (sbV m x)) := HOD.out.sb x
  have O2 : Hid (Od (wrV m num)) := HOD.out.wr num
  have O3 : Hid (Od (rpV m)) := HOD.out.rp
  have HEV : Hid (Vs (ivs [(rpX m).1, (rpX m).2.1, (rpX m).2.2]) 3) := ivs_vs rfl
  have R1 : Hid (rtB (sbV m x) = true) := rt_iff.2 ((rt_iff.1 ht).sb x)
  have R2 : Hid (rtB (wrV m num) = true) := wr_right ht hi.B num
  have R3 : Hid (rtB (rpV m) = true) := rt_iff.2 (rt_iff.1 ht).rp
  rw [hs] at HSB
  have e2 : (wrN m num == 0) = false := by simpa using hk
  generalize wrN m num = wn at *
  rw [rp_refused hr] at HRP O3
  have HTM : Hid (rtB m = true) := ht
  unfold cmV at HSB ⊢
  generalize ivs [x.1, x.2.1, x.2.2.1, x.2.2.2] = X at *
  generalize ivs [(rpX m).1, (rpX m).2.1, (rpX m).2.2] = EV at *
  clear hi hr ht hs hk
  go_enter Try.func4, Try.ntmps4
  repeat' (first | (go_big_may; first | (refine v_box rfl rfl rfl ?_; intro u xm hN; replace hM := hM.new hN (by decide); clear hN) | (refine v_box rfl rfl rfl ?_; intro u xc hN; replace hM := hM.new hN (by decide); clear hN) | (refine v_load rfl rfl row_mach rfl hM.at1 HL0.out HA0.out ?_) | (refine v_load rfl rfl row_cmd rfl hM.at0 HLX.out HAX.out ?_)) | go_values | go_skip | go_guarded | go_step | go_upon | (simp only [Int.not_lt, Int.not_le] at *; go_simp))
  refine (HSB.out _ hM.below).mono ?_
  rintro r u1 ⟨a1, a2, rfl, ht⟩
  have G1 : Hid (Vs (mvl a1 a2 (sbV m x)) 606) := mvl_vs (rcs_one ht.c.rcs) (rcs_one ht.e.rcs) O1.out.B
  have L1 : Hid (0 + 606 ≤ (mvl a1 a2 (sbV m x)).length) := by show _ ≤ _; rw [G1.out.len]; exact Nat.le_refl _
  have A1 : Hid (cv (mvl a1 a2 (sbV m x)) 0 606 = mvl a1 a2 (sbV m x)) := cv_all G1.out.len
  replace hM := (hM.tel ht.c ht.below).add (b := true) (ht.e.mono hM.below.size)
  clear ht
  repeat' (first | (go_big_may; first | (refine v_alloc rfl zer_mach rfl ?_; intro u xa hN; replace hM := hM.new hN (by decide); clear hN) | (refine v_fill rfl rfl row_mach rfl rfl hM.at0 G1.out HZ.out ?_; intro u hv hc; replace hM := hM.put0 hc hv; clear hv hc)) | go_values | go_skip | go_guarded | go_step | go_upon | (simp only [Int.not_lt, Int.not_le] at *; go_simp))
  refine (HLV.out _).mono ?_
  rintro r u2 ⟨rfl, hv⟩
  replace hM := hM.call hv
  clear hv
  repeat' (first | (go_big_may; first | (refine v_load rfl rfl row_mach rfl hM.at2 HL0.out HA0.out ?_)) | go_values | go_skip | go_guarded | go_step | go_upon | (simp only [Int.not_lt, Int.not_le] at *; go_simp))
  refine (HWK.out _ hM.below).mono ?_
  rintro r u4 ⟨b1, b2, rfl, ht⟩
  have G2 : Hid (Vs (mvl b1 b2 (wrV m num)) 606) := mvl_vs (rcs_one ht.c.rcs) (rcs_one ht.e.rcs) O2.out.B
  have L2 : Hid (0 + 606 ≤ (mvl b1 b2 (wrV m num)).length) := by show _ ≤ _; rw [G2.out.len]; exact Nat.le_refl _
  have A2 : Hid (cv (mvl b1 b2 (wrV m num)) 0 606 = mvl b1 b2 (wrV m num)) := cv_all G2.out.len
  replace hM := (hM.tel ht.c ht.below).add (b := true) (ht.e.mono hM.below.size)
  clear ht
  repeat' (first | (go_big_may; first | (refine v_alloc rfl zer_mach rfl ?_; intro u xb hN; replace hM := hM.new hN (by decide); clear hN) | (refine v_fill rfl rfl row_mach rfl rfl hM.at0 G2.out HZ.out ?_; intro u hv hc; replace hM := hM.put0 hc hv; clear hv hc) | (refine v_load rfl rfl row_mach rfl hM.at3 HL0.out HA0.out ?_)) | go_values | go_skip | go_guarded | go_step | go_upon | (simp only [Int.not_lt, Int.not_le] at *; go_simp))
  refine (HRP.out _ hM.below).mono ?_
  rintro r u5 ⟨c1, c2, rfl, ht⟩
  have G3 : Hid (Vs (mvl c1 c2 m) 606) := mvl_vs (rcs_one ht.c.rcs) (rcs_one ht.e.rcs) O3.out.B
  have L3 : Hid (0 + 606 ≤ (mvl c1 c2 m).length) := by show _ ≤ _; rw [G3.out.len]; exact Nat.le_refl _
  have A3 : Hid (cv (mvl c1 c2 m) 0 606 = mvl c1 c2 m) := cv_all G3.out.len
  replace hM := (hM.tel ht.c ht.below).add (b := true) (ht.e.mono hM.below.size)
  clear ht
  repeat' (first | (go_big_may; first | (refine v_alloc rfl zer_mach rfl ?_; intro u xd hN; replace hM := hM.new hN (by decide); clear hN) | (refine v_alloc rfl zer_event rfl ?_; intro u xe hN; replace hM := hM.new hN (by decide); clear hN) | (refine v_fill rfl rfl row_mach rfl rfl hM.at1 G3.out HZ.out ?_; intro u hv hc; replace hM := hM.put1 hc hv; clear hv hc) | (refine v_fill rfl rfl row_event rfl rfl hM.at0 HEV.out HZE.out ?_; intro u hv hc; replace hM := hM.put0 hc hv; clear hv hc) | (refine v_load rfl rfl row_mach rfl hM.at1 L3.out A3.out ?_) | (refine v_load rfl rfl row_mach rfl hM.at5 HL0.out HA0.out ?_)) | go_values | go_skip | go_guarded | go_step | go_upon | (simp only [Int.not_lt, Int.not_le] at *; go_simp))
  refine (HSM.out c1 c2 _ (hM.read (b := true) (by simp)) (hM.read (b := true) (by simp)) (hM.read (b := false) (by simp)) (hM.read (b := false) (by simp))).mono ?_
  rintro r u7 ⟨rfl, hv⟩
  replace hM := hM.call hv
  clear hv
  repeat' (first | (go_big_may; first | (refine v_load rfl rfl row_mach rfl hM.at5 HL0.out HA0.out ?_)) | go_values | go_skip | go_guarded | go_step | go_upon | (simp only [Int.not_lt, Int.not_le] at *; go_simp))
  refine (HMA.out m vc ve _ HOD.out (hM.read (b := false) (by simp)) (hM.read (b := false) (by simp))).mono ?_
  rintro r u8 ⟨rfl, hv⟩
  replace hM := hM.call hv
  clear hv
  rw [HTM.out]
  repeat' (first | (go_big_may; first | (refine v_load rfl rfl row_mach rfl hM.at3 L1.out A1.out ?_)) | go_values | go_skip | go_guarded | go_step | go_upon | (simp only [Int.not_lt, Int.not_le] at *; go_simp))
  refine (HMA.out (sbV m x) a1 a2 _ O1.out (hM.read (b := true) (by simp)) (hM.read (b := true) (by simp))).mono ?_
  rintro r u9 ⟨rfl, hv⟩
  replace hM := hM.call hv
  clear hv
  rw [R1.out]
  repeat' (first | (go_big_may; first | (refine v_load rfl rfl row_mach rfl hM.at2 L2.out A2.out ?_)) | go_values | go_skip | go_guarded | go_step | go_upon | (simp only [Int.not_lt, Int.not_le] at *; go_simp))
  refine (HMA.out (wrV m num) b1 b2 _ O2.out (hM.read (b := true) (by simp)) (hM.read (b := true) (by simp))).mono ?_
  rintro r u10 ⟨rfl, hv⟩
  replace hM := hM.call hv
  clear hv
  rw [R2.out]
  repeat' (first | (go_big_may; first | (refine v_load rfl rfl row_mach rfl hM.at1 L3.out A3.out ?_)) | go_values | go_skip | go_guarded | go_step | go_upon | (simp only [Int.not_lt, Int.not_le] at *; go_simp))
  refine (HMA.out m c1 c2 _ O3.out (hM.read (b := true) (by simp)) (hM.read (b := true) (by simp))).mono ?_
  rintro r u11 ⟨rfl, hv⟩
  replace hM := hM.call hv
  clear hv
  rw [HTM.out]
  repeat' (first | go_values | go_skip | go_guarded | go_step | go_upon | (simp only [Int.not_lt, Int.not_le] at *; go_simp))
  go_ret
  exact ⟨rfl, hM.below⟩
set_option maxHeartbeats 8000000 in
theorem way4 (vc ve : Value) (m : Mc) (x : Cm) (num : Int) (w : World) (hi : In w vc ve m) (hs : sbC m x = 0) (hk : wrN m num ≠ 0) (hr : rpB m = true) (ht : rtB m = true) : Calls Try.prog 4 #[agv (mvl vc ve m), cmV x, .int .i64 num] w fun r w' => r = .returned (.bool true) ∧ Below w.heap.size w w' := by
  have hM : Mv w w [] [(false, vc, m.c.C), (false, ve, m.e.C)] := ((Mv.nil w).old hi.e).old hi.c
  have HOD : Hid (Od m) := ⟨hi.B, hi.wc, hi.we⟩
  have HV : Hid (Vs (mvl vc ve m) 606) := hi.vs
  have HL0 : Hid (0 + 606 ≤ (mvl vc ve m).length) := by show _ ≤ _; rw [hi.vs.len]; exact Nat.le_refl _
  have HA0 : Hid (cv (mvl vc ve m) 0 606 = mvl vc ve m) := cv_all hi.vs.len
  have HZ : Hid (zl.length = 606) := zl_vs.len
  have HZE : Hid ((ivs [0, 0, 0]).length = 3) := rfl
  have HSB : Hid (∀ u, Below w.heap.size w u → Calls Try.prog 8 #[agv (mvl vc ve m), cmV x] u fun e w' => ∃ vc' ve', e = .returned (.tuple #[agv (mvl vc' ve' (sbV m x)), .int .i64 (sbC m x)]) ∧ Tl u vc' ve' (sbV m x) w') := fun u hb => submit_any vc ve m x u (hi.below hb)
  have HWK : Hid (∀ u, Below w.heap.size w u → Calls Try.prog 6 #[agv (mvl vc ve m), .int .i64 num] u fun e w' => ∃ vc' ve', e = .returned (.tuple #[agv (mvl vc' ve' (wrV m num)), .int .i64 (wrN m num)]) ∧ Tl u vc' ve' (wrV m num) w') := fun u hb => work_any vc ve m num u (hi.below hb)
  have HRP : Hid (∀ u, Below w.heap.size w u → Calls Try.prog 9 #[agv (mvl vc ve m)] u fun e w' => ∃ vc' ve', e = .returned (.tuple #[agv (mvl vc' ve' (rpV m)), agv (ivs [(rpX m).1, (rpX m).2.1, (rpX m).2.2]), .bool true]) ∧ Tl u vc' ve' (rpV m) w') := fun u hb => by
    have := reap_any vc ve m u (hi.below hb)
    rw [hr] at this
    exact this
  have HLV : Hid (∀ u, Calls Try.prog 5 #[] u fun e w' => e = .returned (.bool true) ∧ Below u.heap.size u w') := lives_any
  have HSM : Hid (∀ v1 v2 u, Rcs u v1 m.c.C → Rcs u v2 m.e.C → Rcs u vc m.c.C → Rcs u ve m.e.C → Calls Try.prog 7 #[agv (mvl v1 v2 m), agv (mvl vc ve m)] u fun e w' => e = .returned (.bool true) ∧ Below u.heap.size u w') := fun v1 v2 u h1 h2 h3 h4 => same_mc v1 v2 vc ve m u h1 h2 h3 h4 hi.B
  have HMA : Hid (∀ (M : Mc) v1 v2 u, Od M → Rcs u v1 M.c.C → Rcs u v2 M.e.C → Calls Try.prog 10 #[agv (mvl v1 v2 M)] u fun e w' => e = .returned (.bool (rtB M)) ∧ Below u.heap.size u w') := fun M v1 v2 u hO h1 h2 => machine_any v1 v2 M u h1 h2 hO.B hO.wc hO.we
  have HLX : Hid (0 + 4 ≤ (ivs [x.1, x.2.1, x.2.2.1, x.2.2.2]).length) := Nat.le_refl _
  have HAX : Hid (cv (ivs [x.1, x.2.1, x.2.2.1, x.2.2.2]) 0 4 = ivs [x.1, x.2.1, x.2.2.1, x.2.2.2]) := rfl
  have O1 : Hid (Od (sbV m x)) := HOD.out.sb x
  have O2 : Hid (Od (wrV m num)) := HOD.out.wr num
  have O3 : Hid (Od (rpV m)) := HOD.out.rp
  have HEV : Hid (Vs (ivs [(rpX m).1, (rpX m).2.1, (rpX m).2.2]) 3) := ivs_vs rfl
  have R1 : Hid (rtB (sbV m x) = true) := rt_iff.2 ((rt_iff.1 ht).sb x)
  have R2 : Hid (rtB (wrV m num) = true) := wr_right ht hi.B num
  have R3 : Hid (rtB (rpV m) = true) := rt_iff.2 (rt_iff.1 ht).rp
  rw [hs] at HSB
  have e2 : (wrN m num == 0) = false := by simpa using hk
  generalize wrN m num = wn at *
  have HTM : Hid (rtB m = true) := ht
  unfold cmV at HSB ⊢
  generalize ivs [x.1, x.2.1, x.2.2.1, x.2.2.2] = X at *
  generalize ivs [(rpX m).1, (rpX m).2.1, (rpX m).2.2] = EV at *
  clear hi hr ht hs hk
  go_enter Try.func4, Try.ntmps4
  repeat' (first | (go_big_may; first | (refine v_box rfl rfl rfl ?_; intro u xm hN; replace hM := hM.new hN (by decide); clear hN) | (refine v_box rfl rfl rfl ?_; intro u xc hN; replace hM := hM.new hN (by decide); clear hN) | (refine v_load rfl rfl row_mach rfl hM.at1 HL0.out HA0.out ?_) | (refine v_load rfl rfl row_cmd rfl hM.at0 HLX.out HAX.out ?_)) | go_values | go_skip | go_guarded | go_step | go_upon | (simp only [Int.not_lt, Int.not_le] at *; go_simp))
  refine (HSB.out _ hM.below).mono ?_
  rintro r u1 ⟨a1, a2, rfl, ht⟩
  have G1 : Hid (Vs (mvl a1 a2 (sbV m x)) 606) := mvl_vs (rcs_one ht.c.rcs) (rcs_one ht.e.rcs) O1.out.B
  have L1 : Hid (0 + 606 ≤ (mvl a1 a2 (sbV m x)).length) := by show _ ≤ _; rw [G1.out.len]; exact Nat.le_refl _
  have A1 : Hid (cv (mvl a1 a2 (sbV m x)) 0 606 = mvl a1 a2 (sbV m x)) := cv_all G1.out.len
  replace hM := (hM.tel ht.c ht.below).add (b := true) (ht.e.mono hM.below.size)
  clear ht
  repeat' (first | (go_big_may; first | (refine v_alloc rfl zer_mach rfl ?_; intro u xa hN; replace hM := hM.new hN (by decide); clear hN) | (refine v_fill rfl rfl row_mach rfl rfl hM.at0 G1.out HZ.out ?_; intro u hv hc; replace hM := hM.put0 hc hv; clear hv hc)) | go_values | go_skip | go_guarded | go_step | go_upon | (simp only [Int.not_lt, Int.not_le] at *; go_simp))
  refine (HLV.out _).mono ?_
  rintro r u2 ⟨rfl, hv⟩
  replace hM := hM.call hv
  clear hv
  repeat' (first | (go_big_may; first | (refine v_load rfl rfl row_mach rfl hM.at2 HL0.out HA0.out ?_)) | go_values | go_skip | go_guarded | go_step | go_upon | (simp only [Int.not_lt, Int.not_le] at *; go_simp))
  refine (HWK.out _ hM.below).mono ?_
  rintro r u4 ⟨b1, b2, rfl, ht⟩
  have G2 : Hid (Vs (mvl b1 b2 (wrV m num)) 606) := mvl_vs (rcs_one ht.c.rcs) (rcs_one ht.e.rcs) O2.out.B
  have L2 : Hid (0 + 606 ≤ (mvl b1 b2 (wrV m num)).length) := by show _ ≤ _; rw [G2.out.len]; exact Nat.le_refl _
  have A2 : Hid (cv (mvl b1 b2 (wrV m num)) 0 606 = mvl b1 b2 (wrV m num)) := cv_all G2.out.len
  replace hM := (hM.tel ht.c ht.below).add (b := true) (ht.e.mono hM.below.size)
  clear ht
  repeat' (first | (go_big_may; first | (refine v_alloc rfl zer_mach rfl ?_; intro u xb hN; replace hM := hM.new hN (by decide); clear hN) | (refine v_fill rfl rfl row_mach rfl rfl hM.at0 G2.out HZ.out ?_; intro u hv hc; replace hM := hM.put0 hc hv; clear hv hc) | (refine v_load rfl rfl row_mach rfl hM.at3 HL0.out HA0.out ?_)) | go_values | go_skip | go_guarded | go_step | go_upon | (simp only [Int.not_lt, Int.not_le] at *; go_simp))
  refine (HRP.out _ hM.below).mono ?_
  rintro r u5 ⟨c1, c2, rfl, ht⟩
  have G3 : Hid (Vs (mvl c1 c2 (rpV m)) 606) := mvl_vs (rcs_one ht.c.rcs) (rcs_one ht.e.rcs) O3.out.B
  have L3 : Hid (0 + 606 ≤ (mvl c1 c2 (rpV m)).length) := by show _ ≤ _; rw [G3.out.len]; exact Nat.le_refl _
  have A3 : Hid (cv (mvl c1 c2 (rpV m)) 0 606 = mvl c1 c2 (rpV m)) := cv_all G3.out.len
  replace hM := (hM.tel ht.c ht.below).add (b := true) (ht.e.mono hM.below.size)
  clear ht
  repeat' (first | (go_big_may; first | (refine v_alloc rfl zer_mach rfl ?_; intro u xd hN; replace hM := hM.new hN (by decide); clear hN) | (refine v_alloc rfl zer_event rfl ?_; intro u xe hN; replace hM := hM.new hN (by decide); clear hN) | (refine v_fill rfl rfl row_mach rfl rfl hM.at1 G3.out HZ.out ?_; intro u hv hc; replace hM := hM.put1 hc hv; clear hv hc) | (refine v_fill rfl rfl row_event rfl rfl hM.at0 HEV.out HZE.out ?_; intro u hv hc; replace hM := hM.put0 hc hv; clear hv hc) | (refine v_load rfl rfl row_mach rfl hM.at5 HL0.out HA0.out ?_)) | go_values | go_skip | go_guarded | go_step | go_upon | (simp only [Int.not_lt, Int.not_le] at *; go_simp))
  refine (HMA.out m vc ve _ HOD.out (hM.read (b := false) (by simp)) (hM.read (b := false) (by simp))).mono ?_
  rintro r u8 ⟨rfl, hv⟩
  replace hM := hM.call hv
  clear hv
  rw [HTM.out]
  repeat' (first | (go_big_may; first | (refine v_load rfl rfl row_mach rfl hM.at3 L1.out A1.out ?_)) | go_values | go_skip | go_guarded | go_step | go_upon | (simp only [Int.not_lt, Int.not_le] at *; go_simp))
  refine (HMA.out (sbV m x) a1 a2 _ O1.out (hM.read (b := true) (by simp)) (hM.read (b := true) (by simp))).mono ?_
  rintro r u9 ⟨rfl, hv⟩
  replace hM := hM.call hv
  clear hv
  rw [R1.out]
  repeat' (first | (go_big_may; first | (refine v_load rfl rfl row_mach rfl hM.at2 L2.out A2.out ?_)) | go_values | go_skip | go_guarded | go_step | go_upon | (simp only [Int.not_lt, Int.not_le] at *; go_simp))
  refine (HMA.out (wrV m num) b1 b2 _ O2.out (hM.read (b := true) (by simp)) (hM.read (b := true) (by simp))).mono ?_
  rintro r u10 ⟨rfl, hv⟩
  replace hM := hM.call hv
  clear hv
  rw [R2.out]
  repeat' (first | (go_big_may; first | (refine v_load rfl rfl row_mach rfl hM.at1 L3.out A3.out ?_)) | go_values | go_skip | go_guarded | go_step | go_upon | (simp only [Int.not_lt, Int.not_le] at *; go_simp))
  refine (HMA.out (rpV m) c1 c2 _ O3.out (hM.read (b := true) (by simp)) (hM.read (b := true) (by simp))).mono ?_
  rintro r u11 ⟨rfl, hv⟩
  replace hM := hM.call hv
  clear hv
  rw [R3.out]
  repeat' (first | go_values | go_skip | go_guarded | go_step | go_upon | (simp only [Int.not_lt, Int.not_le] at *; go_simp))
  go_ret
  exact ⟨rfl, hM.below⟩
set_option maxHeartbeats 8000000 in
theorem way5 (vc ve : Value) (m : Mc) (x : Cm) (num : Int) (w : World) (hi : In w vc ve m) (hs : sbC m x ≠ 0) (hk : wrN m num = 0) (hr : rpB m = false) (ht : rtB m = true) : Calls Try.prog 4 #[agv (mvl vc ve m), cmV x, .int .i64 num] w fun r w' => r = .returned (.bool true) ∧ Below w.heap.size w w' := by
  have hM : Mv w w [] [(false, vc, m.c.C), (false, ve, m.e.C)] := ((Mv.nil w).old hi.e).old hi.c
  have HOD : Hid (Od m) := ⟨hi.B, hi.wc, hi.we⟩
  have HV : Hid (Vs (mvl vc ve m) 606) := hi.vs
  have HL0 : Hid (0 + 606 ≤ (mvl vc ve m).length) := by show _ ≤ _; rw [hi.vs.len]; exact Nat.le_refl _
  have HA0 : Hid (cv (mvl vc ve m) 0 606 = mvl vc ve m) := cv_all hi.vs.len
  have HZ : Hid (zl.length = 606) := zl_vs.len
  have HZE : Hid ((ivs [0, 0, 0]).length = 3) := rfl
  have HSB : Hid (∀ u, Below w.heap.size w u → Calls Try.prog 8 #[agv (mvl vc ve m), cmV x] u fun e w' => ∃ vc' ve', e = .returned (.tuple #[agv (mvl vc' ve' (sbV m x)), .int .i64 (sbC m x)]) ∧ Tl u vc' ve' (sbV m x) w') := fun u hb => submit_any vc ve m x u (hi.below hb)
  have HWK : Hid (∀ u, Below w.heap.size w u → Calls Try.prog 6 #[agv (mvl vc ve m), .int .i64 num] u fun e w' => ∃ vc' ve', e = .returned (.tuple #[agv (mvl vc' ve' (wrV m num)), .int .i64 (wrN m num)]) ∧ Tl u vc' ve' (wrV m num) w') := fun u hb => work_any vc ve m num u (hi.below hb)
  have HRP : Hid (∀ u, Below w.heap.size w u → Calls Try.prog 9 #[agv (mvl vc ve m)] u fun e w' => ∃ vc' ve', e = .returned (.tuple #[agv (mvl vc' ve' (rpV m)), agv (ivs [(rpX m).1, (rpX m).2.1, (rpX m).2.2]), .bool false]) ∧ Tl u vc' ve' (rpV m) w') := fun u hb => by
    have := reap_any vc ve m u (hi.below hb)
    rw [hr] at this
    exact this
  have HLV : Hid (∀ u, Calls Try.prog 5 #[] u fun e w' => e = .returned (.bool true) ∧ Below u.heap.size u w') := lives_any
  have HSM : Hid (∀ v1 v2 u, Rcs u v1 m.c.C → Rcs u v2 m.e.C → Rcs u vc m.c.C → Rcs u ve m.e.C → Calls Try.prog 7 #[agv (mvl v1 v2 m), agv (mvl vc ve m)] u fun e w' => e = .returned (.bool true) ∧ Below u.heap.size u w') := fun v1 v2 u h1 h2 h3 h4 => same_mc v1 v2 vc ve m u h1 h2 h3 h4 hi.B
  have HMA : Hid (∀ (M : Mc) v1 v2 u, Od M → Rcs u v1 M.c.C → Rcs u v2 M.e.C → Calls Try.prog 10 #[agv (mvl v1 v2 M)] u fun e w' => e = .returned (.bool (rtB M)) ∧ Below u.heap.size u w') := fun M v1 v2 u hO h1 h2 => machine_any v1 v2 M u h1 h2 hO.B hO.wc hO.we
  have HLX : Hid (0 + 4 ≤ (ivs [x.1, x.2.1, x.2.2.1, x.2.2.2]).length) := Nat.le_refl _
  have HAX : Hid (cv (ivs [x.1, x.2.1, x.2.2.1, x.2.2.2]) 0 4 = ivs [x.1, x.2.1, x.2.2.1, x.2.2.2]) := rfl
  have O1 : Hid (Od (sbV m x)) := HOD.out.sb x
  have O2 : Hid (Od (wrV m num)) := HOD.out.wr num
  have O3 : Hid (Od (rpV m)) := HOD.out.rp
  have HEV : Hid (Vs (ivs [(rpX m).1, (rpX m).2.1, (rpX m).2.2]) 3) := ivs_vs rfl
  have R1 : Hid (rtB (sbV m x) = true) := rt_iff.2 ((rt_iff.1 ht).sb x)
  have R2 : Hid (rtB (wrV m num) = true) := wr_right ht hi.B num
  have R3 : Hid (rtB (rpV m) = true) := rt_iff.2 (rt_iff.1 ht).rp
  rw [sb_refused hs] at HSB O1
  have e1 : (sbC m x != 0) = true := by simpa using hs
  generalize sbC m x = sc at *
  rw [hk, wr_refused hk] at HWK
  rw [wr_refused hk] at O2
  rw [rp_refused hr] at HRP O3
  have HTM : Hid (rtB m = true) := ht
  unfold cmV at HSB ⊢
  generalize ivs [x.1, x.2.1, x.2.2.1, x.2.2.2] = X at *
  generalize ivs [(rpX m).1, (rpX m).2.1, (rpX m).2.2] = EV at *
  clear hi hr ht hs hk
  go_enter Try.func4, Try.ntmps4
  repeat' (first | (go_big_may; first | (refine v_box rfl rfl rfl ?_; intro u xm hN; replace hM := hM.new hN (by decide); clear hN) | (refine v_box rfl rfl rfl ?_; intro u xc hN; replace hM := hM.new hN (by decide); clear hN) | (refine v_load rfl rfl row_mach rfl hM.at1 HL0.out HA0.out ?_) | (refine v_load rfl rfl row_cmd rfl hM.at0 HLX.out HAX.out ?_)) | go_values | go_skip | go_guarded | go_step | go_upon | (simp only [Int.not_lt, Int.not_le] at *; go_simp))
  refine (HSB.out _ hM.below).mono ?_
  rintro r u1 ⟨a1, a2, rfl, ht⟩
  have G1 : Hid (Vs (mvl a1 a2 m) 606) := mvl_vs (rcs_one ht.c.rcs) (rcs_one ht.e.rcs) O1.out.B
  have L1 : Hid (0 + 606 ≤ (mvl a1 a2 m).length) := by show _ ≤ _; rw [G1.out.len]; exact Nat.le_refl _
  have A1 : Hid (cv (mvl a1 a2 m) 0 606 = mvl a1 a2 m) := cv_all G1.out.len
  replace hM := (hM.tel ht.c ht.below).add (b := true) (ht.e.mono hM.below.size)
  clear ht
  repeat' (first | (go_big_may; first | (refine v_alloc rfl zer_mach rfl ?_; intro u xa hN; replace hM := hM.new hN (by decide); clear hN) | (refine v_fill rfl rfl row_mach rfl rfl hM.at0 G1.out HZ.out ?_; intro u hv hc; replace hM := hM.put0 hc hv; clear hv hc)) | go_values | go_skip | go_guarded | go_step | go_upon | (simp only [Int.not_lt, Int.not_le] at *; go_simp))
  refine (HLV.out _).mono ?_
  rintro r u2 ⟨rfl, hv⟩
  replace hM := hM.call hv
  clear hv
  repeat' (first | (go_big_may; first | (refine v_load rfl rfl row_mach rfl hM.at0 L1.out A1.out ?_) | (refine v_load rfl rfl row_mach rfl hM.at2 HL0.out HA0.out ?_)) | go_values | go_skip | go_guarded | go_step | go_upon | (simp only [Int.not_lt, Int.not_le] at *; go_simp))
  refine (HSM.out a1 a2 _ (hM.read (b := true) (by simp)) (hM.read (b := true) (by simp)) (hM.read (b := false) (by simp)) (hM.read (b := false) (by simp))).mono ?_
  rintro r u3 ⟨rfl, hv⟩
  replace hM := hM.call hv
  clear hv
  repeat' (first | (go_big_may; first | (refine v_load rfl rfl row_mach rfl hM.at2 HL0.out HA0.out ?_)) | go_values | go_skip | go_guarded | go_step | go_upon | (simp only [Int.not_lt, Int.not_le] at *; go_simp))
  refine (HWK.out _ hM.below).mono ?_
  rintro r u4 ⟨b1, b2, rfl, ht⟩
  have G2 : Hid (Vs (mvl b1 b2 m) 606) := mvl_vs (rcs_one ht.c.rcs) (rcs_one ht.e.rcs) O2.out.B
  have L2 : Hid (0 + 606 ≤ (mvl b1 b2 m).length) := by show _ ≤ _; rw [G2.out.len]; exact Nat.le_refl _
  have A2 : Hid (cv (mvl b1 b2 m) 0 606 = mvl b1 b2 m) := cv_all G2.out.len
  replace hM := (hM.tel ht.c ht.below).add (b := true) (ht.e.mono hM.below.size)
  clear ht
  repeat' (first | (go_big_may; first | (refine v_alloc rfl zer_mach rfl ?_; intro u xb hN; replace hM := hM.new hN (by decide); clear hN) | (refine v_fill rfl rfl row_mach rfl rfl hM.at0 G2.out HZ.out ?_; intro u hv hc; replace hM := hM.put0 hc hv; clear hv hc) | (refine v_load rfl rfl row_mach rfl hM.at3 HL0.out HA0.out ?_)) | go_values | go_skip | go_guarded | go_step | go_upon | (simp only [Int.not_lt, Int.not_le] at *; go_simp))
  refine (HRP.out _ hM.below).mono ?_
  rintro r u5 ⟨c1, c2, rfl, ht⟩
  have G3 : Hid (Vs (mvl c1 c2 m) 606) := mvl_vs (rcs_one ht.c.rcs) (rcs_one ht.e.rcs) O3.out.B
  have L3 : Hid (0 + 606 ≤ (mvl c1 c2 m).length) := by show _ ≤ _; rw [G3.out.len]; exact Nat.le_refl _
  have A3 : Hid (cv (mvl c1 c2 m) 0 606 = mvl c1 c2 m) := cv_all G3.out.len
  replace hM := (hM.tel ht.c ht.below).add (b := true) (ht.e.mono hM.below.size)
  clear ht
  repeat' (first | (go_big_may; first | (refine v_alloc rfl zer_mach rfl ?_; intro u xd hN; replace hM := hM.new hN (by decide); clear hN) | (refine v_alloc rfl zer_event rfl ?_; intro u xe hN; replace hM := hM.new hN (by decide); clear hN) | (refine v_fill rfl rfl row_mach rfl rfl hM.at1 G3.out HZ.out ?_; intro u hv hc; replace hM := hM.put1 hc hv; clear hv hc) | (refine v_fill rfl rfl row_event rfl rfl hM.at0 HEV.out HZE.out ?_; intro u hv hc; replace hM := hM.put0 hc hv; clear hv hc) | (refine v_load rfl rfl row_mach rfl hM.at2 L2.out A2.out ?_) | (refine v_load rfl rfl row_mach rfl hM.at5 HL0.out HA0.out ?_)) | go_values | go_skip | go_guarded | go_step | go_upon | (simp only [Int.not_lt, Int.not_le] at *; go_simp))
  refine (HSM.out b1 b2 _ (hM.read (b := true) (by simp)) (hM.read (b := true) (by simp)) (hM.read (b := false) (by simp)) (hM.read (b := false) (by simp))).mono ?_
  rintro r u6 ⟨rfl, hv⟩
  replace hM := hM.call hv
  clear hv
  repeat' (first | (go_big_may; first | (refine v_load rfl rfl row_mach rfl hM.at1 L3.out A3.out ?_) | (refine v_load rfl rfl row_mach rfl hM.at5 HL0.out HA0.out ?_)) | go_values | go_skip | go_guarded | go_step | go_upon | (simp only [Int.not_lt, Int.not_le] at *; go_simp))
  refine (HSM.out c1 c2 _ (hM.read (b := true) (by simp)) (hM.read (b := true) (by simp)) (hM.read (b := false) (by simp)) (hM.read (b := false) (by simp))).mono ?_
  rintro r u7 ⟨rfl, hv⟩
  replace hM := hM.call hv
  clear hv
  repeat' (first | (go_big_may; first | (refine v_load rfl rfl row_mach rfl hM.at5 HL0.out HA0.out ?_)) | go_values | go_skip | go_guarded | go_step | go_upon | (simp only [Int.not_lt, Int.not_le] at *; go_simp))
  refine (HMA.out m vc ve _ HOD.out (hM.read (b := false) (by simp)) (hM.read (b := false) (by simp))).mono ?_
  rintro r u8 ⟨rfl, hv⟩
  replace hM := hM.call hv
  clear hv
  rw [HTM.out]
  repeat' (first | (go_big_may; first | (refine v_load rfl rfl row_mach rfl hM.at3 L1.out A1.out ?_)) | go_values | go_skip | go_guarded | go_step | go_upon | (simp only [Int.not_lt, Int.not_le] at *; go_simp))
  refine (HMA.out m a1 a2 _ O1.out (hM.read (b := true) (by simp)) (hM.read (b := true) (by simp))).mono ?_
  rintro r u9 ⟨rfl, hv⟩
  replace hM := hM.call hv
  clear hv
  rw [HTM.out]
  repeat' (first | (go_big_may; first | (refine v_load rfl rfl row_mach rfl hM.at2 L2.out A2.out ?_)) | go_values | go_skip | go_guarded | go_step | go_upon | (simp only [Int.not_lt, Int.not_le] at *; go_simp))
  refine (HMA.out m b1 b2 _ O2.out (hM.read (b := true) (by simp)) (hM.read (b := true) (by simp))).mono ?_
  rintro r u10 ⟨rfl, hv⟩
  replace hM := hM.call hv
  clear hv
  rw [HTM.out]
  repeat' (first | (go_big_may; first | (refine v_load rfl rfl row_mach rfl hM.at1 L3.out A3.out ?_)) | go_values | go_skip | go_guarded | go_step | go_upon | (simp only [Int.not_lt, Int.not_le] at *; go_simp))
  refine (HMA.out m c1 c2 _ O3.out (hM.read (b := true) (by simp)) (hM.read (b := true) (by simp))).mono ?_
  rintro r u11 ⟨rfl, hv⟩
  replace hM := hM.call hv
  clear hv
  rw [HTM.out]
  repeat' (first | go_values | go_skip | go_guarded | go_step | go_upon | (simp only [Int.not_lt, Int.not_le] at *; go_simp))
  go_ret
  exact ⟨rfl, hM.below⟩
set_option maxHeartbeats 8000000 in
theorem way6 (vc ve : Value) (m : Mc) (x : Cm) (num : Int) (w : World) (hi : In w vc ve m) (hs : sbC m x ≠ 0) (hk : wrN m num = 0) (hr : rpB m = true) (ht : rtB m = true) : Calls Try.prog 4 #[agv (mvl vc ve m), cmV x, .int .i64 num] w fun r w' => r = .returned (.bool true) ∧ Below w.heap.size w w' := by
  have hM : Mv w w [] [(false, vc, m.c.C), (false, ve, m.e.C)] := ((Mv.nil w).old hi.e).old hi.c
  have HOD : Hid (Od m) := ⟨hi.B, hi.wc, hi.we⟩
  have HV : Hid (Vs (mvl vc ve m) 606) := hi.vs
  have HL0 : Hid (0 + 606 ≤ (mvl vc ve m).length) := by show _ ≤ _; rw [hi.vs.len]; exact Nat.le_refl _
  have HA0 : Hid (cv (mvl vc ve m) 0 606 = mvl vc ve m) := cv_all hi.vs.len
  have HZ : Hid (zl.length = 606) := zl_vs.len
  have HZE : Hid ((ivs [0, 0, 0]).length = 3) := rfl
  have HSB : Hid (∀ u, Below w.heap.size w u → Calls Try.prog 8 #[agv (mvl vc ve m), cmV x] u fun e w' => ∃ vc' ve', e = .returned (.tuple #[agv (mvl vc' ve' (sbV m x)), .int .i64 (sbC m x)]) ∧ Tl u vc' ve' (sbV m x) w') := fun u hb => submit_any vc ve m x u (hi.below hb)
  have HWK : Hid (∀ u, Below w.heap.size w u → Calls Try.prog 6 #[agv (mvl vc ve m), .int .i64 num] u fun e w' => ∃ vc' ve', e = .returned (.tuple #[agv (mvl vc' ve' (wrV m num)), .int .i64 (wrN m num)]) ∧ Tl u vc' ve' (wrV m num) w') := fun u hb => work_any vc ve m num u (hi.below hb)
  have HRP : Hid (∀ u, Below w.heap.size w u → Calls Try.prog 9 #[agv (mvl vc ve m)] u fun e w' => ∃ vc' ve', e = .returned (.tuple #[agv (mvl vc' ve' (rpV m)), agv (ivs [(rpX m).1, (rpX m).2.1, (rpX m).2.2]), .bool true]) ∧ Tl u vc' ve' (rpV m) w') := fun u hb => by
    have := reap_any vc ve m u (hi.below hb)
    rw [hr] at this
    exact this
  have HLV : Hid (∀ u, Calls Try.prog 5 #[] u fun e w' => e = .returned (.bool true) ∧ Below u.heap.size u w') := lives_any
  have HSM : Hid (∀ v1 v2 u, Rcs u v1 m.c.C → Rcs u v2 m.e.C → Rcs u vc m.c.C → Rcs u ve m.e.C → Calls Try.prog 7 #[agv (mvl v1 v2 m), agv (mvl vc ve m)] u fun e w' => e = .returned (.bool true) ∧ Below u.heap.size u w') := fun v1 v2 u h1 h2 h3 h4 => same_mc v1 v2 vc ve m u h1 h2 h3 h4 hi.B
  have HMA : Hid (∀ (M : Mc) v1 v2 u, Od M → Rcs u v1 M.c.C → Rcs u v2 M.e.C → Calls Try.prog 10 #[agv (mvl v1 v2 M)] u fun e w' => e = .returned (.bool (rtB M)) ∧ Below u.heap.size u w') := fun M v1 v2 u hO h1 h2 => machine_any v1 v2 M u h1 h2 hO.B hO.wc hO.we
  have HLX : Hid (0 + 4 ≤ (ivs [x.1, x.2.1, x.2.2.1, x.2.2.2]).length) := Nat.le_refl _
  have HAX : Hid (cv (ivs [x.1, x.2.1, x.2.2.1, x.2.2.2]) 0 4 = ivs [x.1, x.2.1, x.2.2.1, x.2.2.2]) := rfl
  have O1 : Hid (Od (sbV m x)) := HOD.out.sb x
  have O2 : Hid (Od (wrV m num)) := HOD.out.wr num
  have O3 : Hid (Od (rpV m)) := HOD.out.rp
  have HEV : Hid (Vs (ivs [(rpX m).1, (rpX m).2.1, (rpX m).2.2]) 3) := ivs_vs rfl
  have R1 : Hid (rtB (sbV m x) = true) := rt_iff.2 ((rt_iff.1 ht).sb x)
  have R2 : Hid (rtB (wrV m num) = true) := wr_right ht hi.B num
  have R3 : Hid (rtB (rpV m) = true) := rt_iff.2 (rt_iff.1 ht).rp
  rw [sb_refused hs] at HSB O1
  have e1 : (sbC m x != 0) = true := by simpa using hs
  generalize sbC m x = sc at *
  rw [hk, wr_refused hk] at HWK
  rw [wr_refused hk] at O2
  have HTM : Hid (rtB m = true) := ht
  unfold cmV at HSB ⊢
  generalize ivs [x.1, x.2.1, x.2.2.1, x.2.2.2] = X at *
  generalize ivs [(rpX m).1, (rpX m).2.1, (rpX m).2.2] = EV at *
  clear hi hr ht hs hk
  go_enter Try.func4, Try.ntmps4
  repeat' (first | (go_big_may; first | (refine v_box rfl rfl rfl ?_; intro u xm hN; replace hM := hM.new hN (by decide); clear hN) | (refine v_box rfl rfl rfl ?_; intro u xc hN; replace hM := hM.new hN (by decide); clear hN) | (refine v_load rfl rfl row_mach rfl hM.at1 HL0.out HA0.out ?_) | (refine v_load rfl rfl row_cmd rfl hM.at0 HLX.out HAX.out ?_)) | go_values | go_skip | go_guarded | go_step | go_upon | (simp only [Int.not_lt, Int.not_le] at *; go_simp))
  refine (HSB.out _ hM.below).mono ?_
  rintro r u1 ⟨a1, a2, rfl, ht⟩
  have G1 : Hid (Vs (mvl a1 a2 m) 606) := mvl_vs (rcs_one ht.c.rcs) (rcs_one ht.e.rcs) O1.out.B
  have L1 : Hid (0 + 606 ≤ (mvl a1 a2 m).length) := by show _ ≤ _; rw [G1.out.len]; exact Nat.le_refl _
  have A1 : Hid (cv (mvl a1 a2 m) 0 606 = mvl a1 a2 m) := cv_all G1.out.len
  replace hM := (hM.tel ht.c ht.below).add (b := true) (ht.e.mono hM.below.size)
  clear ht
  repeat' (first | (go_big_may; first | (refine v_alloc rfl zer_mach rfl ?_; intro u xa hN; replace hM := hM.new hN (by decide); clear hN) | (refine v_fill rfl rfl row_mach rfl rfl hM.at0 G1.out HZ.out ?_; intro u hv hc; replace hM := hM.put0 hc hv; clear hv hc)) | go_values | go_skip | go_guarded | go_step | go_upon | (simp only [Int.not_lt, Int.not_le] at *; go_simp))
  refine (HLV.out _).mono ?_
  rintro r u2 ⟨rfl, hv⟩
  replace hM := hM.call hv
  clear hv
  repeat' (first | (go_big_may; first | (refine v_load rfl rfl row_mach rfl hM.at0 L1.out A1.out ?_) | (refine v_load rfl rfl row_mach rfl hM.at2 HL0.out HA0.out ?_)) | go_values | go_skip | go_guarded | go_step | go_upon | (simp only [Int.not_lt, Int.not_le] at *; go_simp))
  refine (HSM.out a1 a2 _ (hM.read (b := true) (by simp)) (hM.read (b := true) (by simp)) (hM.read (b := false) (by simp)) (hM.read (b := false) (by simp))).mono ?_
  rintro r u3 ⟨rfl, hv⟩
  replace hM := hM.call hv
  clear hv
  repeat' (first | (go_big_may; first | (refine v_load rfl rfl row_mach rfl hM.at2 HL0.out HA0.out ?_)) | go_values | go_skip | go_guarded | go_step | go_upon | (simp only [Int.not_lt, Int.not_le] at *; go_simp))
  refine (HWK.out _ hM.below).mono ?_
  rintro r u4 ⟨b1, b2, rfl, ht⟩
  have G2 : Hid (Vs (mvl b1 b2 m) 606) := mvl_vs (rcs_one ht.c.rcs) (rcs_one ht.e.rcs) O2.out.B
  have L2 : Hid (0 + 606 ≤ (mvl b1 b2 m).length) := by show _ ≤ _; rw [G2.out.len]; exact Nat.le_refl _
  have A2 : Hid (cv (mvl b1 b2 m) 0 606 = mvl b1 b2 m) := cv_all G2.out.len
  replace hM := (hM.tel ht.c ht.below).add (b := true) (ht.e.mono hM.below.size)
  clear ht
  repeat' (first | (go_big_may; first | (refine v_alloc rfl zer_mach rfl ?_; intro u xb hN; replace hM := hM.new hN (by decide); clear hN) | (refine v_fill rfl rfl row_mach rfl rfl hM.at0 G2.out HZ.out ?_; intro u hv hc; replace hM := hM.put0 hc hv; clear hv hc) | (refine v_load rfl rfl row_mach rfl hM.at3 HL0.out HA0.out ?_)) | go_values | go_skip | go_guarded | go_step | go_upon | (simp only [Int.not_lt, Int.not_le] at *; go_simp))
  refine (HRP.out _ hM.below).mono ?_
  rintro r u5 ⟨c1, c2, rfl, ht⟩
  have G3 : Hid (Vs (mvl c1 c2 (rpV m)) 606) := mvl_vs (rcs_one ht.c.rcs) (rcs_one ht.e.rcs) O3.out.B
  have L3 : Hid (0 + 606 ≤ (mvl c1 c2 (rpV m)).length) := by show _ ≤ _; rw [G3.out.len]; exact Nat.le_refl _
  have A3 : Hid (cv (mvl c1 c2 (rpV m)) 0 606 = mvl c1 c2 (rpV m)) := cv_all G3.out.len
  replace hM := (hM.tel ht.c ht.below).add (b := true) (ht.e.mono hM.below.size)
  clear ht
  repeat' (first | (go_big_may; first | (refine v_alloc rfl zer_mach rfl ?_; intro u xd hN; replace hM := hM.new hN (by decide); clear hN) | (refine v_alloc rfl zer_event rfl ?_; intro u xe hN; replace hM := hM.new hN (by decide); clear hN) | (refine v_fill rfl rfl row_mach rfl rfl hM.at1 G3.out HZ.out ?_; intro u hv hc; replace hM := hM.put1 hc hv; clear hv hc) | (refine v_fill rfl rfl row_event rfl rfl hM.at0 HEV.out HZE.out ?_; intro u hv hc; replace hM := hM.put0 hc hv; clear hv hc) | (refine v_load rfl rfl row_mach rfl hM.at2 L2.out A2.out ?_) | (refine v_load rfl rfl row_mach rfl hM.at5 HL0.out HA0.out ?_)) | go_values | go_skip | go_guarded | go_step | go_upon | (simp only [Int.not_lt, Int.not_le] at *; go_simp))
  refine (HSM.out b1 b2 _ (hM.read (b := true) (by simp)) (hM.read (b := true) (by simp)) (hM.read (b := false) (by simp)) (hM.read (b := false) (by simp))).mono ?_
  rintro r u6 ⟨rfl, hv⟩
  replace hM := hM.call hv
  clear hv
  repeat' (first | (go_big_may; first | (refine v_load rfl rfl row_mach rfl hM.at5 HL0.out HA0.out ?_)) | go_values | go_skip | go_guarded | go_step | go_upon | (simp only [Int.not_lt, Int.not_le] at *; go_simp))
  refine (HMA.out m vc ve _ HOD.out (hM.read (b := false) (by simp)) (hM.read (b := false) (by simp))).mono ?_
  rintro r u8 ⟨rfl, hv⟩
  replace hM := hM.call hv
  clear hv
  rw [HTM.out]
  repeat' (first | (go_big_may; first | (refine v_load rfl rfl row_mach rfl hM.at3 L1.out A1.out ?_)) | go_values | go_skip | go_guarded | go_step | go_upon | (simp only [Int.not_lt, Int.not_le] at *; go_simp))
  refine (HMA.out m a1 a2 _ O1.out (hM.read (b := true) (by simp)) (hM.read (b := true) (by simp))).mono ?_
  rintro r u9 ⟨rfl, hv⟩
  replace hM := hM.call hv
  clear hv
  rw [HTM.out]
  repeat' (first | (go_big_may; first | (refine v_load rfl rfl row_mach rfl hM.at2 L2.out A2.out ?_)) | go_values | go_skip | go_guarded | go_step | go_upon | (simp only [Int.not_lt, Int.not_le] at *; go_simp))
  refine (HMA.out m b1 b2 _ O2.out (hM.read (b := true) (by simp)) (hM.read (b := true) (by simp))).mono ?_
  rintro r u10 ⟨rfl, hv⟩
  replace hM := hM.call hv
  clear hv
  rw [HTM.out]
  repeat' (first | (go_big_may; first | (refine v_load rfl rfl row_mach rfl hM.at1 L3.out A3.out ?_)) | go_values | go_skip | go_guarded | go_step | go_upon | (simp only [Int.not_lt, Int.not_le] at *; go_simp))
  refine (HMA.out (rpV m) c1 c2 _ O3.out (hM.read (b := true) (by simp)) (hM.read (b := true) (by simp))).mono ?_
  rintro r u11 ⟨rfl, hv⟩
  replace hM := hM.call hv
  clear hv
  rw [R3.out]
  repeat' (first | go_values | go_skip | go_guarded | go_step | go_upon | (simp only [Int.not_lt, Int.not_le] at *; go_simp))
  go_ret
  exact ⟨rfl, hM.below⟩
set_option maxHeartbeats 8000000 in
theorem way7 (vc ve : Value) (m : Mc) (x : Cm) (num : Int) (w : World) (hi : In w vc ve m) (hs : sbC m x ≠ 0) (hk : wrN m num ≠ 0) (hr : rpB m = false) (ht : rtB m = true) : Calls Try.prog 4 #[agv (mvl vc ve m), cmV x, .int .i64 num] w fun r w' => r = .returned (.bool true) ∧ Below w.heap.size w w' := by
  have hM : Mv w w [] [(false, vc, m.c.C), (false, ve, m.e.C)] := ((Mv.nil w).old hi.e).old hi.c
  have HOD : Hid (Od m) := ⟨hi.B, hi.wc, hi.we⟩
  have HV : Hid (Vs (mvl vc ve m) 606) := hi.vs
  have HL0 : Hid (0 + 606 ≤ (mvl vc ve m).length) := by show _ ≤ _; rw [hi.vs.len]; exact Nat.le_refl _
  have HA0 : Hid (cv (mvl vc ve m) 0 606 = mvl vc ve m) := cv_all hi.vs.len
  have HZ : Hid (zl.length = 606) := zl_vs.len
  have HZE : Hid ((ivs [0, 0, 0]).length = 3) := rfl
  have HSB : Hid (∀ u, Below w.heap.size w u → Calls Try.prog 8 #[agv (mvl vc ve m), cmV x] u fun e w' => ∃ vc' ve', e = .returned (.tuple #[agv (mvl vc' ve' (sbV m x)), .int .i64 (sbC m x)]) ∧ Tl u vc' ve' (sbV m x) w') := fun u hb => submit_any vc ve m x u (hi.below hb)
  have HWK : Hid (∀ u, Below w.heap.size w u → Calls Try.prog 6 #[agv (mvl vc ve m), .int .i64 num] u fun e w' => ∃ vc' ve', e = .returned (.tuple #[agv (mvl vc' ve' (wrV m num)), .int .i64 (wrN m num)]) ∧ Tl u vc' ve' (wrV m num) w') := fun u hb => work_any vc ve m num u (hi.below hb)
  have HRP : Hid (∀ u, Below w.heap.size w u → Calls Try.prog 9 #[agv (mvl vc ve m)] u fun e w' => ∃ vc' ve', e = .returned (.tuple #[agv (mvl vc' ve' (rpV m)), agv (ivs [(rpX m).1, (rpX m).2.1, (rpX m).2.2]), .bool false]) ∧ Tl u vc' ve' (rpV m) w') := fun u hb => by
    have := reap_any vc ve m u (hi.below hb)
    rw [hr] at this
    exact this
  have HLV : Hid (∀ u, Calls Try.prog 5 #[] u fun e w' => e = .returned (.bool true) ∧ Below u.heap.size u w') := lives_any
  have HSM : Hid (∀ v1 v2 u, Rcs u v1 m.c.C → Rcs u v2 m.e.C → Rcs u vc m.c.C → Rcs u ve m.e.C → Calls Try.prog 7 #[agv (mvl v1 v2 m), agv (mvl vc ve m)] u fun e w' => e = .returned (.bool true) ∧ Below u.heap.size u w') := fun v1 v2 u h1 h2 h3 h4 => same_mc v1 v2 vc ve m u h1 h2 h3 h4 hi.B
  have HMA : Hid (∀ (M : Mc) v1 v2 u, Od M → Rcs u v1 M.c.C → Rcs u v2 M.e.C → Calls Try.prog 10 #[agv (mvl v1 v2 M)] u fun e w' => e = .returned (.bool (rtB M)) ∧ Below u.heap.size u w') := fun M v1 v2 u hO h1 h2 => machine_any v1 v2 M u h1 h2 hO.B hO.wc hO.we
  have HLX : Hid (0 + 4 ≤ (ivs [x.1, x.2.1, x.2.2.1, x.2.2.2]).length) := Nat.le_refl _
  have HAX : Hid (cv (ivs [x.1, x.2.1, x.2.2.1, x.2.2.2]) 0 4 = ivs [x.1, x.2.1, x.2.2.1, x.2.2.2]) := rfl
  have O1 : Hid (Od (sbV m x)) := HOD.out.sb x
  have O2 : Hid (Od (wrV m num)) := HOD.out.wr num
  have O3 : Hid (Od (rpV m)) := HOD.out.rp
  have HEV : Hid (Vs (ivs [(rpX m).1, (rpX m).2.1, (rpX m).2.2]) 3) := ivs_vs rfl
  have R1 : Hid (rtB (sbV m x) = true) := rt_iff.2 ((rt_iff.1 ht).sb x)
  have R2 : Hid (rtB (wrV m num) = true) := wr_right ht hi.B num
  have R3 : Hid (rtB (rpV m) = true) := rt_iff.2 (rt_iff.1 ht).rp
  rw [sb_refused hs] at HSB O1
  have e1 : (sbC m x != 0) = true := by simpa using hs
  generalize sbC m x = sc at *
  have e2 : (wrN m num == 0) = false := by simpa using hk
  generalize wrN m num = wn at *
  rw [rp_refused hr] at HRP O3
  have HTM : Hid (rtB m = true) := ht
  unfold cmV at HSB ⊢
  generalize ivs [x.1, x.2.1, x.2.2.1, x.2.2.2] = X at *
  generalize ivs [(rpX m).1, (rpX m).2.1, (rpX m).2.2] = EV at *
  clear hi hr ht hs hk
  go_enter Try.func4, Try.ntmps4
  repeat' (first | (go_big_may; first | (refine v_box rfl rfl rfl ?_; intro u xm hN; replace hM := hM.new hN (by decide); clear hN) | (refine v_box rfl rfl rfl ?_; intro u xc hN; replace hM := hM.new hN (by decide); clear hN) | (refine v_load rfl rfl row_mach rfl hM.at1 HL0.out HA0.out ?_) | (refine v_load rfl rfl row_cmd rfl hM.at0 HLX.out HAX.out ?_)) | go_values | go_skip | go_guarded | go_step | go_upon | (simp only [Int.not_lt, Int.not_le] at *; go_simp))
  refine (HSB.out _ hM.below).mono ?_
  rintro r u1 ⟨a1, a2, rfl, ht⟩
  have G1 : Hid (Vs (mvl a1 a2 m) 606) := mvl_vs (rcs_one ht.c.rcs) (rcs_one ht.e.rcs) O1.out.B
  have L1 : Hid (0 + 606 ≤ (mvl a1 a2 m).length) := by show _ ≤ _; rw [G1.out.len]; exact Nat.le_refl _
  have A1 : Hid (cv (mvl a1 a2 m) 0 606 = mvl a1 a2 m) := cv_all G1.out.len
  replace hM := (hM.tel ht.c ht.below).add (b := true) (ht.e.mono hM.below.size)
  clear ht
  repeat' (first | (go_big_may; first | (refine v_alloc rfl zer_mach rfl ?_; intro u xa hN; replace hM := hM.new hN (by decide); clear hN) | (refine v_fill rfl rfl row_mach rfl rfl hM.at0 G1.out HZ.out ?_; intro u hv hc; replace hM := hM.put0 hc hv; clear hv hc)) | go_values | go_skip | go_guarded | go_step | go_upon | (simp only [Int.not_lt, Int.not_le] at *; go_simp))
  refine (HLV.out _).mono ?_
  rintro r u2 ⟨rfl, hv⟩
  replace hM := hM.call hv
  clear hv
  repeat' (first | (go_big_may; first | (refine v_load rfl rfl row_mach rfl hM.at0 L1.out A1.out ?_) | (refine v_load rfl rfl row_mach rfl hM.at2 HL0.out HA0.out ?_)) | go_values | go_skip | go_guarded | go_step | go_upon | (simp only [Int.not_lt, Int.not_le] at *; go_simp))
  refine (HSM.out a1 a2 _ (hM.read (b := true) (by simp)) (hM.read (b := true) (by simp)) (hM.read (b := false) (by simp)) (hM.read (b := false) (by simp))).mono ?_
  rintro r u3 ⟨rfl, hv⟩
  replace hM := hM.call hv
  clear hv
  repeat' (first | (go_big_may; first | (refine v_load rfl rfl row_mach rfl hM.at2 HL0.out HA0.out ?_)) | go_values | go_skip | go_guarded | go_step | go_upon | (simp only [Int.not_lt, Int.not_le] at *; go_simp))
  refine (HWK.out _ hM.below).mono ?_
  rintro r u4 ⟨b1, b2, rfl, ht⟩
  have G2 : Hid (Vs (mvl b1 b2 (wrV m num)) 606) := mvl_vs (rcs_one ht.c.rcs) (rcs_one ht.e.rcs) O2.out.B
  have L2 : Hid (0 + 606 ≤ (mvl b1 b2 (wrV m num)).length) := by show _ ≤ _; rw [G2.out.len]; exact Nat.le_refl _
  have A2 : Hid (cv (mvl b1 b2 (wrV m num)) 0 606 = mvl b1 b2 (wrV m num)) := cv_all G2.out.len
  replace hM := (hM.tel ht.c ht.below).add (b := true) (ht.e.mono hM.below.size)
  clear ht
  repeat' (first | (go_big_may; first | (refine v_alloc rfl zer_mach rfl ?_; intro u xb hN; replace hM := hM.new hN (by decide); clear hN) | (refine v_fill rfl rfl row_mach rfl rfl hM.at0 G2.out HZ.out ?_; intro u hv hc; replace hM := hM.put0 hc hv; clear hv hc) | (refine v_load rfl rfl row_mach rfl hM.at3 HL0.out HA0.out ?_)) | go_values | go_skip | go_guarded | go_step | go_upon | (simp only [Int.not_lt, Int.not_le] at *; go_simp))
  refine (HRP.out _ hM.below).mono ?_
  rintro r u5 ⟨c1, c2, rfl, ht⟩
  have G3 : Hid (Vs (mvl c1 c2 m) 606) := mvl_vs (rcs_one ht.c.rcs) (rcs_one ht.e.rcs) O3.out.B
  have L3 : Hid (0 + 606 ≤ (mvl c1 c2 m).length) := by show _ ≤ _; rw [G3.out.len]; exact Nat.le_refl _
  have A3 : Hid (cv (mvl c1 c2 m) 0 606 = mvl c1 c2 m) := cv_all G3.out.len
  replace hM := (hM.tel ht.c ht.below).add (b := true) (ht.e.mono hM.below.size)
  clear ht
  repeat' (first | (go_big_may; first | (refine v_alloc rfl zer_mach rfl ?_; intro u xd hN; replace hM := hM.new hN (by decide); clear hN) | (refine v_alloc rfl zer_event rfl ?_; intro u xe hN; replace hM := hM.new hN (by decide); clear hN) | (refine v_fill rfl rfl row_mach rfl rfl hM.at1 G3.out HZ.out ?_; intro u hv hc; replace hM := hM.put1 hc hv; clear hv hc) | (refine v_fill rfl rfl row_event rfl rfl hM.at0 HEV.out HZE.out ?_; intro u hv hc; replace hM := hM.put0 hc hv; clear hv hc) | (refine v_load rfl rfl row_mach rfl hM.at1 L3.out A3.out ?_) | (refine v_load rfl rfl row_mach rfl hM.at5 HL0.out HA0.out ?_)) | go_values | go_skip | go_guarded | go_step | go_upon | (simp only [Int.not_lt, Int.not_le] at *; go_simp))
  refine (HSM.out c1 c2 _ (hM.read (b := true) (by simp)) (hM.read (b := true) (by simp)) (hM.read (b := false) (by simp)) (hM.read (b := false) (by simp))).mono ?_
  rintro r u7 ⟨rfl, hv⟩
  replace hM := hM.call hv
  clear hv
  repeat' (first | (go_big_may; first | (refine v_load rfl rfl row_mach rfl hM.at5 HL0.out HA0.out ?_)) | go_values | go_skip | go_guarded | go_step | go_upon | (simp only [Int.not_lt, Int.not_le] at *; go_simp))
  refine (HMA.out m vc ve _ HOD.out (hM.read (b := false) (by simp)) (hM.read (b := false) (by simp))).mono ?_
  rintro r u8 ⟨rfl, hv⟩
  replace hM := hM.call hv
  clear hv
  rw [HTM.out]
  repeat' (first | (go_big_may; first | (refine v_load rfl rfl row_mach rfl hM.at3 L1.out A1.out ?_)) | go_values | go_skip | go_guarded | go_step | go_upon | (simp only [Int.not_lt, Int.not_le] at *; go_simp))
  refine (HMA.out m a1 a2 _ O1.out (hM.read (b := true) (by simp)) (hM.read (b := true) (by simp))).mono ?_
  rintro r u9 ⟨rfl, hv⟩
  replace hM := hM.call hv
  clear hv
  rw [HTM.out]
  repeat' (first | (go_big_may; first | (refine v_load rfl rfl row_mach rfl hM.at2 L2.out A2.out ?_)) | go_values | go_skip | go_guarded | go_step | go_upon | (simp only [Int.not_lt, Int.not_le] at *; go_simp))
  refine (HMA.out (wrV m num) b1 b2 _ O2.out (hM.read (b := true) (by simp)) (hM.read (b := true) (by simp))).mono ?_
  rintro r u10 ⟨rfl, hv⟩
  replace hM := hM.call hv
  clear hv
  rw [R2.out]
  repeat' (first | (go_big_may; first | (refine v_load rfl rfl row_mach rfl hM.at1 L3.out A3.out ?_)) | go_values | go_skip | go_guarded | go_step | go_upon | (simp only [Int.not_lt, Int.not_le] at *; go_simp))
  refine (HMA.out m c1 c2 _ O3.out (hM.read (b := true) (by simp)) (hM.read (b := true) (by simp))).mono ?_
  rintro r u11 ⟨rfl, hv⟩
  replace hM := hM.call hv
  clear hv
  rw [HTM.out]
  repeat' (first | go_values | go_skip | go_guarded | go_step | go_upon | (simp only [Int.not_lt, Int.not_le] at *; go_simp))
  go_ret
  exact ⟨rfl, hM.below⟩
set_option maxHeartbeats 8000000 in
theorem way8 (vc ve : Value) (m : Mc) (x : Cm) (num : Int) (w : World) (hi : In w vc ve m) (hs : sbC m x ≠ 0) (hk : wrN m num ≠ 0) (hr : rpB m = true) (ht : rtB m = true) : Calls Try.prog 4 #[agv (mvl vc ve m), cmV x, .int .i64 num] w fun r w' => r = .returned (.bool true) ∧ Below w.heap.size w w' := by
  have hM : Mv w w [] [(false, vc, m.c.C), (false, ve, m.e.C)] := ((Mv.nil w).old hi.e).old hi.c
  have HOD : Hid (Od m) := ⟨hi.B, hi.wc, hi.we⟩
  have HV : Hid (Vs (mvl vc ve m) 606) := hi.vs
  have HL0 : Hid (0 + 606 ≤ (mvl vc ve m).length) := by show _ ≤ _; rw [hi.vs.len]; exact Nat.le_refl _
  have HA0 : Hid (cv (mvl vc ve m) 0 606 = mvl vc ve m) := cv_all hi.vs.len
  have HZ : Hid (zl.length = 606) := zl_vs.len
  have HZE : Hid ((ivs [0, 0, 0]).length = 3) := rfl
  have HSB : Hid (∀ u, Below w.heap.size w u → Calls Try.prog 8 #[agv (mvl vc ve m), cmV x] u fun e w' => ∃ vc' ve', e = .returned (.tuple #[agv (mvl vc' ve' (sbV m x)), .int .i64 (sbC m x)]) ∧ Tl u vc' ve' (sbV m x) w') := fun u hb => submit_any vc ve m x u (hi.below hb)
  have HWK : Hid (∀ u, Below w.heap.size w u → Calls Try.prog 6 #[agv (mvl vc ve m), .int .i64 num] u fun e w' => ∃ vc' ve', e = .returned (.tuple #[agv (mvl vc' ve' (wrV m num)), .int .i64 (wrN m num)]) ∧ Tl u vc' ve' (wrV m num) w') := fun u hb => work_any vc ve m num u (hi.below hb)
  have HRP : Hid (∀ u, Below w.heap.size w u → Calls Try.prog 9 #[agv (mvl vc ve m)] u fun e w' => ∃ vc' ve', e = .returned (.tuple #[agv (mvl vc' ve' (rpV m)), agv (ivs [(rpX m).1, (rpX m).2.1, (rpX m).2.2]), .bool true]) ∧ Tl u vc' ve' (rpV m) w') := fun u hb => by
    have := reap_any vc ve m u (hi.below hb)
    rw [hr] at this
    exact this
  have HLV : Hid (∀ u, Calls Try.prog 5 #[] u fun e w' => e = .returned (.bool true) ∧ Below u.heap.size u w') := lives_any
  have HSM : Hid (∀ v1 v2 u, Rcs u v1 m.c.C → Rcs u v2 m.e.C → Rcs u vc m.c.C → Rcs u ve m.e.C → Calls Try.prog 7 #[agv (mvl v1 v2 m), agv (mvl vc ve m)] u fun e w' => e = .returned (.bool true) ∧ Below u.heap.size u w') := fun v1 v2 u h1 h2 h3 h4 => same_mc v1 v2 vc ve m u h1 h2 h3 h4 hi.B
  have HMA : Hid (∀ (M : Mc) v1 v2 u, Od M → Rcs u v1 M.c.C → Rcs u v2 M.e.C → Calls Try.prog 10 #[agv (mvl v1 v2 M)] u fun e w' => e = .returned (.bool (rtB M)) ∧ Below u.heap.size u w') := fun M v1 v2 u hO h1 h2 => machine_any v1 v2 M u h1 h2 hO.B hO.wc hO.we
  have HLX : Hid (0 + 4 ≤ (ivs [x.1, x.2.1, x.2.2.1, x.2.2.2]).length) := Nat.le_refl _
  have HAX : Hid (cv (ivs [x.1, x.2.1, x.2.2.1, x.2.2.2]) 0 4 = ivs [x.1, x.2.1, x.2.2.1, x.2.2.2]) := rfl
  have O1 : Hid (Od (sbV m x)) := HOD.out.sb x
  have O2 : Hid (Od (wrV m num)) := HOD.out.wr num
  have O3 : Hid (Od (rpV m)) := HOD.out.rp
  have HEV : Hid (Vs (ivs [(rpX m).1, (rpX m).2.1, (rpX m).2.2]) 3) := ivs_vs rfl
  have R1 : Hid (rtB (sbV m x) = true) := rt_iff.2 ((rt_iff.1 ht).sb x)
  have R2 : Hid (rtB (wrV m num) = true) := wr_right ht hi.B num
  have R3 : Hid (rtB (rpV m) = true) := rt_iff.2 (rt_iff.1 ht).rp
  rw [sb_refused hs] at HSB O1
  have e1 : (sbC m x != 0) = true := by simpa using hs
  generalize sbC m x = sc at *
  have e2 : (wrN m num == 0) = false := by simpa using hk
  generalize wrN m num = wn at *
  have HTM : Hid (rtB m = true) := ht
  unfold cmV at HSB ⊢
  generalize ivs [x.1, x.2.1, x.2.2.1, x.2.2.2] = X at *
  generalize ivs [(rpX m).1, (rpX m).2.1, (rpX m).2.2] = EV at *
  clear hi hr ht hs hk
  go_enter Try.func4, Try.ntmps4
  repeat' (first | (go_big_may; first | (refine v_box rfl rfl rfl ?_; intro u xm hN; replace hM := hM.new hN (by decide); clear hN) | (refine v_box rfl rfl rfl ?_; intro u xc hN; replace hM := hM.new hN (by decide); clear hN) | (refine v_load rfl rfl row_mach rfl hM.at1 HL0.out HA0.out ?_) | (refine v_load rfl rfl row_cmd rfl hM.at0 HLX.out HAX.out ?_)) | go_values | go_skip | go_guarded | go_step | go_upon | (simp only [Int.not_lt, Int.not_le] at *; go_simp))
  refine (HSB.out _ hM.below).mono ?_
  rintro r u1 ⟨a1, a2, rfl, ht⟩
  have G1 : Hid (Vs (mvl a1 a2 m) 606) := mvl_vs (rcs_one ht.c.rcs) (rcs_one ht.e.rcs) O1.out.B
  have L1 : Hid (0 + 606 ≤ (mvl a1 a2 m).length) := by show _ ≤ _; rw [G1.out.len]; exact Nat.le_refl _
  have A1 : Hid (cv (mvl a1 a2 m) 0 606 = mvl a1 a2 m) := cv_all G1.out.len
  replace hM := (hM.tel ht.c ht.below).add (b := true) (ht.e.mono hM.below.size)
  clear ht
  repeat' (first | (go_big_may; first | (refine v_alloc rfl zer_mach rfl ?_; intro u xa hN; replace hM := hM.new hN (by decide); clear hN) | (refine v_fill rfl rfl row_mach rfl rfl hM.at0 G1.out HZ.out ?_; intro u hv hc; replace hM := hM.put0 hc hv; clear hv hc)) | go_values | go_skip | go_guarded | go_step | go_upon | (simp only [Int.not_lt, Int.not_le] at *; go_simp))
  refine (HLV.out _).mono ?_
  rintro r u2 ⟨rfl, hv⟩
  replace hM := hM.call hv
  clear hv
  repeat' (first | (go_big_may; first | (refine v_load rfl rfl row_mach rfl hM.at0 L1.out A1.out ?_) | (refine v_load rfl rfl row_mach rfl hM.at2 HL0.out HA0.out ?_)) | go_values | go_skip | go_guarded | go_step | go_upon | (simp only [Int.not_lt, Int.not_le] at *; go_simp))
  refine (HSM.out a1 a2 _ (hM.read (b := true) (by simp)) (hM.read (b := true) (by simp)) (hM.read (b := false) (by simp)) (hM.read (b := false) (by simp))).mono ?_
  rintro r u3 ⟨rfl, hv⟩
  replace hM := hM.call hv
  clear hv
  repeat' (first | (go_big_may; first | (refine v_load rfl rfl row_mach rfl hM.at2 HL0.out HA0.out ?_)) | go_values | go_skip | go_guarded | go_step | go_upon | (simp only [Int.not_lt, Int.not_le] at *; go_simp))
  refine (HWK.out _ hM.below).mono ?_
  rintro r u4 ⟨b1, b2, rfl, ht⟩
  have G2 : Hid (Vs (mvl b1 b2 (wrV m num)) 606) := mvl_vs (rcs_one ht.c.rcs) (rcs_one ht.e.rcs) O2.out.B
  have L2 : Hid (0 + 606 ≤ (mvl b1 b2 (wrV m num)).length) := by show _ ≤ _; rw [G2.out.len]; exact Nat.le_refl _
  have A2 : Hid (cv (mvl b1 b2 (wrV m num)) 0 606 = mvl b1 b2 (wrV m num)) := cv_all G2.out.len
  replace hM := (hM.tel ht.c ht.below).add (b := true) (ht.e.mono hM.below.size)
  clear ht
  repeat' (first | (go_big_may; first | (refine v_alloc rfl zer_mach rfl ?_; intro u xb hN; replace hM := hM.new hN (by decide); clear hN) | (refine v_fill rfl rfl row_mach rfl rfl hM.at0 G2.out HZ.out ?_; intro u hv hc; replace hM := hM.put0 hc hv; clear hv hc) | (refine v_load rfl rfl row_mach rfl hM.at3 HL0.out HA0.out ?_)) | go_values | go_skip | go_guarded | go_step | go_upon | (simp only [Int.not_lt, Int.not_le] at *; go_simp))
  refine (HRP.out _ hM.below).mono ?_
  rintro r u5 ⟨c1, c2, rfl, ht⟩
  have G3 : Hid (Vs (mvl c1 c2 (rpV m)) 606) := mvl_vs (rcs_one ht.c.rcs) (rcs_one ht.e.rcs) O3.out.B
  have L3 : Hid (0 + 606 ≤ (mvl c1 c2 (rpV m)).length) := by show _ ≤ _; rw [G3.out.len]; exact Nat.le_refl _
  have A3 : Hid (cv (mvl c1 c2 (rpV m)) 0 606 = mvl c1 c2 (rpV m)) := cv_all G3.out.len
  replace hM := (hM.tel ht.c ht.below).add (b := true) (ht.e.mono hM.below.size)
  clear ht
  repeat' (first | (go_big_may; first | (refine v_alloc rfl zer_mach rfl ?_; intro u xd hN; replace hM := hM.new hN (by decide); clear hN) | (refine v_alloc rfl zer_event rfl ?_; intro u xe hN; replace hM := hM.new hN (by decide); clear hN) | (refine v_fill rfl rfl row_mach rfl rfl hM.at1 G3.out HZ.out ?_; intro u hv hc; replace hM := hM.put1 hc hv; clear hv hc) | (refine v_fill rfl rfl row_event rfl rfl hM.at0 HEV.out HZE.out ?_; intro u hv hc; replace hM := hM.put0 hc hv; clear hv hc) | (refine v_load rfl rfl row_mach rfl hM.at5 HL0.out HA0.out ?_)) | go_values | go_skip | go_guarded | go_step | go_upon | (simp only [Int.not_lt, Int.not_le] at *; go_simp))
  refine (HMA.out m vc ve _ HOD.out (hM.read (b := false) (by simp)) (hM.read (b := false) (by simp))).mono ?_
  rintro r u8 ⟨rfl, hv⟩
  replace hM := hM.call hv
  clear hv
  rw [HTM.out]
  repeat' (first | (go_big_may; first | (refine v_load rfl rfl row_mach rfl hM.at3 L1.out A1.out ?_)) | go_values | go_skip | go_guarded | go_step | go_upon | (simp only [Int.not_lt, Int.not_le] at *; go_simp))
  refine (HMA.out m a1 a2 _ O1.out (hM.read (b := true) (by simp)) (hM.read (b := true) (by simp))).mono ?_
  rintro r u9 ⟨rfl, hv⟩
  replace hM := hM.call hv
  clear hv
  rw [HTM.out]
  repeat' (first | (go_big_may; first | (refine v_load rfl rfl row_mach rfl hM.at2 L2.out A2.out ?_)) | go_values | go_skip | go_guarded | go_step | go_upon | (simp only [Int.not_lt, Int.not_le] at *; go_simp))
  refine (HMA.out (wrV m num) b1 b2 _ O2.out (hM.read (b := true) (by simp)) (hM.read (b := true) (by simp))).mono ?_
  rintro r u10 ⟨rfl, hv⟩
  replace hM := hM.call hv
  clear hv
  rw [R2.out]
  repeat' (first | (go_big_may; first | (refine v_load rfl rfl row_mach rfl hM.at1 L3.out A3.out ?_)) | go_values | go_skip | go_guarded | go_step | go_upon | (simp only [Int.not_lt, Int.not_le] at *; go_simp))
  refine (HMA.out (rpV m) c1 c2 _ O3.out (hM.read (b := true) (by simp)) (hM.read (b := true) (by simp))).mono ?_
  rintro r u11 ⟨rfl, hv⟩
  replace hM := hM.call hv
  clear hv
  rw [R3.out]
  repeat' (first | go_values | go_skip | go_guarded | go_step | go_upon | (simp only [Int.not_lt, Int.not_le] at *; go_simp))
  go_ret
  exact ⟨rfl, hM.below⟩
theorem walk (vc ve : Value) (m : Mc) (k n e a : Int) (num : Int) (wn : (Lit.int .i64 num).wf = true) (w : World) (hp : Hd w vc ve m) (hk : m.c.C.length * 24 ≤ reachBytes ∧ m.e.C.length * 24 ≤ reachBytes) (hc : InB k n e a) : Calls Try.prog 4 #[agv (mvl vc ve m), ag [k, n, e, a], .int .i64 num] w fun r w' => r = .returned (.bool true) ∧ Below w.heap.size w w' := by
  have hi := hp.inn hk
  show Calls Try.prog 4 #[agv (mvl vc ve m), cmV (k, n, e, a), .int .i64 num] w _
  cases ht : rtB m
  · have h1 : sbC m (k, n, e, a) ≠ 0 := by unfold sbC; rw [if_pos ht]; decide
    have h2 : wrN m num = 0 := by unfold wrN wkB; rw [ht]; rfl
    have h3 : rpB m = false := by unfold rpB; rw [ht]; rfl
    exact way0 vc ve m _ num w hi h1 h2 h3 ht
  by_cases h1 : sbC m (k, n, e, a) = 0 <;> by_cases h2 : wrN m num = 0 <;> cases h3 : rpB m
  · exact way1 vc ve m _ num w hi h1 h2 h3 ht
  · exact way2 vc ve m _ num w hi h1 h2 h3 ht
  · exact way3 vc ve m _ num w hi h1 h2 h3 ht
  · exact way4 vc ve m _ num w hi h1 h2 h3 ht
  · exact way5 vc ve m _ num w hi h1 h2 h3 ht
  · exact way6 vc ve m _ num w hi h1 h2 h3 ht
  · exact way7 vc ve m _ num w hi h1 h2 h3 ht
  · exact way8 vc ve m _ num w hi h1 h2 h3 ht
end Go.Proofs.Ythjmcopknkemnab.hostRight
