/- host: what Work answers. -/
import Derived.Test.YthjmcopknkemnaaHstF
namespace Go.Proofs.Ythjmcopknkemnaa.host
open Go Go.RowKit
open Go.Proofs.Ythjmcopknkemnaa
open Go.Proofs.Ythjmcopknkemnaa.slots (Row row_board row_cmd Chg ag fl Wf bsq)
open Go.Proofs.Ythjmcopknkemnaa.ring (Ces Rcs rgV rgW Rg Ce ceV named keep)
set_option linter.unusedVariables false
set_option linter.unusedSimpArgs false
set_option maxRecDepth 100000

theorem putL_ws {r : Rg} {x : Int} (h : Ws r.C) (h0 : 0 ≤ x) (h1 : x < 18446744073709551616) : Ws (ring.putL r x) := by
  have hs : ∀ (L : List Ce) (j : Nat) (y : Ce), Ws L → 0 ≤ y.1 ∧ y.1 < 18446744073709551616 → Ws (L.set j y) := by
    intro L j y h1 h2 z hz
    rcases List.mem_or_eq_of_mem_set hz with q | q
    · exact h1 z q
    · rw [q]; exact h2
  unfold ring.putL
  split
  · exact hs _ _ _ (hs _ _ _ h ⟨h0, h1⟩) ⟨by simp, by simp⟩
  · exact hs _ _ _ h ⟨h0, h1⟩
/-- what a machine that is worked on keeps -/
structure Fit (m : Mc) : Prop where
  r : rtB m = true
  B : Wf m.B
  wc : Ws m.c.C
  we : Ws m.e.C
theorem Fit.l1 {m : Mc} (h : Fit m) : m.c.C.length ≤ 5864062014634 := by have := (rt_iff.1 h.r).c.n64; omega
theorem Fit.l2 {m : Mc} (h : Fit m) : m.e.C.length ≤ 5864062014634 := by have := (rt_iff.1 h.r).e.n64; omega
theorem Fit.inn {w : World} {vc ve : Value} {m : Mc} (h : Fit m) (hc : Rcs w vc m.c.C) (he : Rcs w ve m.e.C) : In w vc ve m := ⟨hc, he, h.B, h.wc, h.we, h.l1, h.l2⟩
theorem Fit.st {m : Mc} (h : Fit m) : Fit (stV m) := by
  have hR := rt_iff.1 h.r
  have hp := evW_in hR.sm
  exact ⟨rt_iff.2 (hR.st h.B), slots.do_wf h.B, h.wc, putL_ws h.we hp.1 (by omega)⟩
theorem Fit.wk : ∀ (n : Nat) {m : Mc}, Fit m → Fit (wkV n m)
  | 0, m, h => h
  | n + 1, m, h => by
    unfold wkV
    split
    · exact Fit.wk n h.st
    · exact h
theorem wk_at {n : Nat} {m : Mc} : wkV (n + 1) m = if stB m = true then wkV n (stV m) else m := rfl
theorem wn_at {n : Nat} {m : Mc} : wkN (n + 1) m = if stB m = true then wkN n (stV m) + 1 else 0 := rfl
theorem wn_le : ∀ (n : Nat) (m : Mc), wkN n m ≤ n
  | 0, _ => Nat.le_refl _
  | n + 1, m => by
    rw [wn_at]
    split
    · have := wn_le n (stV m); omega
    · omega
/-- where Work is in its rounds -/
structure Wi (w wr : World) (xm xr : Nat) (m : Mc) (n k : Nat) (M : Mc) : Prop where
  ex : ∃ L : List Bk, ∃ R : List (Bool × Value × List Ce), ∃ vc ve, Mv w wr ((xr, 43, zl) :: (xm, 43, mvl vc ve M) :: L) ((true, vc, M.c.C) :: (true, ve, M.e.C) :: R)
  fit : Fit M
  v : wkV n m = wkV (n - k) M
  c : wkN n m = k + wkN (n - k) M
set_option maxHeartbeats 8000000 in
theorem work_any (vc ve : Value) (m : Mc) (n : Int) (w : World) (hi : In w vc ve m) :
    Calls Try.prog 16 #[agv (mvl vc ve m), .int .i64 n] w fun e w' => ∃ vc' ve', e = .returned (.tuple #[agv (mvl vc' ve' (wrV m n)), .int .i64 (wrN m n)]) ∧ Tl w vc' ve' (wrV m n) w' := by
  have hM : Mv w w [] [(false, vc, m.c.C), (false, ve, m.e.C)] := ((Mv.nil w).old hi.e).old hi.c
  have HV : Hid (Vs (mvl vc ve m) 606) := hi.vs
  have HL0 : Hid (0 + 606 ≤ (mvl vc ve m).length) := by show _ ≤ _; rw [hi.vs.len]; exact Nat.le_refl _
  have HA0 : Hid (cv (mvl vc ve m) 0 606 = mvl vc ve m) := cv_all hi.vs.len
  have HCP : Hid (∀ u, Below w.heap.size w u → Calls Try.prog 35 #[agv (mvl vc ve m)] u fun e w' => ∃ vc' ve', e = .returned (agv (mvl vc' ve' m)) ∧ Tl u vc' ve' m w') := fun u hb => copied_any vc ve m u (hi.c.below hb) (hi.e.below hb) hi.B hi.l1 hi.l2
  have HIR : Hid (∀ v1 v2 u, Rcs u v1 m.c.C → Rcs u v2 m.e.C → Calls Try.prog 36 #[agv (mvl v1 v2 m)] u fun e w' => e = .returned (.bool (rtB m)) ∧ Below u.heap.size u w') := fun v1 v2 u h1 h2 => isRight_any v1 v2 m u h1 h2 hi.B hi.wc hi.we
  have HVS : Hid (∀ (u : World) v1 v2, Rcs u v1 m.c.C → Rcs u v2 m.e.C → Vs (mvl v1 v2 m) 606) := fun u v1 v2 h1 h2 => mvl_vs (rcs_one h1) (rcs_one h2) hi.B
  have HZ : Hid (zl.length = 606) := zl_vs.len
  have HFT : Hid (rtB m = true → Fit m) := fun h => ⟨h, hi.B, hi.wc, hi.we⟩
  clear hi
  by_cases hn : ¬ (1 ≤ n ∧ n ≤ 1000)
  · have HQ : Hid (wrV m n = m ∧ wrN m n = 0) := by
      have : wkB m n = false := by unfold wkB; cases rtB m <;> simp; omega
      unfold wrV wrN; rw [this]; exact ⟨rfl, rfl⟩
    rw [HQ.out.1, HQ.out.2]
    have hn2 : n < 1 ∨ 1000 < n := by omega
    clear hn HFT HQ
    rcases hn2 with h | h
    all_goals
      go_enter Try.func16, Try.ntmps16
      repeat' (first | (go_big_may; first | (refine v_box rfl rfl rfl ?_; intro u xm hN; replace hM := hM.new hN (by decide); clear hN) | (refine v_alloc rfl zer_mach rfl ?_; intro u xr hN; replace hM := hM.new hN (by decide); clear hN) | (refine v_load rfl rfl row_mach rfl hM.at1 HL0.out HA0.out ?_)) | go_values | go_skip | go_guarded | go_step | go_upon | (simp only [Int.not_lt, Int.not_le] at *; go_simp))
      refine (HCP.out _ hM.below).mono ?_
      rintro r u1 ⟨v1, v2, rfl, ht⟩
      replace hM := (hM.tel ht.c ht.below).add (b := true) (ht.e.mono hM.below.size)
      clear ht
      have H2 : Hid (Vs (mvl v1 v2 m) 606) := HVS.out _ _ _ (hM.read (b := true) (by simp)) (hM.read (b := true) (by simp))
      have HL2 : Hid (0 + 606 ≤ (mvl v1 v2 m).length) := by show _ ≤ _; rw [H2.out.len]; exact Nat.le_refl _
      have HA2 : Hid (cv (mvl v1 v2 m) 0 606 = mvl v1 v2 m) := cv_all H2.out.len
      repeat' (first | (go_big_may; first | (refine v_fill rfl rfl row_mach rfl rfl hM.at1 H2.out HV.out.len ?_; intro u hv hc; replace hM := hM.put1 hc hv; clear hv hc) | (refine v_load rfl rfl row_mach rfl hM.at1 HL2.out HA2.out ?_) | (refine v_fill rfl rfl row_mach rfl rfl hM.at0 H2.out HZ.out ?_; intro u hv hc; replace hM := hM.put0 hc hv; clear hv hc)) | go_values | go_skip | go_guarded | go_step | go_upon | (simp only [Int.not_lt, Int.not_le] at *; go_simp))
      exact bodyPost_ret (slots.ret_2 Try.results16 rfl (ld_var row_mach hM.at0 H2.out.len) rfl) rfl ⟨_, _, rfl, hM.mine (by simp), hM.mine (by simp), hM.below⟩
  have hn : 1 ≤ n ∧ n ≤ 1000 := Classical.not_not.1 hn
  cases hR : rtB m
  · have HQ : Hid (wrV m n = m ∧ wrN m n = 0) := by
      have : wkB m n = false := by unfold wkB; rw [hR]; rfl
      unfold wrV wrN; rw [this]; exact ⟨rfl, rfl⟩
    rw [HQ.out.1, HQ.out.2]
    rw [hR] at HIR
    have e1 : decide (n < 1) = false := by simp; omega
    have e2 : decide (1000 < n) = false := by simp; omega
    clear HFT HQ hR hn
    go_enter Try.func16, Try.ntmps16
    repeat' (first | (go_big_may; first | (refine v_box rfl rfl rfl ?_; intro u xm hN; replace hM := hM.new hN (by decide); clear hN) | (refine v_alloc rfl zer_mach rfl ?_; intro u xr hN; replace hM := hM.new hN (by decide); clear hN) | (refine v_load rfl rfl row_mach rfl hM.at1 HL0.out HA0.out ?_)) | go_values | go_skip | go_guarded | go_step | go_upon | (simp only [Int.not_lt, Int.not_le] at *; go_simp))
    refine (HCP.out _ hM.below).mono ?_
    rintro r u1 ⟨v1, v2, rfl, ht⟩
    replace hM := (hM.tel ht.c ht.below).add (b := true) (ht.e.mono hM.below.size)
    clear ht
    have H2 : Hid (Vs (mvl v1 v2 m) 606) := HVS.out _ _ _ (hM.read (b := true) (by simp)) (hM.read (b := true) (by simp))
    have HL2 : Hid (0 + 606 ≤ (mvl v1 v2 m).length) := by show _ ≤ _; rw [H2.out.len]; exact Nat.le_refl _
    have HA2 : Hid (cv (mvl v1 v2 m) 0 606 = mvl v1 v2 m) := cv_all H2.out.len
    repeat' (first | (go_big_may; first | (refine v_fill rfl rfl row_mach rfl rfl hM.at1 H2.out HV.out.len ?_; intro u hv hc; replace hM := hM.put1 hc hv; clear hv hc) | (refine v_load rfl rfl row_mach rfl hM.at1 HL2.out HA2.out ?_)) | go_values | go_skip | go_guarded | go_step | go_upon | (simp only [Int.not_lt, Int.not_le] at *; go_simp))
    refine (HIR.out v1 v2 _ (hM.read (b := true) (by simp)) (hM.read (b := true) (by simp))).mono ?_
    rintro r u2 ⟨rfl, hv⟩
    replace hM := hM.call hv
    clear hv
    repeat' (first | (go_big_may; first | (refine v_load rfl rfl row_mach rfl hM.at1 HL2.out HA2.out ?_) | (refine v_fill rfl rfl row_mach rfl rfl hM.at0 H2.out HZ.out ?_; intro u hv hc; replace hM := hM.put0 hc hv; clear hv hc)) | go_values | go_skip | go_guarded | go_step | go_upon | (simp only [Int.not_lt, Int.not_le] at *; go_simp))
    exact bodyPost_ret (slots.ret_2 Try.results16 rfl (ld_var row_mach hM.at0 H2.out.len) rfl) rfl ⟨_, _, rfl, hM.mine (by simp), hM.mine (by simp), hM.below⟩
  have hF := HFT.out hR
  have HF : Hid (Fit m) := hF
  obtain ⟨N, hN⟩ : ∃ N : Nat, n = (N : Int) := ⟨n.toNat, by omega⟩
  have HN : Hid (n = (N : Int)) := hN
  have HQ : Hid (wrV m n = wkV N m ∧ wrN m n = (wkN N m : Int)) := by
    have : wkB m n = true := by unfold wkB; rw [hR]; simp; omega
    unfold wrV wrN; rw [this, show n.toNat = N by omega]; exact ⟨rfl, rfl⟩
  rw [HQ.out.1, HQ.out.2]
  rw [hR] at HIR
  have hn4 : N ≤ 1000 := by omega
  have e1 : decide (n < 1) = false := by simp; omega
  have e2 : decide (1000 < n) = false := by simp; omega
  clear HFT HQ hR hF hN hn
  go_enter Try.func16, Try.ntmps16
  repeat' (first | (go_big_may; first | (refine v_box rfl rfl rfl ?_; intro u xm hN; replace hM := hM.new hN (by decide); clear hN) | (refine v_alloc rfl zer_mach rfl ?_; intro u xr hN; replace hM := hM.new hN (by decide); clear hN) | (refine v_load rfl rfl row_mach rfl hM.at1 HL0.out HA0.out ?_)) | go_values | go_skip | go_guarded | go_step | go_upon | (simp only [Int.not_lt, Int.not_le] at *; go_simp))
  refine (HCP.out _ hM.below).mono ?_
  rintro r u1 ⟨v1, v2, rfl, ht⟩
  replace hM := ((hM.call ht.below).add (b := true) (ht.e.mono hM.below.size)).add (b := true) (ht.c.mono hM.below.size)
  clear ht
  have H2 : Hid (Vs (mvl v1 v2 m) 606) := HVS.out _ _ _ (hM.read (b := true) (by simp)) (hM.read (b := true) (by simp))
  have HL2 : Hid (0 + 606 ≤ (mvl v1 v2 m).length) := by show _ ≤ _; rw [H2.out.len]; exact Nat.le_refl _
  have HA2 : Hid (cv (mvl v1 v2 m) 0 606 = mvl v1 v2 m) := cv_all H2.out.len
  repeat' (first | (go_big_may; first | (refine v_fill rfl rfl row_mach rfl rfl hM.at1 H2.out HV.out.len ?_; intro u hv hc; replace hM := hM.put1 hc hv; clear hv hc) | (refine v_load rfl rfl row_mach rfl hM.at1 HL2.out HA2.out ?_)) | go_values | go_skip | go_guarded | go_step | go_upon | (simp only [Int.not_lt, Int.not_le] at *; go_simp))
  refine (HIR.out v1 v2 _ (hM.read (b := true) (by simp)) (hM.read (b := true) (by simp))).mono ?_
  rintro r u2 ⟨rfl, hv⟩
  replace hM := hM.call hv
  clear hv
  repeat' (first | go_values | go_skip | go_guarded | go_step | go_upon | (simp only [Int.not_lt, Int.not_le] at *; go_simp))
  have HW0 : Hid (Wi w u2 xm xr m N 0 m) := ⟨⟨_, _, v1, v2, hM⟩, HF.out, rfl, by rw [Nat.sub_zero]; omega⟩
  clear hM
  go_loopw [24] (fun i wr => ∃ k : Nat, k ≤ N ∧ i = .int .i64 (k : Int) ∧ Hid (∃ M, Wi w wr xm xr m N k M)) (fun i _ => N - (intOf i).toNat)
  case atStart => exact ⟨0, Nat.zero_le _, rfl, ⟨m, HW0.out⟩⟩
  case round =>
    obtain ⟨k, hk, rfl, HM⟩ := hrel
    obtain ⟨M, hWi⟩ := HM.out
    obtain ⟨⟨L, R, vc1, ve1, hM⟩, hfit, hv, hc⟩ := hWi
    have HFit : Hid (Fit M) := hfit
    have H3 : Hid (Vs (mvl vc1 ve1 M) 606) := mvl_vs (rcs_one (hM.read (b := true) (x := vc1) (C := M.c.C) (by simp))) (rcs_one (hM.read (b := true) (x := ve1) (C := M.e.C) (by simp))) hfit.B
    have HL3 : Hid (0 + 606 ≤ (mvl vc1 ve1 M).length) := by show _ ≤ _; rw [H3.out.len]; exact Nat.le_refl _
    have HA3 : Hid (cv (mvl vc1 ve1 M) 0 606 = mvl vc1 ve1 M) := cv_all H3.out.len
    by_cases hlt : ¬ k < N
    · have hkN : k = N := by omega
      subst hkN
      rw [Nat.sub_self] at hv hc
      have HQ : Hid (wkV k m = M ∧ (wkN k m : Int) = n) := ⟨hv, by rw [hc, HN.out]; rfl⟩
      have e3 : decide ((k : Int) < n) = false := by have := HN.out; simp; omega
      clear hv hc hfit HW0 HM hlt
      repeat' (first | (go_big_may; first | (refine v_load rfl rfl row_mach rfl hM.at1 HL3.out HA3.out ?_) | (refine v_fill rfl rfl row_mach rfl rfl hM.at0 H3.out HZ.out ?_; intro u hv hc; replace hM := hM.put0 hc hv; clear hv hc)) | go_values | go_skip | go_guarded | go_step | go_upon | (simp only [Int.not_lt, Int.not_le] at *; go_simp))
      exact bodyPost_ret (slots.ret_2 Try.results16 rfl (ld_var row_mach hM.at0 H3.out.len) rfl) rfl ⟨vc1, ve1, by rw [HQ.out.1, HQ.out.2]; rfl, by rw [HQ.out.1]; exact hM.mine (by simp), by rw [HQ.out.1]; exact hM.mine (by simp), hM.below⟩
    have hlt : k < N := by omega
    have e3 : decide ((k : Int) < n) = true := by have := HN.out; simp; omega
    have hk1 : N - k = (N - (k + 1)) + 1 := by omega
    have HV2 : Hid (wkV N m = (if stB M = true then wkV (N - (k + 1)) (stV M) else M) ∧ wkN N m = k + (if stB M = true then wkN (N - (k + 1)) (stV M) + 1 else 0)) := by
      rw [hk1] at hv hc
      exact ⟨hv, hc⟩
    have HSB : Hid (stB M = (ring.getB M.c && ring.putB M.e)) := rfl
    clear hv hc hk1
    cases hs : stB M
    · have HWO : Hid (∀ u, Rcs u vc1 M.c.C → Rcs u ve1 M.e.C → Calls Try.prog 41 #[agv (mvl vc1 ve1 M)] u fun e w' => e = .returned (.tuple #[agv (mvl vc1 ve1 M), .bool false]) ∧ Below u.heap.size u w') := fun u h1 h2 => by
        have hI := HFit.out.inn h1 h2
        have hb := HSB.out
        rw [hs] at hb
        cases hg : ring.getB M.c
        · exact workOnce_no1 vc1 ve1 M u hI HFit.out.r hg
        · rw [hg, Bool.true_and] at hb
          exact workOnce_no2 vc1 ve1 M u hI HFit.out.r hg hb.symm
      have HQ : Hid (wkV N m = M ∧ wkN N m = k) := by
        have := HV2.out
        rw [hs] at this
        exact this
      clear hs HV2 HSB hfit HW0 HM
      repeat' (first | (go_big_may; first | (refine v_load rfl rfl row_mach rfl hM.at1 HL3.out HA3.out ?_)) | go_values | go_skip | go_guarded | go_step | go_upon | (simp only [Int.not_lt, Int.not_le] at *; go_simp))
      refine (HWO.out _ (hM.read (b := true) (by simp)) (hM.read (b := true) (by simp))).mono ?_
      rintro r u3 ⟨rfl, hv⟩
      replace hM := hM.call hv
      clear hv
      repeat' (first | (go_big_may; first | (refine v_alloc rfl zer_mach rfl ?_; intro u xn hN; replace hM := hM.new hN (by decide); clear hN) | (refine v_fill rfl rfl row_mach rfl rfl hM.at0 H3.out HZ.out ?_; intro u hv hc; replace hM := hM.put0 hc hv; clear hv hc) | (refine v_load rfl rfl row_mach rfl hM.at2 HL3.out HA3.out ?_) | (refine v_fill rfl rfl row_mach rfl rfl hM.at1 H3.out HZ.out ?_; intro u hv hc; replace hM := hM.put1 hc hv; clear hv hc)) | go_values | go_skip | go_guarded | go_step | go_upon | (simp only [Int.not_lt, Int.not_le] at *; go_simp))
      exact bodyPost_ret (slots.ret_2 Try.results16 rfl (ld_var row_mach hM.at1 H3.out.len) rfl) rfl ⟨vc1, ve1, by rw [HQ.out.1, HQ.out.2]; rfl, by rw [HQ.out.1]; exact hM.mine (by simp), by rw [HQ.out.1]; exact hM.mine (by simp), hM.below⟩
    · have HWO : Hid (∀ u, Rcs u vc1 M.c.C → Rcs u ve1 M.e.C → Calls Try.prog 41 #[agv (mvl vc1 ve1 M)] u fun e w' => ∃ vc' ve', e = .returned (.tuple #[agv (mvl vc' ve' (stV M)), .bool true]) ∧ Tl u vc' ve' (stV M) w') := fun u h1 h2 => by
        have hI := HFit.out.inn h1 h2
        have hb := HSB.out
        rw [hs] at hb
        have hb := (Bool.and_eq_true _ _).mp hb.symm
        exact workOnce_yes vc1 ve1 M u hI HFit.out.r hb.1 hb.2
      have HV3 : Hid (wkV N m = wkV (N - (k + 1)) (stV M) ∧ wkN N m = k + 1 + wkN (N - (k + 1)) (stV M)) := by
        have := HV2.out
        rw [hs, if_pos rfl, if_pos rfl] at this
        exact ⟨this.1, by rw [this.2]; omega⟩
      have HF2 : Hid (Fit (stV M)) := hfit.st
      clear hs HV2 HSB hfit HW0 HM
      generalize stV M = M2 at *
      repeat' (first | (go_big_may; first | (refine v_load rfl rfl row_mach rfl hM.at1 HL3.out HA3.out ?_)) | go_values | go_skip | go_guarded | go_step | go_upon | (simp only [Int.not_lt, Int.not_le] at *; go_simp))
      refine (HWO.out _ (hM.read (b := true) (by simp)) (hM.read (b := true) (by simp))).mono ?_
      rintro r u3 ⟨vc2, ve2, rfl, ht⟩
      replace hM := ((hM.call ht.below).add (b := true) (ht.e.mono hM.below.size)).add (b := true) (ht.c.mono hM.below.size)
      have H4 : Hid (Vs (mvl vc2 ve2 M2) 606) := mvl_vs (rcs_one ht.c.rcs) (rcs_one ht.e.rcs) HF2.out.B
      have HL4 : Hid (0 + 606 ≤ (mvl vc2 ve2 M2).length) := by show _ ≤ _; rw [H4.out.len]; exact Nat.le_refl _
      have HA4 : Hid (cv (mvl vc2 ve2 M2) 0 606 = mvl vc2 ve2 M2) := cv_all H4.out.len
      clear ht
      repeat' (first | (go_big_may; first | (refine v_alloc rfl zer_mach rfl ?_; intro u xn hN; replace hM := hM.new hN (by decide); clear hN) | (refine v_fill rfl rfl row_mach rfl rfl hM.at0 H4.out HZ.out ?_; intro u hv hc; replace hM := hM.put0 hc hv; clear hv hc) | (refine v_load rfl rfl row_mach rfl hM.at0 HL4.out HA4.out ?_) | (refine v_fill rfl rfl row_mach rfl rfl hM.at2 H4.out H3.out.len ?_; intro u hv hc; replace hM := hM.put2 hc hv; clear hv hc)) | go_values | go_skip | go_guarded | go_step | go_upon | (simp only [Int.not_lt, Int.not_le] at *; go_simp))
      go_roundw
      case rel => exact ⟨k + 1, by omega, by go_num, M2, ⟨_, _, vc2, ve2, hM.tail⟩, HF2.out, HV3.out.1, HV3.out.2⟩
      case measure => simp [intOf]; omega
end Go.Proofs.Ythjmcopknkemnaa.host
