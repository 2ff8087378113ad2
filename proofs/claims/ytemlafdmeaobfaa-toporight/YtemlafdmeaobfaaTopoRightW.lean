/- TopoRight: what is told of a tree is a tree; what was plugged is found there, what was pulled is not. -/
import Derived.Test.YtemlafdmeaobfaaTopK
import Derived.Test.YtemlafdmeaobfaaTopR
import Derived.Test.YtemlafdmeaobfaaTopL
namespace Go.Proofs.Ytemlafdmeaobfaa.topoRight
open Go Go.RowKit Go.Proofs.Ytemlafdmeaobfaa.route Go.Proofs.Ytemlafdmeaobfaa.topo
set_option linter.unusedVariables false
set_option linter.unusedSimpArgs false
set_option maxRecDepth 100000

theorem fnd_nil (p : List Int) : fnN [] p = zN ∧ fnB [] p = false := ⟨rfl, rfl⟩
theorem new_le {w u : World} {B b : Nat} {T : TypeId} {l : List Value} (h : New w u B T l) (hb : b ≤ w.heap.size) : b ≤ B := by rw [h.at']; exact hb
set_option maxHeartbeats 4000000 in
theorem walk (v : Value) (L : NL) (x : Value) (n : Nd) (y : Value) (p : List Int) (W : World) (hp : Rt W v L) (hk : L.length * 48 ≤ reachBytes ∧ ∀ q ∈ L, q.2.1.length * 8 ≤ reachBytes) (hx : Ris W x n.1) (hk1 : n.1.length * 8 ≤ reachBytes) (hy : Ris W y p) (hk2 : p.length * 8 ≤ reachBytes) :
    Calls Try.prog 6 #[v, agv (ncl x n), y] W fun e w' => e = .returned (.bool true) ∧ Below W.heap.size W w' := by
  have HP : Hid (∀ u, Below W.heap.size W u → Calls Try.prog 14 #[v, agv (ncl x n)] u fun e u' => ∃ v' M, e = .returned (.tuple #[v', .int .i64 (plC (tr L) n)]) ∧ Tt u' u.heap.size v' M ∧ tr M = plT (tr L) n ∧ Below u.heap.size u u') := fun u hb => plug_any v x L n u (hp.below hb) (hx.below hb) (reach48 hk.2)
  have HL : Hid (∀ u, Calls Try.prog 19 #[] u fun e u' => e = .returned (.bool true) ∧ Below u.heap.size u u') := fun u => lives_any u
  have HU : Hid (∀ u, Below W.heap.size W u → Calls Try.prog 17 #[v, y] u fun e u' => ∃ v1 v2 M1 M2, e = .returned (.tuple #[v1, v2, .int .i64 (unC (tr L) p)]) ∧ Tt u' u.heap.size v1 M1 ∧ Tt u' u.heap.size v2 M2 ∧ tr M1 = unL (tr L) p ∧ tr M2 = unG (tr L) p ∧ Below u.heap.size u u') := fun u hb => unplug_any v y L p u (hp.below hb) (hy.below hb) (reach48 hk.2)
  have HFa : Hid (∀ u va M, Below W.heap.size W u → Rt u va M → (∀ m ∈ tr M, m.1.length ≤ 6) → Calls Try.prog 9 #[va, x] u fun e u' => ∃ v', e = .returned (.tuple #[agv (ncl v' (fnN (tr M) n.1)), .bool (fnB (tr M) n.1)]) ∧ On u' u.heap.size v' (fnN (tr M) n.1) ∧ Below u.heap.size u u') := fun u va M hb hr h6 => find_any va x M n.1 u hr (hx.below hb) (ok48_of h6)
  have HFb : Hid (∀ u va M, Below W.heap.size W u → Rt u va M → (∀ m ∈ tr M, m.1.length ≤ 6) → Calls Try.prog 9 #[va, y] u fun e u' => ∃ v', e = .returned (.tuple #[agv (ncl v' (fnN (tr M) p)), .bool (fnB (tr M) p)]) ∧ On u' u.heap.size v' (fnN (tr M) p) ∧ Below u.heap.size u u') := fun u va M hb hr h6 => find_any va y M p u hr (hy.below hb) (ok48_of h6)
  have HCk : Hid (∀ u va M, Rt u va M → chkT (tr M) = 0 → Calls Try.prog 11 #[va] u fun e u' => e = .returned (.int .i64 0) ∧ Below u.heap.size u u') := fun u va M hr hc => by
    have := check_any2 va M u hr (ok48_of (gd_six (chkT_ok.1 hc)))
    rw [hc] at this
    exact this
  have HSN : Hid (∀ u v', Below W.heap.size W u → Ris u v' n.1 → Calls Try.prog 13 #[agv (ncl v' n), agv (ncl x n)] u fun e u' => e = .returned (.bool true) ∧ Below u.heap.size u u') := fun u v' hb hr => by
    have := same_any v' x n n u hr (hx.below hb)
    rw [decide_eq_true rfl] at this
    exact this
  have HP0 : Hid (plC (tr L) n = 0 → chkT (plT (tr L) n) = 0 ∧ fnN (plT (tr L) n) n.1 = n ∧ fnB (plT (tr L) n) n.1 = true ∧ (plT (tr L) n).length = L.length + 1 ∧ L.length ≤ 40) := fun hz => by
    obtain ⟨q1, q2⟩ := plC_ok.1 hz
    obtain ⟨r1, r2⟩ := pl_right hz
    have eT : plT (tr L) n = ins n (tr L) := by unfold plT; rw [if_pos hz]
    rw [eT]
    unfold fnN fnB
    rw [r2, ins_len, tr_len]
    rw [tr_len] at q2
    exact ⟨r1, rfl, rfl, rfl, by omega⟩
  have HPn : Hid (plC (tr L) n ≠ 0 → plT (tr L) n = []) := plT_no
  have HU0 : Hid (unC (tr L) p = 0 → chkT (unL (tr L) p) = 0 ∧ fnB (unL (tr L) p) p = false ∧ (unL (tr L) p).length + (unG (tr L) p).length = L.length ∧ 0 < (unG (tr L) p).length ∧ L.length ≤ 40) := fun hz => by
    obtain ⟨r1, r2, r3, r4⟩ := un_right hz
    have hg := (unC_ok.1 hz).1.len
    unfold unL unG
    rw [if_pos hz, if_pos hz]
    unfold fnB
    rw [r2]
    rw [tr_len] at r3 hg
    exact ⟨r1, rfl, r3, r4, hg⟩
  have HUn : Hid (unC (tr L) p ≠ 0 → unL (tr L) p = []) := fun hz => by unfold unL; rw [if_neg hz]
  obtain ⟨cc, hcc⟩ : ∃ c, plC (tr L) n = c := ⟨_, rfl⟩
  obtain ⟨dd, hdd⟩ : ∃ c, unC (tr L) p = c := ⟨_, rfl⟩
  obtain ⟨va, vc, rfl, hlc, hcm⟩ := hp.form
  obtain ⟨l, hl⟩ : ∃ l, L.length = l := ⟨_, rfl⟩
  simp only [hcc, hdd, hl] at HP HU HP0 HPn HU0 HUn hlc ⊢
  obtain ⟨PT, hPT⟩ : ∃ T, plT (tr L) n = T := ⟨_, rfl⟩
  obtain ⟨UL, hUL⟩ : ∃ T, unL (tr L) p = T := ⟨_, rfl⟩
  obtain ⟨UG, hUG⟩ : ∃ T, unG (tr L) p = T := ⟨_, rfl⟩
  simp only [hPT, hUL, hUG] at HP HU HP0 HPn HU0 HUn
  have G0 : Hid ((ncl x n)[0]? = some x) := rfl
  have hM := Mm.nil W
  unfold maxLen at hcm
  clear hp hk hx hk1 hy hk2 hcc hdd hl hPT hUL hUG
  by_cases hz : cc ≠ 0
  · have e1 : (cc == 0) = false := by simpa using hz
    have HE : Hid (PT = []) := HPn.out hz
    clear HP0 HPn hz
    go_enter Try.func6, Try.ntmps6
    repeat' (first | (go_big_may; first | (refine v_box rfl rfl rfl ?_; intro u xn hN; replace hM := hM.new hN; clear hN) | (refine v_load rfl rfl row_node rfl hM.at0 (Nat.le_refl 4) rfl ?_)) | go_values | go_skip | go_guarded | go_step | go_upon | (simp only [Int.not_lt, Int.not_le] at *; go_simp))
    refine (HP.out _ hM.below).mono ?_
    rintro e u1 ⟨v1, M1, rfl, ht, hT, hb⟩
    replace hM := hM.call hb
    have HR1 : Hid (∀ u, Below u1.heap.size u1 u → Rt u v1 M1) := fun u hu => ht.rt.below hu
    have HT1 : Hid (tr M1 = []) := by rw [← HE.out]; exact hT
    clear hb ht hT HP
    repeat' (first | go_values | go_skip | go_guarded | go_step | go_upon | (simp only [Int.not_lt, Int.not_le] at *; go_simp))
    refine (HL.out _).mono ?_
    rintro e u2 ⟨rfl, hb⟩
    replace hM := hM.call hb
    have HB12 : Hid (Below u1.heap.size u1 u2) := hb
    clear hb
    repeat' (first | (go_big_may; first | (refine v_get rfl rfl (.inr rfl) rfl hM.at0 G0.out ?_)) | go_values | go_skip | go_guarded | go_step | go_upon | (simp only [Int.not_lt, Int.not_le] at *; go_simp))
    refine (HFa.out _ _ M1 hM.below (HR1.out _ HB12.out) (by rw [HT1.out]; simp)).mono ?_
    rintro e u4 ⟨v4, rfl, ho, hb⟩
    replace hM := hM.call hb
    have HV4 : Hid (Vs (ncl v4 (fnN (tr M1) n.1)) 4) := ncl_vs _ (ris_one ho.ris)
    clear hb ho HFa HR1 HB12
    generalize fnN (tr M1) n.1 = fN at *
    generalize fnB (tr M1) n.1 = fB at *
    repeat' (first | (go_big_may; first | (refine v_alloc rfl zer_node rfl ?_; intro u xf hN; replace hM := hM.new hN; clear hN) | (refine v_fill rfl rfl row_node rfl rfl hM.at0 HV4.out rfl ?_; intro u hv hc; replace hM := hM.put0 hc hv; clear hv hc)) | go_values | go_skip | go_guarded | go_step | go_upon | (simp only [Int.not_lt, Int.not_le] at *; go_simp))
    by_cases hd : dd ≠ 0
    · have d2 : (dd != 0) = true := by simpa using hd
      have HE2 : Hid (UL = []) := HUn.out hd
      clear HU0 HUn hd
      refine (HU.out _ hM.below).mono ?_
      rintro e u6 ⟨v6, v7, M6, M7, rfl, ht6, ht7, hT6, hT7, hb⟩
      replace hM := hM.call hb
      have HR6 : Hid (Rt u6 v6 M6) := ht6.rt
      have HT6 : Hid (tr M6 = []) := by rw [← HE2.out]; exact hT6
      clear hb ht6 ht7 hT6 hT7 HU
      repeat' (first | go_values | go_skip | go_guarded | go_step | go_upon | (simp only [Int.not_lt, Int.not_le] at *; go_simp))
      refine (HFb.out _ _ M6 hM.below HR6.out (by rw [HT6.out]; simp)).mono ?_
      rintro e u8 ⟨v8, rfl, ho, hb⟩
      replace hM := hM.call hb
      have HV8 : Hid (Vs (ncl v8 (fnN (tr M6) p)) 4) := ncl_vs _ (ris_one ho.ris)
      clear hb ho HFb HR6
      generalize fnN (tr M6) p = fQ at *
      generalize fnB (tr M6) p = fC at *
      repeat' (first | (go_big_may; first | (refine v_alloc rfl zer_node rfl ?_; intro u xg hN; replace hM := hM.new hN; clear hN) | (refine v_fill rfl rfl row_node rfl rfl hM.at0 HV8.out rfl ?_; intro u hv hc; replace hM := hM.put0 hc hv; clear hv hc)) | go_values | go_skip | go_guarded | go_step | go_upon | (simp only [Int.not_lt, Int.not_le] at *; go_simp))
      go_ret
      exact ⟨rfl, hM.below⟩
    · have hd : dd = 0 := Classical.not_not.1 hd
      subst hd
      obtain ⟨r1, r2, r3, r4, r5⟩ := HU0.out rfl
      have d2 : ((0 : Int) != 0) = false := rfl
      have d3 : ((0 : Int) == 0) = true := rfl
      have HS : Hid (chkT UL = 0 ∧ fnB UL p = false ∧ ∀ m ∈ UL, m.1.length ≤ 6) := ⟨r1, r2, gd_six (chkT_ok.1 r1)⟩
      clear HU0 HUn r1 r2
      refine (HU.out _ hM.below).mono ?_
      rintro e u6 ⟨v6, v7, M6, M7, rfl, ht6, ht7, hT6, hT7, hb⟩
      replace hM := hM.call hb
      have HR6 : Hid (∀ u, Below u6.heap.size u6 u → Rt u v6 M6) := fun u hu => ht6.rt.below hu
      have HT6 : Hid (tr M6 = UL) := hT6
      obtain ⟨pa6, pc6, hv6, hpc6, hpm6⟩ := ht6.rt.form
      obtain ⟨pa7, pc7, hv7, hpc7, hpm7⟩ := ht7.rt.form
      have hl6 : M6.length = UL.length := by rw [← tr_len, hT6]
      have hl7 : M7.length = UG.length := by rw [← tr_len, hT7]
      obtain ⟨m6, hm6⟩ : ∃ m, M6.length = m := ⟨_, rfl⟩
      obtain ⟨m7, hm7⟩ : ∃ m, M7.length = m := ⟨_, rfl⟩
      rw [hm6] at hv6
      rw [hm7] at hv7
      have hsm : (m6 : Int) + (m7 : Int) = (l : Int) := by omega
      have hs6 : m6 ≤ 40 := by omega
      have hs7 : m7 ≤ 40 := by omega
      have hp7 : 0 < m7 := by omega
      have hll : ((l : Int) == (l : Int)) = true := by simp
      subst hv6 hv7
      clear hb ht6 ht7 hT6 hT7 HU hpc6 hpm6 hpc7 hpm7 hl6 hl7 hm6 hm7 r3 r4
      repeat' (first | go_values | go_skip | go_guarded | go_step | go_upon | (simp only [Int.not_lt, Int.not_le] at *; go_simp))
      refine (HFb.out _ _ M6 hM.below (HR6.out _ (Below.refl _ _)) (by rw [HT6.out]; exact HS.out.2.2)).mono ?_
      rw [HT6.out, HS.out.2.1]
      rintro e u8 ⟨v8, rfl, ho, hb⟩
      replace hM := hM.call hb
      have HB68 : Hid (Below u6.heap.size u6 u8) := hb
      have HV8 : Hid (Vs (ncl v8 (fnN UL p)) 4) := ncl_vs _ (ris_one ho.ris)
      have HB8s : Hid (u6.heap.size ≤ u8.heap.size) := HB68.out.size
      clear hb ho HFb
      generalize fnN UL p = fQ at *
      repeat' (first | (go_big_may; first | (refine v_alloc rfl zer_node rfl ?_; intro u xg hN; replace HB68 : Hid (Below u6.heap.size u6 u) := bsq HB68.out hN.below; have HXG : Hid (u6.heap.size ≤ xg) := new_le hN HB8s.out; replace hM := hM.new hN; clear hN) | (refine v_fill rfl rfl row_node rfl rfl hM.at0 HV8.out rfl ?_; intro u hv hc; replace HB68 : Hid (Below u6.heap.size u6 u) := hc.below _ _ HXG.out HB68.out; replace hM := hM.put0 hc hv; clear hv hc)) | go_values | go_skip | go_guarded | go_step | go_upon | (simp only [Int.not_lt, Int.not_le] at *; go_simp))
      refine (HCk.out _ _ M6 (HR6.out _ HB68.out) (by rw [HT6.out]; exact HS.out.1)).mono ?_
      rintro e u9 ⟨rfl, hb⟩
      replace hM := hM.call hb
      clear hb HR6 HB68
      repeat' (first | go_values | go_skip | go_guarded | go_step | go_upon | (simp only [Int.not_lt, Int.not_le] at *; go_simp))
      go_ret
      exact ⟨rfl, hM.below⟩
  · have hz : cc = 0 := Classical.not_not.1 hz
    subst hz
    obtain ⟨k1, k2, k3, k4, k5⟩ := HP0.out rfl
    have e1 : ((0 : Int) == 0) = true := rfl
    have e2 : ((0 : Int) != 0) = false := rfl
    have h6 : ∀ m ∈ PT, m.1.length ≤ 6 := gd_six (chkT_ok.1 k1)
    have HK : Hid (chkT PT = 0 ∧ fnN PT n.1 = n ∧ fnB PT n.1 = true ∧ ∀ m ∈ PT, m.1.length ≤ 6) := ⟨k1, k2, k3, h6⟩
    clear HP0 HPn k1 k2 k3 h6
    go_enter Try.func6, Try.ntmps6
    repeat' (first | (go_big_may; first | (refine v_box rfl rfl rfl ?_; intro u xn hN; replace hM := hM.new hN; clear hN) | (refine v_load rfl rfl row_node rfl hM.at0 (Nat.le_refl 4) rfl ?_)) | go_values | go_skip | go_guarded | go_step | go_upon | (simp only [Int.not_lt, Int.not_le] at *; go_simp))
    refine (HP.out _ hM.below).mono ?_
    rintro e u1 ⟨v1, M1, rfl, ht, hT, hb⟩
    replace hM := hM.call hb
    have HR1 : Hid (∀ u, Below u1.heap.size u1 u → Rt u v1 M1) := fun u hu => ht.rt.below hu
    have HT1 : Hid (tr M1 = PT) := hT
    obtain ⟨pa, pc, hv1, hpc, hpm⟩ := ht.rt.form
    have hl1 : M1.length = l + 1 := by rw [← tr_len, hT, k4]
    obtain ⟨m1, hm1⟩ : ∃ m1, M1.length = m1 := ⟨_, rfl⟩
    rw [hm1] at hv1 hpc
    have hlm : (l : Int) + 1 = (m1 : Int) := by omega
    have hne : ((m1 : Int) != (m1 : Int)) = false := by simp
    subst hv1
    clear hb ht hT HP hl1 hm1 hpm hpc k4
    repeat' (first | go_values | go_skip | go_guarded | go_step | go_upon | (simp only [Int.not_lt, Int.not_le] at *; go_simp))
    refine (HL.out _).mono ?_
    rintro e u2 ⟨rfl, hb⟩
    replace hM := hM.call hb
    have HB12 : Hid (Below u1.heap.size u1 u2) := hb
    clear hb
    repeat' (first | go_values | go_skip | go_guarded | go_step | go_upon | (simp only [Int.not_lt, Int.not_le] at *; go_simp))
    refine (HCk.out _ _ M1 (HR1.out _ HB12.out) (by rw [HT1.out]; exact HK.out.1)).mono ?_
    rintro e u3 ⟨rfl, hb⟩
    replace hM := hM.call hb
    have HB13 : Hid (Below u1.heap.size u1 u3) := bsq HB12.out hb
    clear hb HB12
    repeat' (first | (go_big_may; first | (refine v_get rfl rfl (.inr rfl) rfl hM.at0 G0.out ?_)) | go_values | go_skip | go_guarded | go_step | go_upon | (simp only [Int.not_lt, Int.not_le] at *; go_simp))
    refine (HFa.out _ _ M1 hM.below (HR1.out _ HB13.out) (by rw [HT1.out]; exact HK.out.2.2.2)).mono ?_
    rw [HT1.out, HK.out.2.1, HK.out.2.2.1]
    rintro e u4 ⟨v4, rfl, ho, hb⟩
    replace hM := hM.call hb
    have HV4 : Hid (Vs (ncl v4 n) 4) := ncl_vs n (ris_one ho.ris)
    have HR4 : Hid (∀ u, Below u4.heap.size u4 u → Ris u v4 n.1) := fun u hu => ho.ris.below hu
    clear hb ho HFa HR1 HB13
    repeat' (first | (go_big_may; first | (refine v_alloc rfl zer_node rfl ?_; intro u xf hN; have HB45 : Hid (Below u4.heap.size u4 u) := hN.below; have HXF : Hid (u4.heap.size ≤ xf) := new_le hN (Nat.le_refl _); replace hM := hM.new hN; clear hN) | (refine v_fill rfl rfl row_node rfl rfl hM.at0 HV4.out rfl ?_; intro u hv hc; replace HB45 : Hid (Below u4.heap.size u4 u) := hc.below _ _ (HXF.out) HB45.out; replace hM := hM.put0 hc hv; clear hv hc) | (refine v_load rfl rfl row_node rfl hM.at0 (Nat.le_refl 4) rfl ?_) | (refine v_load rfl rfl row_node rfl hM.at1 (Nat.le_refl 4) rfl ?_)) | go_values | go_skip | go_guarded | go_step | go_upon | (simp only [Int.not_lt, Int.not_le] at *; go_simp))
    refine (HSN.out _ _ hM.below (HR4.out _ HB45.out)).mono ?_
    rintro e u5 ⟨rfl, hb⟩
    replace hM := hM.call hb
    clear hb HSN HR4 HB45
    repeat' (first | go_values | go_skip | go_guarded | go_step | go_upon | (simp only [Int.not_lt, Int.not_le] at *; go_simp))
    by_cases hd : dd ≠ 0
    · have d2 : (dd != 0) = true := by simpa using hd
      have HE2 : Hid (UL = []) := HUn.out hd
      clear HU0 HUn hd
      refine (HU.out _ hM.below).mono ?_
      rintro e u6 ⟨v6, v7, M6, M7, rfl, ht6, ht7, hT6, hT7, hb⟩
      replace hM := hM.call hb
      have HR6 : Hid (Rt u6 v6 M6) := ht6.rt
      have HT6 : Hid (tr M6 = []) := by rw [← HE2.out]; exact hT6
      clear hb ht6 ht7 hT6 hT7 HU
      repeat' (first | go_values | go_skip | go_guarded | go_step | go_upon | (simp only [Int.not_lt, Int.not_le] at *; go_simp))
      refine (HFb.out _ _ M6 hM.below HR6.out (by rw [HT6.out]; simp)).mono ?_
      rintro e u8 ⟨v8, rfl, ho, hb⟩
      replace hM := hM.call hb
      have HV8 : Hid (Vs (ncl v8 (fnN (tr M6) p)) 4) := ncl_vs _ (ris_one ho.ris)
      clear hb ho HFb HR6
      generalize fnN (tr M6) p = fQ at *
      generalize fnB (tr M6) p = fC at *
      repeat' (first | (go_big_may; first | (refine v_alloc rfl zer_node rfl ?_; intro u xg hN; replace hM := hM.new hN; clear hN) | (refine v_fill rfl rfl row_node rfl rfl hM.at0 HV8.out rfl ?_; intro u hv hc; replace hM := hM.put0 hc hv; clear hv hc)) | go_values | go_skip | go_guarded | go_step | go_upon | (simp only [Int.not_lt, Int.not_le] at *; go_simp))
      go_ret
      exact ⟨rfl, hM.below⟩
    · have hd : dd = 0 := Classical.not_not.1 hd
      subst hd
      obtain ⟨r1, r2, r3, r4, r5⟩ := HU0.out rfl
      have d2 : ((0 : Int) != 0) = false := rfl
      have d3 : ((0 : Int) == 0) = true := rfl
      have HS : Hid (chkT UL = 0 ∧ fnB UL p = false ∧ ∀ m ∈ UL, m.1.length ≤ 6) := ⟨r1, r2, gd_six (chkT_ok.1 r1)⟩
      clear HU0 HUn r1 r2
      refine (HU.out _ hM.below).mono ?_
      rintro e u6 ⟨v6, v7, M6, M7, rfl, ht6, ht7, hT6, hT7, hb⟩
      replace hM := hM.call hb
      have HR6 : Hid (∀ u, Below u6.heap.size u6 u → Rt u v6 M6) := fun u hu => ht6.rt.below hu
      have HT6 : Hid (tr M6 = UL) := hT6
      obtain ⟨pa6, pc6, hv6, hpc6, hpm6⟩ := ht6.rt.form
      obtain ⟨pa7, pc7, hv7, hpc7, hpm7⟩ := ht7.rt.form
      have hl6 : M6.length = UL.length := by rw [← tr_len, hT6]
      have hl7 : M7.length = UG.length := by rw [← tr_len, hT7]
      obtain ⟨m6, hm6⟩ : ∃ m, M6.length = m := ⟨_, rfl⟩
      obtain ⟨m7, hm7⟩ : ∃ m, M7.length = m := ⟨_, rfl⟩
      rw [hm6] at hv6
      rw [hm7] at hv7
      have hsm : (m6 : Int) + (m7 : Int) = (l : Int) := by omega
      have hs6 : m6 ≤ 40 := by omega
      have hs7 : m7 ≤ 40 := by omega
      have hp7 : 0 < m7 := by omega
      have hll : ((l : Int) == (l : Int)) = true := by simp
      subst hv6 hv7
      clear hb ht6 ht7 hT6 hT7 HU hpc6 hpm6 hpc7 hpm7 hl6 hl7 hm6 hm7 r3 r4
      repeat' (first | go_values | go_skip | go_guarded | go_step | go_upon | (simp only [Int.not_lt, Int.not_le] at *; go_simp))
      refine (HFb.out _ _ M6 hM.below (HR6.out _ (Below.refl _ _)) (by rw [HT6.out]; exact HS.out.2.2)).mono ?_
      rw [HT6.out, HS.out.2.1]
      rintro e u8 ⟨v8, rfl, ho, hb⟩
      replace hM := hM.call hb
      have HB68 : Hid (Below u6.heap.size u6 u8) := hb
      have HV8 : Hid (Vs (ncl v8 (fnN UL p)) 4) := ncl_vs _ (ris_one ho.ris)
      have HB8s : Hid (u6.heap.size ≤ u8.heap.size) := HB68.out.size
      clear hb ho HFb
      generalize fnN UL p = fQ at *
      repeat' (first | (go_big_may; first | (refine v_alloc rfl zer_node rfl ?_; intro u xg hN; replace HB68 : Hid (Below u6.heap.size u6 u) := bsq HB68.out hN.below; have HXG : Hid (u6.heap.size ≤ xg) := new_le hN HB8s.out; replace hM := hM.new hN; clear hN) | (refine v_fill rfl rfl row_node rfl rfl hM.at0 HV8.out rfl ?_; intro u hv hc; replace HB68 : Hid (Below u6.heap.size u6 u) := hc.below _ _ HXG.out HB68.out; replace hM := hM.put0 hc hv; clear hv hc)) | go_values | go_skip | go_guarded | go_step | go_upon | (simp only [Int.not_lt, Int.not_le] at *; go_simp))
      refine (HCk.out _ _ M6 (HR6.out _ HB68.out) (by rw [HT6.out]; exact HS.out.1)).mono ?_
      rintro e u9 ⟨rfl, hb⟩
      replace hM := hM.call hb
      clear hb HR6 HB68
      repeat' (first | go_values | go_skip | go_guarded | go_step | go_upon | (simp only [Int.not_lt, Int.not_le] at *; go_simp))
      go_ret
      exact ⟨rfl, hM.below⟩
end Go.Proofs.Ytemlafdmeaobfaa.topoRight
