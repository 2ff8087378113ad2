/- TopoOrder: two devices that both may be plugged may be plugged in either order, and the tree is the same. -/
import Derived.Test.YtemlafdmeaobfabTopK
import Derived.Test.YtemlafdmeaobfabTopR
import Derived.Test.YtemlafdmeaobfabTopL
namespace Go.Proofs.Ytemlafdmeaobfab.topoOrder
open Go Go.RowKit Go.Proofs.Ytemlafdmeaobfab.route Go.Proofs.Ytemlafdmeaobfab.topo
set_option linter.unusedVariables false
set_option linter.unusedSimpArgs false
set_option maxRecDepth 100000

set_option maxHeartbeats 4000000 in
theorem walk (v : Value) (L : NL) (x : Value) (m : Nd) (y : Value) (n : Nd) (W : World) (hp : Rt W v L) (hk : L.length * 48 ≤ reachBytes ∧ ∀ q ∈ L, q.2.1.length * 8 ≤ reachBytes) (hx : Ris W x m.1) (hk1 : m.1.length * 8 ≤ reachBytes) (hy : Ris W y n.1) (hk2 : n.1.length * 8 ≤ reachBytes) :
    Calls Try.prog 3 #[v, agv (ncl x m), agv (ncl y n)] W fun e w' => e = .returned (.bool true) ∧ Below W.heap.size W w' := by
  have HL : Hid (∀ u, Calls Try.prog 7 #[] u fun e u' => e = .returned (.bool true) ∧ Below u.heap.size u u') := fun u => lives_any u
  have HP1 : Hid (∀ u, Below W.heap.size W u → Calls Try.prog 6 #[v, agv (ncl x m)] u fun e u' => ∃ v' M, e = .returned (.tuple #[v', .int .i64 (plC (tr L) m)]) ∧ Tt u' u.heap.size v' M ∧ tr M = plT (tr L) m ∧ Below u.heap.size u u') := fun u hb => plug_any v x L m u (hp.below hb) (hx.below hb) (reach48 hk.2)
  have HP2 : Hid (∀ u, Below W.heap.size W u → Calls Try.prog 6 #[v, agv (ncl y n)] u fun e u' => ∃ v' M, e = .returned (.tuple #[v', .int .i64 (plC (tr L) n)]) ∧ Tt u' u.heap.size v' M ∧ tr M = plT (tr L) n ∧ Below u.heap.size u u') := fun u hb => plug_any v y L n u (hp.below hb) (hy.below hb) (reach48 hk.2)
  have HEq : Hid (∀ u, Below W.heap.size W u → Calls Try.prog 8 #[x, y] u fun e u' => e = .returned (.bool (decide (m.1 = n.1))) ∧ Below u.heap.size u u') := fun u hb => equalI_any x y _ _ u (hx.below hb) (hy.below hb)
  have HS : Hid (∀ u v1 v2 M1 M2, Rt u v1 M1 → Rt u v2 M2 → tr M1 = tr M2 → Calls Try.prog 9 #[v1, v2] u fun e u' => e = .returned (.bool true) ∧ Below u.heap.size u u') := fun u v1 v2 M1 M2 h1 h2 he => by
    have := sameT_any v1 v2 M1 M2 u h1 h2
    rw [decide_eq_true he] at this
    exact this
  have HQ : Hid (plC (tr L) m = 0 → plC (tr L) n = 0 → m.1 ≠ n.1 → ∃ F T, (F = 0 ∨ (F = 2 ∧ L.length = 39)) ∧ (∀ u va M, Below W.heap.size W u → Rt u va M → tr M = plT (tr L) m → Calls Try.prog 6 #[va, agv (ncl y n)] u fun e u' => ∃ v' M', e = .returned (.tuple #[v', .int .i64 F]) ∧ Tt u' u.heap.size v' M' ∧ tr M' = T ∧ Below u.heap.size u u') ∧ (∀ u va M, Below W.heap.size W u → Rt u va M → tr M = plT (tr L) n → Calls Try.prog 6 #[va, agv (ncl x m)] u fun e u' => ∃ v' M', e = .returned (.tuple #[v', .int .i64 F]) ∧ Tt u' u.heap.size v' M' ∧ tr M' = T ∧ Below u.heap.size u u')) := fun h1 h2 hne => by
    obtain ⟨o1, o2, o3⟩ := pl_order h1 h2 hne
    have e1 : plT (tr L) m = ins m (tr L) := by unfold plT; rw [if_pos h1]
    have e2 : plT (tr L) n = ins n (tr L) := by unfold plT; rw [if_pos h2]
    obtain ⟨p1, l1⟩ := plC_ok.1 h1
    obtain ⟨p2, l2⟩ := plC_ok.1 h2
    rw [tr_len] at o3
    refine ⟨plC (ins m (tr L)) n, plT (ins m (tr L)) n, o3, fun u va M hb hr hT => ?_, fun u va M hb hr hT => ?_⟩
    · have := plug_any va y M n u hr (hy.below hb) (ok48_of (by rw [hT, e1]; exact gd_six (p1.gdi l1)))
      rw [hT, e1] at this
      exact this
    · have := plug_any va x M m u hr (hx.below hb) (ok48_of (by rw [hT, e2]; exact gd_six (p2.gdi l2)))
      rw [hT, e2, ← o1, ← o2] at this
      exact this
  obtain ⟨va, vc, rfl, _, _⟩ := hp.form
  obtain ⟨cc, hcc⟩ : ∃ c, plC (tr L) m = c := ⟨_, rfl⟩
  obtain ⟨dd, hdd⟩ : ∃ c, plC (tr L) n = c := ⟨_, rfl⟩
  obtain ⟨l, hl⟩ : ∃ l, L.length = l := ⟨_, rfl⟩
  simp only [hcc, hdd, hl] at HP1 HP2 HQ ⊢
  have G1 : Hid ((ncl x m)[0]? = some x) := rfl
  have G2 : Hid ((ncl y n)[0]? = some y) := rfl
  have hM := Mm.nil W
  clear hp hk hx hk1 hy hk2 hcc hdd hl
  by_cases h1 : cc ≠ 0
  · have e1 : (cc != 0) = true := by simpa using h1
    clear HQ h1 HEq HS
    go_enter Try.func3, Try.ntmps3
    repeat' (first | (go_big_may; first | (refine v_box rfl rfl rfl ?_; intro u xm hN; replace hM := hM.new hN; clear hN) | (refine v_load rfl rfl row_node rfl hM.at1 (Nat.le_refl 4) rfl ?_)) | go_values | go_skip | go_guarded | go_step | go_upon | (simp only [Int.not_lt, Int.not_le] at *; go_simp))
    refine (HP1.out _ hM.below).mono ?_
    rintro e u1 ⟨v1, M1, rfl, ht1, hT1, hb⟩
    replace hM := hM.call hb
    clear hb ht1 hT1 HP1
    repeat' (first | (go_big_may; first | (refine v_load rfl rfl row_node rfl hM.at0 (Nat.le_refl 4) rfl ?_)) | go_values | go_skip | go_guarded | go_step | go_upon | (simp only [Int.not_lt, Int.not_le] at *; go_simp))
    refine (HP2.out _ hM.below).mono ?_
    rintro e u2 ⟨v2, M2, rfl, ht2, hT2, hb⟩
    replace hM := hM.call hb
    clear hb ht2 hT2 HP2
    repeat' (first | go_values | go_skip | go_guarded | go_step | go_upon | (simp only [Int.not_lt, Int.not_le] at *; go_simp))
    refine (HL.out _).mono ?_
    rintro e u3 ⟨rfl, hb⟩
    replace hM := hM.call hb
    clear hb
    repeat' (first | go_values | go_skip | go_guarded | go_step | go_upon | (simp only [Int.not_lt, Int.not_le] at *; go_simp))
    refine (HL.out _).mono ?_
    rintro e u4 ⟨rfl, hb⟩
    replace hM := hM.call hb
    clear hb
    repeat' (first | go_values | go_skip | go_guarded | go_step | go_upon | (simp only [Int.not_lt, Int.not_le] at *; go_simp))
    go_ret
    exact ⟨rfl, hM.below⟩
  have h1 : cc = 0 := Classical.not_not.1 h1
  subst h1
  have e1 : ((0 : Int) != 0) = false := rfl
  by_cases h2 : dd ≠ 0
  · have e2 : (dd != 0) = true := by simpa using h2
    clear HQ h2 HEq HS
    go_enter Try.func3, Try.ntmps3
    repeat' (first | (go_big_may; first | (refine v_box rfl rfl rfl ?_; intro u xm hN; replace hM := hM.new hN; clear hN) | (refine v_load rfl rfl row_node rfl hM.at1 (Nat.le_refl 4) rfl ?_)) | go_values | go_skip | go_guarded | go_step | go_upon | (simp only [Int.not_lt, Int.not_le] at *; go_simp))
    refine (HP1.out _ hM.below).mono ?_
    rintro e u1 ⟨v1, M1, rfl, ht1, hT1, hb⟩
    replace hM := hM.call hb
    clear hb ht1 hT1 HP1
    repeat' (first | (go_big_may; first | (refine v_load rfl rfl row_node rfl hM.at0 (Nat.le_refl 4) rfl ?_)) | go_values | go_skip | go_guarded | go_step | go_upon | (simp only [Int.not_lt, Int.not_le] at *; go_simp))
    refine (HP2.out _ hM.below).mono ?_
    rintro e u2 ⟨v2, M2, rfl, ht2, hT2, hb⟩
    replace hM := hM.call hb
    clear hb ht2 hT2 HP2
    repeat' (first | go_values | go_skip | go_guarded | go_step | go_upon | (simp only [Int.not_lt, Int.not_le] at *; go_simp))
    refine (HL.out _).mono ?_
    rintro e u3 ⟨rfl, hb⟩
    replace hM := hM.call hb
    clear hb
    repeat' (first | go_values | go_skip | go_guarded | go_step | go_upon | (simp only [Int.not_lt, Int.not_le] at *; go_simp))
    refine (HL.out _).mono ?_
    rintro e u4 ⟨rfl, hb⟩
    replace hM := hM.call hb
    clear hb
    repeat' (first | go_values | go_skip | go_guarded | go_step | go_upon | (simp only [Int.not_lt, Int.not_le] at *; go_simp))
    go_ret
    exact ⟨rfl, hM.below⟩
  have h2 : dd = 0 := Classical.not_not.1 h2
  subst h2
  by_cases h3 : m.1 = n.1
  · rw [decide_eq_true h3] at HEq
    clear HQ h3 HS
    go_enter Try.func3, Try.ntmps3
    repeat' (first | (go_big_may; first | (refine v_box rfl rfl rfl ?_; intro u xm hN; replace hM := hM.new hN; clear hN) | (refine v_load rfl rfl row_node rfl hM.at1 (Nat.le_refl 4) rfl ?_)) | go_values | go_skip | go_guarded | go_step | go_upon | (simp only [Int.not_lt, Int.not_le] at *; go_simp))
    refine (HP1.out _ hM.below).mono ?_
    rintro e u1 ⟨v1, M1, rfl, ht1, hT1, hb⟩
    replace hM := hM.call hb
    clear hb ht1 hT1 HP1
    repeat' (first | (go_big_may; first | (refine v_load rfl rfl row_node rfl hM.at0 (Nat.le_refl 4) rfl ?_)) | go_values | go_skip | go_guarded | go_step | go_upon | (simp only [Int.not_lt, Int.not_le] at *; go_simp))
    refine (HP2.out _ hM.below).mono ?_
    rintro e u2 ⟨v2, M2, rfl, ht2, hT2, hb⟩
    replace hM := hM.call hb
    clear hb ht2 hT2 HP2
    repeat' (first | go_values | go_skip | go_guarded | go_step | go_upon | (simp only [Int.not_lt, Int.not_le] at *; go_simp))
    refine (HL.out _).mono ?_
    rintro e u3 ⟨rfl, hb⟩
    replace hM := hM.call hb
    clear hb
    repeat' (first | (go_big_may; first | (refine v_get rfl rfl (.inr rfl) rfl hM.at1 G1.out ?_) | (refine v_get rfl rfl (.inr rfl) rfl hM.at0 G2.out ?_)) | go_values | go_skip | go_guarded | go_step | go_upon | (simp only [Int.not_lt, Int.not_le] at *; go_simp))
    refine (HEq.out _ hM.below).mono ?_
    rintro e u4 ⟨rfl, hb⟩
    replace hM := hM.call hb
    clear hb
    repeat' (first | go_values | go_skip | go_guarded | go_step | go_upon | (simp only [Int.not_lt, Int.not_le] at *; go_simp))
    refine (HL.out _).mono ?_
    rintro e u5 ⟨rfl, hb⟩
    replace hM := hM.call hb
    clear hb
    repeat' (first | go_values | go_skip | go_guarded | go_step | go_upon | (simp only [Int.not_lt, Int.not_le] at *; go_simp))
    go_ret
    exact ⟨rfl, hM.below⟩
  rw [decide_eq_false h3] at HEq
  obtain ⟨F, T, hF, hA, hB⟩ := HQ.out rfl rfl h3
  have HA : Hid (∀ u va M, Below W.heap.size W u → Rt u va M → tr M = plT (tr L) m → Calls Try.prog 6 #[va, agv (ncl y n)] u fun e u' => ∃ v' M', e = .returned (.tuple #[v', .int .i64 F]) ∧ Tt u' u.heap.size v' M' ∧ tr M' = T ∧ Below u.heap.size u u') := hA
  have HB : Hid (∀ u va M, Below W.heap.size W u → Rt u va M → tr M = plT (tr L) n → Calls Try.prog 6 #[va, agv (ncl x m)] u fun e u' => ∃ v' M', e = .returned (.tuple #[v', .int .i64 F]) ∧ Tt u' u.heap.size v' M' ∧ tr M' = T ∧ Below u.heap.size u u') := hB
  clear HQ hA hB h3
  rcases hF with hF | ⟨hF, hl⟩
  all_goals subst hF
  all_goals first | subst hl | skip
  all_goals
    go_enter Try.func3, Try.ntmps3
    repeat' (first | (go_big_may; first | (refine v_box rfl rfl rfl ?_; intro u xm hN; replace hM := hM.new hN; clear hN) | (refine v_load rfl rfl row_node rfl hM.at1 (Nat.le_refl 4) rfl ?_)) | go_values | go_skip | go_guarded | go_step | go_upon | (simp only [Int.not_lt, Int.not_le] at *; go_simp))
    refine (HP1.out _ hM.below).mono ?_
    rintro e u1 ⟨v1, M1, rfl, ht1, hT1, hb⟩
    replace hM := hM.call hb
    have HR1 : Hid (∀ u, Below u1.heap.size u1 u → Rt u v1 M1) := fun u hu => ht1.rt.below hu
    have HT1 : Hid (tr M1 = plT (tr L) m) := hT1
    clear hb ht1 hT1 HP1
    repeat' (first | (go_big_may; first | (refine v_load rfl rfl row_node rfl hM.at0 (Nat.le_refl 4) rfl ?_)) | go_values | go_skip | go_guarded | go_step | go_upon | (simp only [Int.not_lt, Int.not_le] at *; go_simp))
    refine (HP2.out _ hM.below).mono ?_
    rintro e u2 ⟨v2, M2, rfl, ht2, hT2, hb⟩
    replace hM := hM.call hb
    have HR2 : Hid (∀ u, Below u2.heap.size u2 u → Rt u v1 M1 ∧ Rt u v2 M2) := fun u hu => ⟨HR1.out u (bsq hb hu), ht2.rt.below hu⟩
    have HT2 : Hid (tr M2 = plT (tr L) n) := hT2
    clear hb ht2 hT2 HP2 HR1
    repeat' (first | go_values | go_skip | go_guarded | go_step | go_upon | (simp only [Int.not_lt, Int.not_le] at *; go_simp))
    refine (HL.out _).mono ?_
    rintro e u3 ⟨rfl, hb⟩
    have HB3 : Hid (Below u2.heap.size u2 u3) := hb
    replace hM := hM.call hb
    clear hb
    repeat' (first | (go_big_may; first | (refine v_get rfl rfl (.inr rfl) rfl hM.at1 G1.out ?_) | (refine v_get rfl rfl (.inr rfl) rfl hM.at0 G2.out ?_)) | go_values | go_skip | go_guarded | go_step | go_upon | (simp only [Int.not_lt, Int.not_le] at *; go_simp))
    refine (HEq.out _ hM.below).mono ?_
    rintro e u4 ⟨rfl, hb⟩
    have HB4 : Hid (Below u2.heap.size u2 u4) := bsq HB3.out hb
    replace hM := hM.call hb
    clear hb HB3
    repeat' (first | (go_big_may; first | (refine v_load rfl rfl row_node rfl hM.at0 (Nat.le_refl 4) rfl ?_)) | go_values | go_skip | go_guarded | go_step | go_upon | (simp only [Int.not_lt, Int.not_le] at *; go_simp))
    refine (HA.out _ _ M1 hM.below (HR2.out _ HB4.out).1 HT1.out).mono ?_
    rintro e u5 ⟨v5, M5, rfl, ht5, hT5, hb⟩
    have HB5 : Hid (Below u2.heap.size u2 u5) := bsq HB4.out hb
    have HR5 : Hid (∀ u, Below u5.heap.size u5 u → Rt u v5 M5) := fun u hu => ht5.rt.below hu
    have HT5 : Hid (tr M5 = T) := hT5
    replace hM := hM.call hb
    clear hb HB4 ht5 hT5
    repeat' (first | (go_big_may; first | (refine v_load rfl rfl row_node rfl hM.at1 (Nat.le_refl 4) rfl ?_)) | go_values | go_skip | go_guarded | go_step | go_upon | (simp only [Int.not_lt, Int.not_le] at *; go_simp))
    refine (HB.out _ _ M2 hM.below (HR2.out _ HB5.out).2 HT2.out).mono ?_
    rintro e u6 ⟨v6, M6, rfl, ht6, hT6, hb⟩
    have HR6 : Hid (Rt u6 v5 M5 ∧ Rt u6 v6 M6 ∧ tr M5 = tr M6) := ⟨HR5.out u6 hb, ht6.rt, by rw [HT5.out, hT6]⟩
    replace hM := hM.call hb
    clear hb HB5 ht6 hT6 HR5 HT5 HR2 HA HB
    repeat' (first | go_values | go_skip | go_guarded | go_step | go_upon | (simp only [Int.not_lt, Int.not_le] at *; go_simp))
    refine (HS.out _ _ _ M5 M6 HR6.out.1 HR6.out.2.1 HR6.out.2.2).mono ?_
    rintro e u7 ⟨rfl, hb⟩
    replace hM := hM.call hb
    clear hb
    repeat' (first | go_values | go_skip | go_guarded | go_step | go_upon | (simp only [Int.not_lt, Int.not_le] at *; go_simp))
    go_ret
    exact ⟨rfl, hM.below⟩
end Go.Proofs.Ytemlafdmeaobfab.topoOrder
