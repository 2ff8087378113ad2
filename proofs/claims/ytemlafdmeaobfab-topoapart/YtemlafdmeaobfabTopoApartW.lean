/- TopoApart: branches that are apart may be pulled in either order. -/
import Derived.Test.YtemlafdmeaobfabTopK
import Derived.Test.YtemlafdmeaobfabTopR
import Derived.Test.YtemlafdmeaobfabTopU
import Derived.Test.YtemlafdmeaobfabRouH
namespace Go.Proofs.Ytemlafdmeaobfab.topoApart
open Go Go.RowKit Go.Proofs.Ytemlafdmeaobfab.route Go.Proofs.Ytemlafdmeaobfab.topo
set_option linter.unusedVariables false
set_option linter.unusedSimpArgs false
set_option maxRecDepth 100000

set_option maxHeartbeats 4000000 in
theorem walk (v : Value) (L : NL) (x : Value) (p : List Int) (y : Value) (q : List Int) (W : World) (hp : Rt W v L) (hk : L.length * 48 ≤ reachBytes ∧ ∀ q ∈ L, q.2.1.length * 8 ≤ reachBytes) (hx : Ris W x p) (hk1 : p.length * 8 ≤ reachBytes) (hy : Ris W y q) (hk2 : q.length * 8 ≤ reachBytes) :
    Calls Try.prog 4 #[v, x, y] W fun e w' => e = .returned (.bool true) ∧ Below W.heap.size W w' := by
  have HL : Hid (∀ u, Calls Try.prog 7 #[] u fun e u' => e = .returned (.bool true) ∧ Below u.heap.size u u') := fun u => lives_any u
  have HP1 : Hid (Calls Try.prog 10 #[v, x] W fun e u' => ∃ v1 v2 M1 M2, e = .returned (.tuple #[v1, v2, .int .i64 (unC (tr L) p)]) ∧ Tt u' W.heap.size v1 M1 ∧ Tt u' W.heap.size v2 M2 ∧ tr M1 = unL (tr L) p ∧ tr M2 = unG (tr L) p ∧ Below W.heap.size W u') := unplug_any v x L p W hp hx (reach48 hk.2)
  have HP2 : Hid (∀ u, Below W.heap.size W u → Calls Try.prog 10 #[v, y] u fun e u' => ∃ v1 v2 M1 M2, e = .returned (.tuple #[v1, v2, .int .i64 (unC (tr L) q)]) ∧ Tt u' u.heap.size v1 M1 ∧ Tt u' u.heap.size v2 M2 ∧ tr M1 = unL (tr L) q ∧ tr M2 = unG (tr L) q ∧ Below u.heap.size u u') := fun u hb => unplug_any v y L q u (hp.below hb) (hy.below hb) (reach48 hk.2)
  have HT : Hid (unC (tr L) p = 0 → ∀ u, Below W.heap.size W u → Calls Try.prog 11 #[v] u fun e u' => e = .returned (.int .i64 0) ∧ Below u.heap.size u u') := fun hz u hb => by
    have := tree_any v L u (hp.below hb)
    rw [chkT_ok.2 (unC_ok.1 hz).1] at this
    exact this
  have HBg : Hid (unC (tr L) p = 0 → unC (tr L) q = 0 → ∀ u, Below W.heap.size W u → Calls Try.prog 12 #[x, y] u fun e u' => ∃ v, e = .returned v ∧ Ris u' v (meet p q) ∧ Below u.heap.size u u') := fun h1 h2 u hb => by
    obtain ⟨g1, n1, m1, r1⟩ := unC_ok.1 h1
    obtain ⟨g2, n2, m2, r2⟩ := unC_ok.1 h2
    have l1 := gd_six g1 n1 m1
    have l2 := gd_six g2 n2 m2
    rw [r1] at l1
    rw [r2] at l2
    exact beginning_any x y p q u (hx.below hb) (hy.below hb) (by omega) (by omega)
  have HS : Hid (∀ u v1 v2 M1 M2, Rt u v1 M1 → Rt u v2 M2 → tr M1 = tr M2 → Calls Try.prog 9 #[v1, v2] u fun e u' => e = .returned (.bool true) ∧ Below u.heap.size u u') := fun u v1 v2 M1 M2 h1 h2 he => by
    have := sameT_any v1 v2 M1 M2 u h1 h2
    rw [decide_eq_true he] at this
    exact this
  have HQ : Hid (unC (tr L) p = 0 → unC (tr L) q = 0 → com p q ≠ p.length → com p q ≠ q.length → ∃ T, (∀ u va M, Below W.heap.size W u → Rt u va M → tr M = unL (tr L) p → Calls Try.prog 10 #[va, y] u fun e u' => ∃ v1 v2 M1 M2, e = .returned (.tuple #[v1, v2, .int .i64 0]) ∧ Tt u' u.heap.size v1 M1 ∧ Tt u' u.heap.size v2 M2 ∧ tr M1 = T ∧ tr M2 = unG (tr L) q ∧ Below u.heap.size u u') ∧ (∀ u va M, Below W.heap.size W u → Rt u va M → tr M = unL (tr L) q → Calls Try.prog 10 #[va, x] u fun e u' => ∃ v1 v2 M1 M2, e = .returned (.tuple #[v1, v2, .int .i64 0]) ∧ Tt u' u.heap.size v1 M1 ∧ Tt u' u.heap.size v2 M2 ∧ tr M1 = T ∧ tr M2 = unG (tr L) p ∧ Below u.heap.size u u')) := fun h1 h2 h3 h4 => by
    obtain ⟨a1, a2, a3⟩ := un_apart h1 h2 h3 h4
    obtain ⟨b1, b2, b3⟩ := un_apart h2 h1 (by rw [com_comm]; exact h4) (by rw [com_comm]; exact h3)
    have g1 := (unC_ok.1 h1).1
    have e1 : unL (tr L) p = lef (tr L) p := by unfold unL; rw [if_pos h1]
    have e2 : unL (tr L) q = lef (tr L) q := by unfold unL; rw [if_pos h2]
    have e3 : unG (tr L) p = gon (tr L) p := by unfold unG; rw [if_pos h1]
    have e4 : unG (tr L) q = gon (tr L) q := by unfold unG; rw [if_pos h2]
    refine ⟨lef (lef (tr L) p) q, fun u va M hb hr hM => ?_, fun u va M hb hr hM => ?_⟩
    · have := unplug_any va y M q u hr (hy.below hb) (ok48_of (by rw [hM, e1]; exact gd_six (lef_gd g1 p)))
      rw [hM, e1] at this
      unfold unL unG at this
      rw [a1, if_pos rfl, if_pos rfl, a2] at this
      rw [e4]
      exact this
    · have := unplug_any va x M p u hr (hx.below hb) (ok48_of (by rw [hM, e2]; exact gd_six (lef_gd g1 q)))
      rw [hM, e2] at this
      unfold unL unG at this
      rw [b1, if_pos rfl, if_pos rfl, b2, b3] at this
      rw [e3]
      exact this
  obtain ⟨xa, xc, rfl, hxc, hxm⟩ := hx.form
  obtain ⟨ya, yc, rfl, hyc, hym⟩ := hy.form
  have hml := meet_len p q
  obtain ⟨cc, hcc⟩ : ∃ c, unC (tr L) p = c := ⟨_, rfl⟩
  obtain ⟨dd, hdd⟩ : ∃ c, unC (tr L) q = c := ⟨_, rfl⟩
  obtain ⟨lp, hlp⟩ : ∃ l, p.length = l := ⟨_, rfl⟩
  obtain ⟨lq, hlq⟩ : ∃ l, q.length = l := ⟨_, rfl⟩
  obtain ⟨k, hkk⟩ : ∃ l, com p q = l := ⟨_, rfl⟩
  simp only [hcc, hdd, hlp, hlq, hkk] at HP1 HP2 HT HBg HQ hml ⊢
  have HML : Hid ((meet p q).length = k) := hml
  have hM := Mm.nil W
  clear hp hk hx hk1 hy hk2 hcc hdd hlp hlq hkk hml hxc hxm hyc hym
  by_cases h1 : cc ≠ 0
  · have e1 : (cc != 0) = true := by simpa using h1
    clear HQ h1 HBg HS HT
    go_enter Try.func4, Try.ntmps4
    repeat' (first | go_values | go_skip | go_guarded | go_step | go_upon | (simp only [Int.not_lt, Int.not_le] at *; go_simp))
    refine HP1.out.mono ?_
    rintro e u1 ⟨v1, v2, M1, M2, rfl, ht1, ht2, hT1, hT2, hb⟩
    replace hM := hM.call hb
    clear hb ht1 ht2 hT1 hT2 HP1
    repeat' (first | go_values | go_skip | go_guarded | go_step | go_upon | (simp only [Int.not_lt, Int.not_le] at *; go_simp))
    refine (HP2.out _ hM.below).mono ?_
    rintro e u2 ⟨v3, v4, M3, M4, rfl, ht3, ht4, hT3, hT4, hb⟩
    replace hM := hM.call hb
    clear hb ht3 ht4 hT3 hT4 HP2
    repeat' (first | go_values | go_skip | go_guarded | go_step | go_upon | (simp only [Int.not_lt, Int.not_le] at *; go_simp))
    refine (HL.out _).mono ?_
    rintro e u3 ⟨rfl, hb⟩
    replace hM := hM.call hb
    clear hb
    repeat' (first | go_values | go_skip | go_guarded | go_step | go_upon | (simp only [Int.not_lt, Int.not_le] at *; go_simp))
    refine (HL.out _).mono ?_
    rintro e u4 ⟨rfl, hb⟩
    replace hM := hM.call hb
    clear hb
    repeat' (first | go_values | go_skip | go_guarded | go_step | go_upon | (simp only [Int.not_lt, Int.not_le] at *; go_simp))
    go_ret
    exact ⟨rfl, hM.below⟩
  have h1 : cc = 0 := Classical.not_not.1 h1
  subst h1
  have e1 : ((0 : Int) != 0) = false := rfl
  by_cases h2 : dd ≠ 0
  · have e2 : (dd != 0) = true := by simpa using h2
    clear HQ h2 HBg HS HT
    go_enter Try.func4, Try.ntmps4
    repeat' (first | go_values | go_skip | go_guarded | go_step | go_upon | (simp only [Int.not_lt, Int.not_le] at *; go_simp))
    refine HP1.out.mono ?_
    rintro e u1 ⟨v1, v2, M1, M2, rfl, ht1, ht2, hT1, hT2, hb⟩
    replace hM := hM.call hb
    clear hb ht1 ht2 hT1 hT2 HP1
    repeat' (first | go_values | go_skip | go_guarded | go_step | go_upon | (simp only [Int.not_lt, Int.not_le] at *; go_simp))
    refine (HP2.out _ hM.below).mono ?_
    rintro e u2 ⟨v3, v4, M3, M4, rfl, ht3, ht4, hT3, hT4, hb⟩
    replace hM := hM.call hb
    clear hb ht3 ht4 hT3 hT4 HP2
    repeat' (first | go_values | go_skip | go_guarded | go_step | go_upon | (simp only [Int.not_lt, Int.not_le] at *; go_simp))
    refine (HL.out _).mono ?_
    rintro e u3 ⟨rfl, hb⟩
    replace hM := hM.call hb
    clear hb
    repeat' (first | go_values | go_skip | go_guarded | go_step | go_upon | (simp only [Int.not_lt, Int.not_le] at *; go_simp))
    refine (HL.out _).mono ?_
    rintro e u4 ⟨rfl, hb⟩
    replace hM := hM.call hb
    clear hb
    repeat' (first | go_values | go_skip | go_guarded | go_step | go_upon | (simp only [Int.not_lt, Int.not_le] at *; go_simp))
    go_ret
    exact ⟨rfl, hM.below⟩
  have h2 : dd = 0 := Classical.not_not.1 h2
  subst h2
  have HT2 : Hid (∀ u, Below W.heap.size W u → Calls Try.prog 11 #[v] u fun e u' => e = .returned (.int .i64 0) ∧ Below u.heap.size u u') := HT.out rfl
  have HBg2 : Hid (∀ u, Below W.heap.size W u → Calls Try.prog 12 #[.slice xa lp xc, .slice ya lq yc] u fun e u' => ∃ v, e = .returned v ∧ Ris u' v (meet p q) ∧ Below u.heap.size u u') := HBg.out rfl rfl
  have HQ2 := HQ.out rfl rfl
  clear HT HBg HQ
  have e3 : ((0 : Int) == 0) = true := rfl
  by_cases h3 : k = lp ∨ k = lq
  · have c0 : (((k : Int) == (lp : Int)) || ((k : Int) == (lq : Int))) = true := by
      rw [Bool.or_eq_true, beq_iff_eq, beq_iff_eq]
      omega
    clear HQ2 HS
    cases c1 : ((k : Int) == (lp : Int)) with
    | true =>
      clear h3 c0
      go_enter Try.func4, Try.ntmps4
      repeat' (first | go_values | go_skip | go_guarded | go_step | go_upon | (simp only [Int.not_lt, Int.not_le] at *; go_simp))
      refine HP1.out.mono ?_
      rintro e u1 ⟨v1, v2, M1, M2, rfl, ht1, ht2, hT1, hT2, hb⟩
      replace hM := hM.call hb
      clear hb ht1 ht2 hT1 hT2 HP1
      repeat' (first | go_values | go_skip | go_guarded | go_step | go_upon | (simp only [Int.not_lt, Int.not_le] at *; go_simp))
      refine (HP2.out _ hM.below).mono ?_
      rintro e u2 ⟨v3, v4, M3, M4, rfl, ht3, ht4, hT3, hT4, hb⟩
      replace hM := hM.call hb
      clear hb ht3 ht4 hT3 hT4 HP2
      repeat' (first | go_values | go_skip | go_guarded | go_step | go_upon | (simp only [Int.not_lt, Int.not_le] at *; go_simp))
      refine (HL.out _).mono ?_
      rintro e u3 ⟨rfl, hb⟩
      replace hM := hM.call hb
      clear hb
      repeat' (first | go_values | go_skip | go_guarded | go_step | go_upon | (simp only [Int.not_lt, Int.not_le] at *; go_simp))
      refine (HT2.out _ hM.below).mono ?_
      rintro e u4 ⟨rfl, hb⟩
      replace hM := hM.call hb
      clear hb
      repeat' (first | go_values | go_skip | go_guarded | go_step | go_upon | (simp only [Int.not_lt, Int.not_le] at *; go_simp))
      refine (HBg2.out _ hM.below).mono ?_
      rintro e u5 ⟨v5, rfl, hr5, hb⟩
      replace hM := hM.call hb
      obtain ⟨za, zc, hv5, _, _⟩ := hr5.form
      rw [HML.out] at hv5
      subst hv5
      clear hb hr5
      repeat' (first | go_values | go_skip | go_guarded | go_step | go_upon | (simp only [Int.not_lt, Int.not_le] at *; go_simp))
      go_ret
      exact ⟨rfl, hM.below⟩
    | false =>
      have c2 : ((k : Int) == (lq : Int)) = true := by rw [c1, Bool.false_or] at c0; exact c0
      clear h3 c0
      go_enter Try.func4, Try.ntmps4
      repeat' (first | go_values | go_skip | go_guarded | go_step | go_upon | (simp only [Int.not_lt, Int.not_le] at *; go_simp))
      refine HP1.out.mono ?_
      rintro e u1 ⟨v1, v2, M1, M2, rfl, ht1, ht2, hT1, hT2, hb⟩
      replace hM := hM.call hb
      clear hb ht1 ht2 hT1 hT2 HP1
      repeat' (first | go_values | go_skip | go_guarded | go_step | go_upon | (simp only [Int.not_lt, Int.not_le] at *; go_simp))
      refine (HP2.out _ hM.below).mono ?_
      rintro e u2 ⟨v3, v4, M3, M4, rfl, ht3, ht4, hT3, hT4, hb⟩
      replace hM := hM.call hb
      clear hb ht3 ht4 hT3 hT4 HP2
      repeat' (first | go_values | go_skip | go_guarded | go_step | go_upon | (simp only [Int.not_lt, Int.not_le] at *; go_simp))
      refine (HL.out _).mono ?_
      rintro e u3 ⟨rfl, hb⟩
      replace hM := hM.call hb
      clear hb
      repeat' (first | go_values | go_skip | go_guarded | go_step | go_upon | (simp only [Int.not_lt, Int.not_le] at *; go_simp))
      refine (HT2.out _ hM.below).mono ?_
      rintro e u4 ⟨rfl, hb⟩
      replace hM := hM.call hb
      clear hb
      repeat' (first | go_values | go_skip | go_guarded | go_step | go_upon | (simp only [Int.not_lt, Int.not_le] at *; go_simp))
      refine (HBg2.out _ hM.below).mono ?_
      rintro e u5 ⟨v5, rfl, hr5, hb⟩
      replace hM := hM.call hb
      obtain ⟨za, zc, hv5, _, _⟩ := hr5.form
      rw [HML.out] at hv5
      subst hv5
      clear hb hr5
      repeat' (first | go_values | go_skip | go_guarded | go_step | go_upon | (simp only [Int.not_lt, Int.not_le] at *; go_simp))
      go_ret
      exact ⟨rfl, hM.below⟩
  have c1 : ((k : Int) == (lp : Int)) = false := by rw [beq_eq_false_iff_ne]; omega
  have c2 : ((k : Int) == (lq : Int)) = false := by rw [beq_eq_false_iff_ne]; omega
  obtain ⟨T, hA, hB⟩ := HQ2 (by omega) (by omega)
  have HA : Hid (∀ u va M, Below W.heap.size W u → Rt u va M → tr M = unL (tr L) p → Calls Try.prog 10 #[va, .slice ya lq yc] u fun e u' => ∃ v1 v2 M1 M2, e = .returned (.tuple #[v1, v2, .int .i64 0]) ∧ Tt u' u.heap.size v1 M1 ∧ Tt u' u.heap.size v2 M2 ∧ tr M1 = T ∧ tr M2 = unG (tr L) q ∧ Below u.heap.size u u') := hA
  have HB : Hid (∀ u va M, Below W.heap.size W u → Rt u va M → tr M = unL (tr L) q → Calls Try.prog 10 #[va, .slice xa lp xc] u fun e u' => ∃ v1 v2 M1 M2, e = .returned (.tuple #[v1, v2, .int .i64 0]) ∧ Tt u' u.heap.size v1 M1 ∧ Tt u' u.heap.size v2 M2 ∧ tr M1 = T ∧ tr M2 = unG (tr L) p ∧ Below u.heap.size u u') := hB
  clear HQ2 h3 hA hB
  go_enter Try.func4, Try.ntmps4
  repeat' (first | go_values | go_skip | go_guarded | go_step | go_upon | (simp only [Int.not_lt, Int.not_le] at *; go_simp))
  refine HP1.out.mono ?_
  rintro e u1 ⟨v1, v2, M1, M2, rfl, ht1, ht2, hT1, hT2, hb⟩
  replace hM := hM.call hb
  have HR1 : Hid (∀ u, Below u1.heap.size u1 u → Rt u v1 M1 ∧ Rt u v2 M2) := fun u hu => ⟨ht1.rt.below hu, ht2.rt.below hu⟩
  have HT1 : Hid (tr M1 = unL (tr L) p ∧ tr M2 = unG (tr L) p) := ⟨hT1, hT2⟩
  clear hb ht1 ht2 hT1 hT2 HP1
  repeat' (first | go_values | go_skip | go_guarded | go_step | go_upon | (simp only [Int.not_lt, Int.not_le] at *; go_simp))
  refine (HP2.out _ hM.below).mono ?_
  rintro e u2 ⟨v3, v4, M3, M4, rfl, ht3, ht4, hT3, hT4, hb⟩
  replace hM := hM.call hb
  have HR2 : Hid (∀ u, Below u2.heap.size u2 u → (Rt u v1 M1 ∧ Rt u v2 M2) ∧ Rt u v3 M3 ∧ Rt u v4 M4) := fun u hu => ⟨HR1.out u (bsq hb hu), ht3.rt.below hu, ht4.rt.below hu⟩
  have HT3 : Hid (tr M3 = unL (tr L) q ∧ tr M4 = unG (tr L) q) := ⟨hT3, hT4⟩
  clear hb ht3 ht4 hT3 hT4 HP2 HR1
  repeat' (first | go_values | go_skip | go_guarded | go_step | go_upon | (simp only [Int.not_lt, Int.not_le] at *; go_simp))
  refine (HL.out _).mono ?_
  rintro e u3 ⟨rfl, hb⟩
  replace hM := hM.call hb
  have HB3 : Hid (Below u2.heap.size u2 u3) := hb
  clear hb
  repeat' (first | go_values | go_skip | go_guarded | go_step | go_upon | (simp only [Int.not_lt, Int.not_le] at *; go_simp))
  refine (HT2.out _ hM.below).mono ?_
  rintro e u4 ⟨rfl, hb⟩
  replace hM := hM.call hb
  have HB4 : Hid (Below u2.heap.size u2 u4) := bsq HB3.out hb
  clear hb HB3
  repeat' (first | go_values | go_skip | go_guarded | go_step | go_upon | (simp only [Int.not_lt, Int.not_le] at *; go_simp))
  refine (HBg2.out _ hM.below).mono ?_
  rintro e u5 ⟨v5, rfl, hr5, hb⟩
  replace hM := hM.call hb
  have HB5 : Hid (Below u2.heap.size u2 u5) := bsq HB4.out hb
  obtain ⟨za, zc, hv5, _, _⟩ := hr5.form
  rw [HML.out] at hv5
  subst hv5
  clear hb hr5 HB4
  repeat' (first | go_values | go_skip | go_guarded | go_step | go_upon | (simp only [Int.not_lt, Int.not_le] at *; go_simp))
  refine (HA.out _ _ M1 hM.below (HR2.out _ HB5.out).1.1 HT1.out.1).mono ?_
  rintro e u6 ⟨v6, v7, M6, M7, rfl, ht6, ht7, hT6, hT7, hb⟩
  replace hM := hM.call hb
  have HB6 : Hid (Below u2.heap.size u2 u6) := bsq HB5.out hb
  have HR6 : Hid (∀ u, Below u6.heap.size u6 u → Rt u v6 M6 ∧ Rt u v7 M7) := fun u hu => ⟨ht6.rt.below hu, ht7.rt.below hu⟩
  have HT6 : Hid (tr M6 = T ∧ tr M7 = unG (tr L) q) := ⟨hT6, hT7⟩
  clear hb ht6 ht7 hT6 hT7 HA HB5
  repeat' (first | go_values | go_skip | go_guarded | go_step | go_upon | (simp only [Int.not_lt, Int.not_le] at *; go_simp))
  refine (HB.out _ _ M3 hM.below (HR2.out _ HB6.out).2.1 HT3.out.1).mono ?_
  rintro e u7 ⟨v8, v9, M8, M9, rfl, ht8, ht9, hT8, hT9, hb⟩
  replace hM := hM.call hb
  have HR7 : Hid (∀ u, Below u7.heap.size u7 u → (Rt u v6 M6 ∧ Rt u v8 M8) ∧ (Rt u v7 M7 ∧ Rt u v4 M4) ∧ (Rt u v9 M9 ∧ Rt u v2 M2)) := fun u hu => ⟨⟨(HR6.out u (bsq hb hu)).1, ht8.rt.below hu⟩, ⟨(HR6.out u (bsq hb hu)).2, (HR2.out u (bsq HB6.out (bsq hb hu))).2.2⟩, ⟨ht9.rt.below hu, (HR2.out u (bsq HB6.out (bsq hb hu))).1.2⟩⟩
  have HE : Hid (tr M6 = tr M8 ∧ tr M7 = tr M4 ∧ tr M9 = tr M2) := ⟨by rw [HT6.out.1, hT8], by rw [HT6.out.2, HT3.out.2], by rw [hT9, HT1.out.2]⟩
  clear hb ht8 ht9 hT8 hT9 HB HB6 HR6 HR2 HT1 HT3 HT6
  repeat' (first | go_values | go_skip | go_guarded | go_step | go_upon | (simp only [Int.not_lt, Int.not_le] at *; go_simp))
  refine (HS.out _ _ _ M6 M8 (HR7.out _ (Below.refl _ _)).1.1 (HR7.out _ (Below.refl _ _)).1.2 HE.out.1).mono ?_
  rintro e u8 ⟨rfl, hb⟩
  replace hM := hM.call hb
  have HB8 : Hid (Below u7.heap.size u7 u8) := hb
  clear hb
  repeat' (first | go_values | go_skip | go_guarded | go_step | go_upon | (simp only [Int.not_lt, Int.not_le] at *; go_simp))
  refine (HS.out _ _ _ M7 M4 (HR7.out _ HB8.out).2.1.1 (HR7.out _ HB8.out).2.1.2 HE.out.2.1).mono ?_
  rintro e u9 ⟨rfl, hb⟩
  replace hM := hM.call hb
  have HB9 : Hid (Below u7.heap.size u7 u9) := bsq HB8.out hb
  clear hb HB8
  repeat' (first | go_values | go_skip | go_guarded | go_step | go_upon | (simp only [Int.not_lt, Int.not_le] at *; go_simp))
  refine (HS.out _ _ _ M9 M2 (HR7.out _ HB9.out).2.2.1 (HR7.out _ HB9.out).2.2.2 HE.out.2.2).mono ?_
  rintro e u10 ⟨rfl, hb⟩
  replace hM := hM.call hb
  clear hb HB9
  repeat' (first | go_values | go_skip | go_guarded | go_step | go_upon | (simp only [Int.not_lt, Int.not_le] at *; go_simp))
  go_ret
  exact ⟨rfl, hM.below⟩
end Go.Proofs.Ytemlafdmeaobfab.topoApart
