/- StrikeUsed: fates that were not used do not matter. -/
import Derived.Test.YtgnffifohdgekacStrD
import Derived.Test.YtgnffifohdgekacStrE
import Derived.Test.YtgnffifohdgekacStrI
namespace Go.Proofs.Ytgnffifohdgekac.strikeUsed
open Go.RowKit Go.Proofs.Ytgnffifohdgekac.pipe Go.Proofs.Ytgnffifohdgekac.strike
set_option linter.unusedVariables false
set_option linter.unusedSimpArgs false
set_option maxRecDepth 100000

theorem used_cut {n : Nat} {t : ByteArray} {F M : List Int} {r : Rs} (n1 : 1 ≤ n) (hr : gt (t.size / n + 1) (0, 0) 0 F = r) (h10 : r.k ≠ 10) (hz : caC (n : Int) t (F.take r.u ++ M) = 0) : caV (n : Int) t (F.take r.u ++ M) = toC n t r := by
  obtain ⟨n', r', hn, _, _, _, _, _, _, hr', hV, _⟩ := ca_facts hz
  have hn : n' = n := by omega
  subst hn
  rw [hV, ← hr', ← hr, gt_cut M F _ _ (by rw [hr]; exact h10)]
set_option maxHeartbeats 4000000 in
theorem walk (a0 : ByteArray) (a1 : Int) (v2 : Value) (l2 : List Int) (v3 : Value) (l3 : List Int) (w0 : a0.size ≤ maxLen) (w1 : (Lit.int .i64 a1).wf = true) (w : World) (hp2 : Ris w v2 l2) (hk2 : l2.length * 8 ≤ reachBytes) (hp3 : Ris w v3 l3) (hk3 : l3.length * 8 ≤ reachBytes) :
    Calls Try.prog 4 #[.string a0, .int .i64 a1, v2, v3] w fun e w' => e = .returned (.bool true) ∧ Below w.heap.size w w' := by
  clear w1 hk2
  unfold reachBytes at hk3
  have HR : Hid (Calls Try.prog 5 #[.string a0, .int .i64 a1, v2] w fun e w' => e = .returned (.tuple #[crV (caV a1 a0 l2).k (caV a1 a0 l2).g (caV a1 a0 l2).d (caV a1 a0 l2).u, .int .i64 (caC a1 a0 l2)]) ∧ Below w.heap.size w w') := carry_any a1 a0 v2 l2 w w0 hp2
  have HLI : Hid (∀ u, Calls Try.prog 6 #[] u fun e w' => e = .returned (.bool true) ∧ Below u.heap.size u w') := strike.lives_any
  have HF : Hid (Ris w v2 l2) := hp2
  have HM : Hid (Ris w v3 l3 ∧ l3.length ≤ 17592186043904) := ⟨hp3, by omega⟩
  obtain ⟨fa, fc, rfl, _, _, _⟩ := hp2
  obtain ⟨ma, mc, rfl, _, _, _⟩ := hp3
  obtain ⟨fn, hfn⟩ : ∃ n, l2.length = n := ⟨_, rfl⟩
  obtain ⟨mn, hmn⟩ : ∃ n, l3.length = n := ⟨_, rfl⟩
  obtain ⟨z, hz⟩ : ∃ z, caC a1 a0 l2 = z := ⟨_, rfl⟩
  obtain ⟨⟨ck, cg, cd, cu⟩, hc⟩ : ∃ c, caV a1 a0 l2 = c := ⟨_, rfl⟩
  have HC : Hid (caV a1 a0 l2 = ⟨ck, cg, cd, cu⟩ ∧ caC a1 a0 l2 = z ∧ l2.length = fn ∧ a0.size ≤ maxLen ∧ l3.length = mn) := ⟨hc, hz, hfn, w0, hmn⟩
  rw [hc, hz, hfn] at HR
  rw [hfn] at HF ⊢
  rw [hmn] at HM ⊢
  clear hc hz hfn w0 hmn hk3
  go_enter Try.func4, Try.ntmps4
  go_wp2_with fail
  refine HR.out.mono ?_
  rintro e u ⟨rfl, hb⟩
  obtain ⟨u1, uf, hu1, huf, hX1, hXf, hbf⟩ := cr_laid u ck cg cd cu
  obtain ⟨⟨hz1, x0, x1, x2, x3⟩, f0, f1, f2, f3⟩ := cbox hX1
  have HQ : Hid (uf.heap[u.heap.size]? = some (crO ck cg cd cu) ∧ Below w.heap.size w uf) := ⟨hXf, bsq hb hbf⟩
  clear hb hX1 hXf hbf HR
  go_wp2_with fail
  try rw [huf]
  refine (HLI.out _).mono ?_
  rintro e u3 ⟨rfl, hb3⟩
  have HB3 : Hid (Below w.heap.size w u3 ∧ u3.heap[u.heap.size]? = some (crO ck cg cd cu)) := ⟨bsq HQ.out.2 hb3, keep HQ.out.1 hb3⟩
  obtain ⟨⟨hz3, i0, i1, i2, i3⟩, _⟩ := cbox HB3.out.2
  clear hb3 HQ huf hu1 x0 x1 x2 x3 f0 f1 f2 f3 hz1
  by_cases hz0 : ¬ z = 0
  · have e0 : (z != 0) = true := by simpa using hz0
    clear hz0 HC
    go_wp2_with fail
    refine (HLI.out _).mono ?_
    rintro e u4 ⟨rfl, hb4⟩
    have HB : Hid (Below w.heap.size w u4) := bsq HB3.out.1 hb4
    clear hb4 HB3
    go_wp2
    go_ret
    exact ⟨rfl, HB.out⟩
  have hz0 : z = 0 := Classical.not_not.1 hz0
  subst hz0
  obtain ⟨n, r, rfl, n1, n2, t4, hF, hFa, _, hr, hV, hok⟩ := ca_facts HC.out.2.1
  rw [HC.out.1] at hV
  obtain ⟨k1, k2, k3, k4⟩ := to_parts hV.symm
  have hus := gt_used (n := a0.size / n + 1) l2 (0, 0) 0
  rw [hr, HC.out.2.2.1] at hus
  rw [HC.out.2.2.1] at hF
  have HCU : Hid (∀ M : List Int, r.k ≠ 10 → caC (n : Int) a0 (l2.take r.u ++ M) = 0 → caV (n : Int) a0 (l2.take r.u ++ M) = ⟨ck, cg, cd, cu⟩) := fun M h10 hz => by
    rw [hV]; exact used_cut n1 hr h10 hz
  subst k1 k4
  have v1 := hus.1
  clear hV hus hok hr hFa k2 k3
  generalize r.u = un at *
  generalize r.k = kk at *
  by_cases h10 : kk = 10
  · subst h10
    clear HC HCU
    go_wp2_with fail
    refine (HLI.out _).mono ?_
    rintro e u4 ⟨rfl, hb4⟩
    obtain ⟨⟨hz4, j0, j1, j2, j3⟩, _⟩ := cbox (keep HB3.out.2 hb4)
    have HB4 : Hid (Below w.heap.size w u4) := bsq HB3.out.1 hb4
    clear hb4 HB3 i0 i1 i2 i3
    go_wp2
    go_ret
    exact ⟨rfl, HB4.out⟩
  have e10 : (kk == 10) = false := by simpa using h10
  have e0 : decide ((un : Int) < 0) = false := by rw [decide_eq_false_iff_not]; omega
  have e1 : decide ((un : Int) > (fn : Int)) = false := by rw [decide_eq_false_iff_not]; omega
  obtain ⟨hsl, hRi⟩ := strike.Ris.upto (HF.out.below HB3.out.1) un v1
  have hTl : (l2.take un).length = un := by rw [List.length_take, Nat.min_eq_left (by have := HC.out.2.2.1; omega)]
  have HCL : Hid (Calls Try.prog 7 #[.slice fa un fc] u3 fun e w' => ∃ v', e = .returned v' ∧ Ixs w' u3.heap.size v' (l2.take un) ∧ Below u3.heap.size u3 w') := cloneI_any _ _ u3 hRi (by omega)
  have HTL : Hid ((l2.take un).length = un ∧ un ≤ 1000) := ⟨hTl, by omega⟩
  have HK : Hid (∀ M : List Int, caC (n : Int) a0 (l2.take un ++ M) = 0 → caV (n : Int) a0 (l2.take un ++ M) = ⟨kk, cg, cd, (un : Int)⟩) := fun M hz => HCU.out M h10 hz
  clear HCU hRi hTl h10
  go_wp2_with fail
  refine HCL.out.mono ?_
  rintro e u4 ⟨v4, rfl, hx4, hb4⟩
  have HX4 : Hid (Ixs u4 u3.heap.size v4 (l2.take un) ∧ Below u3.heap.size u3 u4) := ⟨hx4, hb4⟩
  have HM4 : Hid (Ris u4 (.slice ma mn mc) l3) := HM.out.1.below (bsq HB3.out.1 hb4)
  clear hx4 hb4 HCL
  go_wp2_with
    (at_builtin
     refine wpList_ints _ rfl _ _ rfl u3.heap.size _ _ rfl HX4.out.1 _ l3 rfl HM4.out (by have := HTL.out; have := HM.out.2; have := HC.out.2.2.2.2; omega) HX4.out.2.size ?_
     intro v5 w5 q1 q3
     have t1 : Hid (Ixs w5 u3.heap.size v5 (l2.take un ++ l3)) := q1
     have t2 : Hid (Below u3.heap.size u3 w5) := HX4.out.2.trans q3
     clear q1 q3)
  have HR2 : Hid (Calls Try.prog 5 #[.string a0, .int .i64 (n : Int), v5] w5 fun e w' => e = .returned (.tuple #[crV (caV (n : Int) a0 (l2.take un ++ l3)).k (caV (n : Int) a0 (l2.take un ++ l3)).g (caV (n : Int) a0 (l2.take un ++ l3)).d (caV (n : Int) a0 (l2.take un ++ l3)).u, .int .i64 (caC (n : Int) a0 (l2.take un ++ l3))]) ∧ Below w5.heap.size w5 w') := carry_any _ a0 v5 _ w5 HC.out.2.2.2.1 t1.out.ris
  have HK2 := HK.out l3
  obtain ⟨z2, hz2⟩ : ∃ z, caC (n : Int) a0 (l2.take un ++ l3) = z := ⟨_, rfl⟩
  obtain ⟨⟨dk, dg, dd, du⟩, hd⟩ : ∃ c, caV (n : Int) a0 (l2.take un ++ l3) = c := ⟨_, rfl⟩
  rw [hz2, hd] at HK2 HR2
  have HK3 : Hid (z2 = 0 → (⟨dk, dg, dd, du⟩ : Cd) = ⟨kk, cg, cd, (un : Int)⟩) := HK2
  have H5 : Hid (w5.heap[u.heap.size]? = some (crO kk cg cd (un : Int)) ∧ Below w.heap.size w w5) := ⟨keep HB3.out.2 t2.out, bsq HB3.out.1 t2.out⟩
  clear HK2 HK hz2 hd t1 t2 HX4 HM4 HM HF HC HB3 i0 i1 i2 i3 hz3
  go_wp2_with fail
  refine HR2.out.mono ?_
  rintro e u6 ⟨rfl, hb6⟩
  obtain ⟨u7, u8, hu7, hu8, hX7, hX8, hb8⟩ := cr_laid u6 dk dg dd du
  obtain ⟨⟨hz7, x0, x1, x2, x3⟩, f0, f1, f2, f3⟩ := cbox hX7
  obtain ⟨⟨hz8, y0, y1, y2, y3⟩, _⟩ := cbox hX8
  obtain ⟨⟨hz9, i0, i1, i2, i3⟩, _⟩ := cbox (keep (keep H5.out.1 hb6) hb8)
  have HB : Hid (Below w.heap.size w u8) := bsq H5.out.2 (bsq hb6 hb8)
  clear hX7 hX8 hb8 hb6 H5 HR2
  by_cases hz2 : ¬ z2 = 0
  · have e2 : (z2 != 0) = true := by simpa using hz2
    clear hz2 HK3
    go_wp2
    go_ret
    try rw [hu8]
    exact ⟨rfl, HB.out⟩
  have hz2 : z2 = 0 := Classical.not_not.1 hz2
  have h3 := HK3.out hz2
  injection h3 with s1 s2 s3 s4
  subst hz2 s1 s2 s3 s4
  have heq := fun w => eql_cr dk dg dd (un : Int) w
  clear HK3
  go_wp2
  go_ret
  try rw [hu8]
  exact ⟨rfl, HB.out⟩
end Go.Proofs.Ytgnffifohdgekac.strikeUsed
