/- TopoGone: what is gone is all of a branch, the uppermost first; plugged again, in that order, it makes the tree that there was. -/
import Derived.Test.YtemlafdmeaobfaaTopK
import Derived.Test.YtemlafdmeaobfaaTopR
import Derived.Test.YtemlafdmeaobfaaTopL
namespace Go.Proofs.Ytemlafdmeaobfaa.topoGone
open Go Go.RowKit Go.Proofs.Ytemlafdmeaobfaa.route Go.Proofs.Ytemlafdmeaobfaa.topo
set_option linter.unusedVariables false
set_option linter.unusedSimpArgs false
set_option maxRecDepth 100000

set_option maxHeartbeats 4000000 in
theorem walk (v : Value) (L : NL) (y : Value) (p : List Int) (W : World) (hp : Rt W v L) (hk : L.length * 48 ≤ reachBytes ∧ ∀ q ∈ L, q.2.1.length * 8 ≤ reachBytes) (hy : Ris W y p) (hk2 : p.length * 8 ≤ reachBytes) :
    Calls Try.prog 8 #[v, y] W fun e w' => e = .returned (.bool true) ∧ Below W.heap.size W w' := by
  have HL : Hid (∀ u, Calls Try.prog 19 #[] u fun e u' => e = .returned (.bool true) ∧ Below u.heap.size u u') := fun u => lives_any u
  have HU : Hid (Calls Try.prog 17 #[v, y] W fun e u' => ∃ v1 v2 M1 M2, e = .returned (.tuple #[v1, v2, .int .i64 (unC (tr L) p)]) ∧ Tt u' W.heap.size v1 M1 ∧ Tt u' W.heap.size v2 M2 ∧ tr M1 = unL (tr L) p ∧ tr M2 = unG (tr L) p ∧ Below W.heap.size W u') := unplug_any v y L p W hp hy (reach48 hk.2)
  have HEq : Hid (∀ u qv m, Below W.heap.size W u → Ris u qv m → m = p → Calls Try.prog 20 #[qv, y] u fun e u' => e = .returned (.bool true) ∧ Below u.heap.size u u') := fun u qv m hb hr he => by
    have := equalI_any qv y m p u hr (hy.below hb)
    rw [decide_eq_true he] at this
    exact this
  have HS : Hid (∀ u va M, Below W.heap.size W u → Rt u va M → tr M = tr L → Calls Try.prog 16 #[va, v] u fun e u' => e = .returned (.bool true) ∧ Below u.heap.size u u') := fun u va M hb hr hT => by
    have := sameT_any va v M L u hr (hp.below hb)
    rw [decide_eq_true hT] at this
    exact this
  have HUn : Hid (unC (tr L) p ≠ 0 → unL (tr L) p = [] ∧ unG (tr L) p = []) := fun hz => by unfold unL unG; rw [if_neg hz, if_neg hz]; exact ⟨rfl, rfl⟩
  have HU0 : Hid (unC (tr L) p = 0 → unL (tr L) p = bak (tr L) p 0 ∧ unG (tr L) p = gon (tr L) p ∧ (∃ g r, gon (tr L) p = g :: r ∧ g.1 = p) ∧ (∀ k, k ≤ (gon (tr L) p).length → Gd (bak (tr L) p k) ∧ ∀ n, (gon (tr L) p)[k]? = some n → plC (bak (tr L) p k) n = 0 ∧ plT (bak (tr L) p k) n = bak (tr L) p (k + 1)) ∧ bak (tr L) p (gon (tr L) p).length = tr L ∧ (gon (tr L) p).length ≤ 40) := fun hz => by
    have hg := (unC_ok.1 hz).1
    refine ⟨?_, ?_, gon_first hz, fun k hk => ⟨(bak_gd hg p k hk).1, fun n hn => ?_⟩, bak_all hg p, ?_⟩
    · unfold unL; rw [if_pos hz, bak_zero]
    · unfold unG; rw [if_pos hz]
    · have h0 := (bak_gd hg p k hk).2 n hn
      refine ⟨h0, ?_⟩
      unfold plT
      rw [if_pos h0, bak_next hn]
    · have := two_len (tr L) p
      have := hg.len
      omega
  have HPl : Hid (∀ u va M qv m, Rt u va M → Gd (tr M) → Ris u qv m.1 → plC (tr M) m = 0 → Calls Try.prog 14 #[va, agv (ncl qv m)] u fun e u' => ∃ v' M', e = .returned (.tuple #[v', .int .i64 0]) ∧ Tt u' u.heap.size v' M' ∧ tr M' = plT (tr M) m ∧ Below u.heap.size u u') := fun u va M qv m hr hg hq hz => by
    have := plug_any va qv M m u hr hq (ok48_of (gd_six hg))
    rw [hz] at this
    exact this
  obtain ⟨dd, hdd⟩ : ∃ c, unC (tr L) p = c := ⟨_, rfl⟩
  simp only [hdd] at HU HU0 HUn
  obtain ⟨UL, hUL⟩ : ∃ T, unL (tr L) p = T := ⟨_, rfl⟩
  obtain ⟨UG, hUG⟩ : ∃ T, unG (tr L) p = T := ⟨_, rfl⟩
  simp only [hUL, hUG] at HU HU0 HUn
  have hM := Mm.nil W
  clear hp hk hy hk2 hdd hUL hUG
  by_cases hd : dd ≠ 0
  · have d2 : (dd != 0) = true := by simpa using hd
    have HE : Hid (UL = [] ∧ UG = []) := HUn.out hd
    clear HU0 HUn hd HPl HS HEq
    go_enter Try.func8, Try.ntmps8
    repeat' (first | go_values | go_skip | go_guarded | go_step | go_upon | (simp only [Int.not_lt, Int.not_le] at *; go_simp))
    refine HU.out.mono ?_
    rintro e u1 ⟨v1, v2, M1, M2, rfl, ht1, ht2, hT1, hT2, hb⟩
    replace hM := hM.call hb
    obtain ⟨pa, pc, hv1, _, _⟩ := ht1.rt.form
    obtain ⟨pa2, pc2, hv2, _, _⟩ := ht2.rt.form
    have hl1 : M1.length = 0 := by rw [← tr_len, hT1, HE.out.1]; rfl
    have hl2 : M2.length = 0 := by rw [← tr_len, hT2, HE.out.2]; rfl
    rw [hl1] at hv1
    rw [hl2] at hv2
    subst hv1 hv2
    clear hb ht1 ht2 hT1 hT2 HU hl1 hl2
    repeat' (first | go_values | go_skip | go_guarded | go_step | go_upon | (simp only [Int.not_lt, Int.not_le] at *; go_simp))
    refine (HL.out _).mono ?_
    rintro e u2 ⟨rfl, hb⟩
    replace hM := hM.call hb
    clear hb
    repeat' (first | go_values | go_skip | go_guarded | go_step | go_upon | (simp only [Int.not_lt, Int.not_le] at *; go_simp))
    refine (HL.out _).mono ?_
    rintro e u3 ⟨rfl, hb⟩
    replace hM := hM.call hb
    clear hb
    repeat' (first | go_values | go_skip | go_guarded | go_step | go_upon | (simp only [Int.not_lt, Int.not_le] at *; go_simp))
    go_ret
    exact ⟨rfl, hM.below⟩
  have hd : dd = 0 := Classical.not_not.1 hd
  subst hd
  obtain ⟨r1, r2, ⟨g0, gr, r3, r4⟩, r5, r6, r7⟩ := HU0.out rfl
  have d2 : ((0 : Int) != 0) = false := rfl
  obtain ⟨T, hT⟩ : ∃ T, tr L = T := ⟨_, rfl⟩
  simp only [hT] at HS r1 r2 r3 r5 r6 r7
  have HG : Hid (UL = bak T p 0 ∧ UG = gon T p) := ⟨r1, r2⟩
  have HG0 : Hid ((gon T p)[0]? = some g0 ∧ g0.1 = p ∧ 0 < (gon T p).length) := ⟨by rw [r3]; rfl, r4, by rw [r3]; simp⟩
  have HBk : Hid (∀ k, k ≤ (gon T p).length → Gd (bak T p k) ∧ ∀ n, (gon T p)[k]? = some n → plC (bak T p k) n = 0 ∧ plT (bak T p k) n = bak T p (k + 1)) := r5
  have HBa : Hid (bak T p (gon T p).length = T ∧ (gon T p).length ≤ 40) := ⟨r6, r7⟩
  clear HU0 HUn r1 r2 r3 r4 r5 r6 r7 hT
  go_enter Try.func8, Try.ntmps8
  repeat' (first | go_values | go_skip | go_guarded | go_step | go_upon | (simp only [Int.not_lt, Int.not_le] at *; go_simp))
  refine HU.out.mono ?_
  rintro e u1 ⟨v1, v2, M1, M2, rfl, ht1, ht2, hT1, hT2, hb⟩
  replace hM := hM.call hb
  have HR1 : Hid (∀ u, Below u1.heap.size u1 u → Rt u v1 M1) := fun u hu => ht1.rt.below hu
  have HT1 : Hid (tr M1 = bak T p 0) := by rw [← HG.out.1]; exact hT1
  have HT2 : Hid (tr M2 = gon T p) := by rw [← HG.out.2]; exact hT2
  obtain ⟨pa2, pc2, hv2, hpc, hpm⟩ := ht2.rt.form
  have hml : M2.length = (gon T p).length := by rw [← tr_len, HT2.out]
  obtain ⟨m, hm⟩ : ∃ m, M2.length = m := ⟨_, rfl⟩
  have hrt2 := ht2.rt
  rw [hm] at hv2 hpc
  subst hv2
  have HAT : Hid (∀ k q, M2[k]? = some q → ∃ g off, pa2 = some ⟨g, off, none⟩ ∧ ∀ u, Below u1.heap.size u1 u → u.rangeAt g (off + k * 4) (ncl q.1 q.2) ∧ Ris u q.1 q.2.1) := fun k q hq => hrt2.at k q hq
  have HMl : Hid (M2.length = m ∧ (gon T p).length = m) := ⟨hm, by rw [← hml]; exact hm⟩
  have hm40 : m ≤ 40 := by have := HBa.out.2; omega
  have hm0 : 0 < m := by have := HG0.out.2.2; omega
  have hmz : ((m : Int) == 0) = false := by rw [beq_eq_false_iff_ne]; omega
  unfold maxLen at hpm
  have HB1 : Hid (Below W.heap.size W u1) := hM.below
  clear hb ht1 ht2 hT1 hT2 HU hrt2 hm hml HG
  replace hM := Mm.nil u1
  repeat' (first | go_values | go_skip | go_guarded | go_step | go_upon | (simp only [Int.not_lt, Int.not_le] at *; go_simp))
  refine (HL.out _).mono ?_
  rintro e u2 ⟨rfl, hb⟩
  replace hM := hM.call hb
  clear hb
  obtain ⟨⟨qv, q⟩, hq⟩ : ∃ q, M2[0]? = some q := ⟨_, List.getElem?_eq_getElem (by have := HMl.out; omega)⟩
  obtain ⟨g, off, rfl, hat⟩ := HAT.out 0 _ hq
  rw [Nat.zero_mul, Nat.add_zero] at hat
  have hqp : q.1 = p := by
    have := tr_at hq
    rw [HT2.out, HG0.out.1] at this
    injection this with this
    have e : g0 = q := this
    rw [← e]
    exact HG0.out.2.1
  have HC0 : Hid (∀ u, Below u1.heap.size u1 u → u.cell? ⟨g, off, none⟩ = some qv ∧ Ris u qv q.1) := fun u hu => ⟨(hat u hu).1 0 _ rfl, (hat u hu).2⟩
  have HQP : Hid (q.1 = p) := hqp
  clear hat hqp hq HG0
  repeat' (first | (go_big_may; first | (refine v_cel rfl rfl (.inr rfl) rfl (HC0.out _ hM.below).1 ?_)) | go_values | go_skip | go_guarded | go_step | go_upon | (simp only [Int.not_lt, Int.not_le] at *; go_simp))
  refine (HEq.out _ _ q.1 (bsq HB1.out hM.below) (HC0.out _ hM.below).2 HQP.out).mono ?_
  rintro e u3 ⟨rfl, hb⟩
  replace hM := hM.call hb
  clear hb HC0 HQP HEq
  have HS0 : Hid (∃ M, Rt u3 v1 M ∧ tr M = bak T p 0 ∧ Below u1.heap.size u1 u3) := ⟨M1, HR1.out u3 hM.below, HT1.out, hM.below⟩
  clear hM HR1 HT1
  repeat' (first | go_values | go_skip | go_guarded | go_step | go_upon | (simp only [Int.not_lt, Int.not_le] at *; go_simp))
  go_loopw [5, 9, 10, 49] (fun vb _ _ i wr => ∃ k : Nat, k ≤ m ∧ i = .int .i64 (k : Int) ∧ Hid (∃ M, Rt wr vb M ∧ tr M = bak T p k ∧ Below u1.heap.size u1 wr)) (fun _ _ _ i _ => m - (intOf i).toNat)
  case atStart => exact ⟨0, Nat.zero_le _, rfl, HS0.out⟩
  case round =>
    clear HS0
    obtain ⟨k, hk, rfl, HA⟩ := hrel
    obtain ⟨M, hr, ht, hb⟩ := HA.out
    have HR : Hid (∀ u, Below wr.heap.size wr u → Rt u u5 M) := fun u hu => hr.below hu
    have HT : Hid (tr M = bak T p k) := ht
    have HB : Hid (Below u1.heap.size u1 wr) := hb
    clear HA hr ht hb
    by_cases hlt : ¬ k < m
    · have HQ : Hid (tr M = T) := by
        have e : k = (gon T p).length := by have := HMl.out; omega
        rw [HT.out, e]
        exact HBa.out.1
      have hM := Mm.nil wr
      clear HAT HPl HBk HT
      repeat' (first | go_values | go_skip | go_guarded | go_step | go_upon | (simp only [Int.not_lt, Int.not_le] at *; go_simp))
      refine (HS.out _ _ M (bsq HB1.out HB.out) (HR.out _ (Below.refl _ _)) HQ.out).mono ?_
      rintro e u6 ⟨rfl, hb⟩
      replace hM := hM.call hb
      clear hb
      repeat' (first | go_values | go_skip | go_guarded | go_step | go_upon | (simp only [Int.not_lt, Int.not_le] at *; go_simp))
      go_ret
      exact ⟨rfl, bsq HB1.out (bsq HB.out hM.below)⟩
    have hlt : k < m := by omega
    obtain ⟨⟨qv, q⟩, hq⟩ : ∃ q, M2[k]? = some q := ⟨_, List.getElem?_eq_getElem (by have := HMl.out; omega)⟩
    obtain ⟨g', off', e, hat⟩ := HAT.out k _ hq
    injection e with e
    injection e with e1 e2 _
    subst e1 e2
    have hgq : (gon T p)[k]? = some q := by rw [← HT2.out]; exact tr_at hq
    obtain ⟨hgd, hpl⟩ := HBk.out k (by have := HMl.out; omega)
    obtain ⟨p1, p2⟩ := hpl q hgq
    have HRG : Hid (∀ u, Below wr.heap.size wr u → u.rangeAt g (off + k * 4) (ncl qv q)) := fun u hu => (hat u (bsq HB.out hu)).1
    have HVQ : Hid (Vs (ncl qv q) 4) := ncl_vs q (ris_one (hat wr HB.out).2)
    have HP2 : Hid (∀ u, Below wr.heap.size wr u → Calls Try.prog 14 #[u5, agv (ncl qv q)] u fun e u' => ∃ v' M', e = .returned (.tuple #[v', .int .i64 0]) ∧ Tt u' u.heap.size v' M' ∧ tr M' = bak T p (k + 1) ∧ Below u.heap.size u u') := fun u hu => by
      have := HPl.out u u5 M qv q (HR.out u hu) (by rw [HT.out]; exact hgd) (hat u (bsq HB.out hu)).2 (by rw [HT.out]; exact p1)
      rw [HT.out, p2] at this
      exact this
    have hM := Mm.nil wr
    clear HAT HPl HBk HT HR hat hgq hgd hpl p1 p2 hq HS HBa
    repeat' (first | (go_big_may; first | (refine v_ldR rfl rfl row_node rfl (HRG.out _ hM.below) rfl ?_) | (refine v_alloc rfl zer_node rfl ?_; intro u xn hN; replace hM := hM.new hN; clear hN) | (refine v_fill rfl rfl row_node rfl rfl hM.at0 HVQ.out rfl ?_; intro u hv hc; replace hM := hM.put0 hc hv; clear hv hc) | (refine v_load rfl rfl row_node rfl hM.at0 (Nat.le_refl 4) rfl ?_)) | go_values | go_skip | go_guarded | go_step | go_upon | (simp only [Int.not_lt, Int.not_le] at *; go_simp))
    refine (HP2.out _ hM.below).mono ?_
    rintro e u6 ⟨v6, M6, rfl, ht6, hT6, hb⟩
    have HQ : Hid (∃ M, Rt u6 v6 M ∧ tr M = bak T p (k + 1) ∧ Below u1.heap.size u1 u6) := ⟨M6, ht6.rt, hT6, bsq HB.out (bsq hM.below hb)⟩
    clear hb ht6 hT6 hM HP2 HRG
    repeat' (first | go_values | go_skip | go_guarded | go_step | go_upon | (simp only [Int.not_lt, Int.not_le] at *; go_simp))
    go_roundw
    case rel => exact ⟨k + 1, by omega, by go_num, HQ.out⟩
    case measure => simp [intOf]; omega
end Go.Proofs.Ytemlafdmeaobfaa.topoGone
