/- budget, the document's answer: Clash. -/
import Derived.Test.YtcenaleladjakaaBudY
namespace Go.Proofs.Ytcenaleladjakaa.budget
open Go Go.RowKit
set_option linter.unusedVariables false
set_option linter.unusedSimpArgs false
set_option maxRecDepth 100000

set_option maxHeartbeats 4000000 in
theorem clash_any (p q l f l' f' : Nat) (w : World) (hp1 : 1 ≤ p) (hp2 : p ≤ 32) (hq1 : 1 ≤ q) (hq2 : q ≤ 32) (hf : f ≤ 1000) (hf' : f' ≤ 1000) : Calls Try.prog 24 #[.int .i64 (p : Int), agv (ivs [(l : Int), (f : Int)]), .int .i64 (q : Int), agv (ivs [(l' : Int), (f' : Int)])] w fun e u => e = .returned (.bool (cl (p, l, f) (q, l', f'))) ∧ Below w.heap.size w u := by
  obtain ⟨mn, hmn⟩ : ∃ mn, min p q = mn := ⟨_, rfl⟩
  have em : (if q < p then (q : Int) else (p : Int)) = (mn : Int) := by split <;> omega
  have hm1 : 1 ≤ mn := by omega
  obtain ⟨r, hr⟩ : ∃ r, f % mn = r := ⟨_, rfl⟩
  obtain ⟨r', hr'⟩ : ∃ r', f' % mn = r' := ⟨_, rfl⟩
  have hr1 : r ≤ 1000 := by rw [← hr]; exact Nat.le_trans (Nat.mod_le _ _) hf
  have hr1' : r' ≤ 1000 := by rw [← hr']; exact Nat.le_trans (Nat.mod_le _ _) hf'
  have t1 : ((f : Int)).tmod (mn : Int) = (r : Int) := by rw [← hr, Int.tmod_eq_emod_of_nonneg (by omega)]; simp
  have t2 : ((f' : Int)).tmod (mn : Int) = (r' : Int) := by rw [← hr', Int.tmod_eq_emod_of_nonneg (by omega)]; simp
  have t3 : IntKind.i64.wrap (r : Int) = (r : Int) := by rw [IntKind.wrap_i64]; omega
  have t4 : IntKind.i64.wrap (r' : Int) = (r' : Int) := by rw [IntKind.wrap_i64]; omega
  have m0 : ((mn : Int) == 0) = false := by simp; omega
  have m1 : ¬ (mn : Int) = 0 := by omega
  have m2 : ¬ mn = 0 := by omega
  have HCl : Hid (cl (p, l, f) (q, l', f') = (l == l' && r == r')) := by show _ = _; unfold cl; simp only; rw [hmn, hr, hr']
  obtain ⟨R, hR⟩ : ∃ R, cl (p, l, f) (q, l', f') = R := ⟨_, rfl⟩
  rw [hR] at HCl ⊢
  have hM := Mm.nil w
  clear hR hmn hr hr'
  go_enter Try.func24, Try.ntmps24
  repeat' (first | (go_big_may; first | (refine v_box (l := ivs [(l : Int), (f : Int)]) rfl rfl rfl ?_; intro u X hN; replace hM := hM.new hN; clear hN) | (refine v_box (l := ivs [(l' : Int), (f' : Int)]) rfl rfl rfl ?_; intro u Y hN; replace hM := hM.new hN; clear hN)) | go_values | go_skip | go_guarded | go_step | go_upon | (simp only [Int.not_lt, Int.not_le] at *; go_simp))
  have HM : Hid (Mm w u [(Y, 29, ivs [(l' : Int), (f' : Int)]), (X, 29, ivs [(l : Int), (f : Int)])]) := hM
  clear hM
  by_cases c1 : l = l'
  · have d1 : ((l : Int) == (l' : Int)) = true := by simp [c1]
    by_cases c2 : r = r'
    · have d2 : ((r : Int) == (r' : Int)) = true := by simp [c2]
      have HQ : Hid (R = true) := by show _ = _; rw [HCl.out]; simp [c1, c2]
      clear HCl
      clear c1 c2
      go_upto_region 1 with (fail)
      refine wp_abs (fun a0 => a0.tmps.size = 29 ∧ (∀ h, a0.tmps[0]'h = .int .i64 (p : Int)) ∧ (∀ h, a0.tmps[2]'h = .int .i64 (q : Int)) ∧ (∀ h, a0.tmps[5]'h = .pointer (some ⟨X, 0, none⟩)) ∧ (∀ h, a0.tmps[7]'h = .pointer (some ⟨Y, 0, none⟩))) ⟨rfl, fun _ => rfl, fun _ => rfl, fun _ => rfl, fun _ => rfl⟩ ?_
      rintro a0 ⟨hsz, s0, s2, s5, s7⟩ ha0
      refine wp_region_held (S := fun W => Mm w W [(Y, 29, ivs [(l' : Int), (f' : Int)]), (X, 29, ivs [(l : Int), (f : Int)])]) (by kernel_rfl) ?_
      obtain ⟨ud, hud⟩ : ∃ ud, u.drew = ud := ⟨_, rfl⟩
      have hS0 : Mm w ud [(Y, 29, ivs [(l' : Int), (f' : Int)]), (X, 29, ivs [(l : Int), (f : Int)])] := by rw [← hud]; exact HM.out.drew
      show wpAnyH _ _ _ _ _ _ _ _ u.drew
      rw [hud]
      refine h_take (i := 0) (.pointer (some ⟨X, 0, none⟩)) rfl (by kernel_rfl) (by kernel_rfl) (by kernel_rfl) (fun _ _ _ h => h) rfl hS0 (fun W hW => by simp [execOp, go_sem, Act.put, hsz, s0, s2, s5, s7, em, t1, t2, t3, t4, m0, m1, m2, d1, d2]) ?_
      refine h_take (i := 1) (.int .i64 (l : Int)) rfl (by kernel_rfl) (by kernel_rfl) (by kernel_rfl) (fun _ _ _ h => h) rfl hS0 (fun W hW => ex_getv (p := ⟨X, 0, none⟩) rfl (.inl rfl) (by simp [go_sem, Act.put, hsz]) (bv_cell hW.at1 rfl)) ?_
      refine h_take (i := 2) (.pointer (some ⟨Y, 0, none⟩)) rfl (by kernel_rfl) (by kernel_rfl) (by kernel_rfl) (fun _ _ _ h => h) rfl hS0 (fun W hW => by simp [execOp, go_sem, Act.put, hsz, s0, s2, s5, s7, em, t1, t2, t3, t4, m0, m1, m2, d1, d2]) ?_
      refine h_take (i := 3) (.int .i64 (l' : Int)) rfl (by kernel_rfl) (by kernel_rfl) (by kernel_rfl) (fun _ _ _ h => h) rfl hS0 (fun W hW => ex_getv (p := ⟨Y, 0, none⟩) rfl (.inl rfl) (by simp [go_sem, Act.put, hsz]) (bv_cell hW.at0 rfl)) ?_
      refine h_take (i := 4) (.bool true) rfl (by kernel_rfl) (by kernel_rfl) (by kernel_rfl) (fun _ _ _ h => h) rfl hS0 (fun W hW => by simp [execOp, go_sem, Act.put, hsz, s0, s2, s5, s7, em, t1, t2, t3, t4, m0, m1, m2, d1, d2]) ?_
      refine h_take (i := 5) (.bool true) rfl (by kernel_rfl) (by kernel_rfl) (by kernel_rfl) (fun _ _ _ h => h) rfl hS0 (fun W hW => by simp [execOp, go_sem, Act.put, hsz, s0, s2, s5, s7, em, t1, t2, t3, t4, m0, m1, m2, d1, d2]) ?_
      refine g_take (i := 6) (.pointer (some ⟨X, 1, none⟩)) rfl (by kernel_rfl) (by kernel_rfl) (by kernel_rfl) (fun _ _ _ h => h) (by simp [Region.wanted, yielded, Act.put, hsz]) hS0 (fun W hW => by simp [execOp, go_sem, Act.put, hsz, s0, s2, s5, s7, em, t1, t2, t3, t4, m0, m1, m2, d1, d2]) ?_
      refine g_take (i := 7) (.int .i64 (f : Int)) rfl (by kernel_rfl) (by kernel_rfl) (by kernel_rfl) (fun _ _ _ h => h) (by simp [Region.wanted, yielded, Act.put, hsz]) hS0 (fun W hW => ex_getv (p := ⟨X, 1, none⟩) rfl (.inl rfl) (by simp [go_sem, Act.put, hsz]) (bv_cell hW.at1 rfl)) ?_
      refine g_take (i := 8) (.int .i64 (p : Int)) rfl (by kernel_rfl) (by kernel_rfl) (by kernel_rfl) (fun _ _ _ h => h) (by simp [Region.wanted, yielded, Act.put, hsz]) hS0 (fun W hW => by simp [execOp, go_sem, Act.put, hsz, s0, s2, s5, s7, em, t1, t2, t3, t4, m0, m1, m2, d1, d2]) ?_
      refine g_take (i := 9) (.int .i64 (q : Int)) rfl (by kernel_rfl) (by kernel_rfl) (by kernel_rfl) (fun _ _ _ h => h) (by simp [Region.wanted, yielded, Act.put, hsz]) hS0 (fun W hW => by simp [execOp, go_sem, Act.put, hsz, s0, s2, s5, s7, em, t1, t2, t3, t4, m0, m1, m2, d1, d2]) ?_
      refine g_take (i := 10) (.int .i64 (mn : Int)) rfl (by kernel_rfl) (by kernel_rfl) (by kernel_rfl) (fun _ _ _ h => h) (by simp [Region.wanted, yielded, Act.put, hsz]) hS0 (fun W hW => by simp [execOp, go_sem, Act.put, hsz, s0, s2, s5, s7, em, t1, t2, t3, t4, m0, m1, m2, d1, d2]) ?_
      refine g_take (i := 11) (.int .i64 (r : Int)) rfl (by kernel_rfl) (by kernel_rfl) (by kernel_rfl) (fun _ _ _ h => h) (by simp [Region.wanted, yielded, Act.put, hsz]) hS0 (fun W hW => by simp [execOp, go_sem, Act.put, hsz, s0, s2, s5, s7, em, t1, t2, t3, t4, m0, m1, m2, d1, d2]) ?_
      refine g_take (i := 12) (.pointer (some ⟨Y, 1, none⟩)) rfl (by kernel_rfl) (by kernel_rfl) (by kernel_rfl) (fun _ _ _ h => h) (by simp [Region.wanted, yielded, Act.put, hsz]) hS0 (fun W hW => by simp [execOp, go_sem, Act.put, hsz, s0, s2, s5, s7, em, t1, t2, t3, t4, m0, m1, m2, d1, d2]) ?_
      refine g_take (i := 13) (.int .i64 (f' : Int)) rfl (by kernel_rfl) (by kernel_rfl) (by kernel_rfl) (fun _ _ _ h => h) (by simp [Region.wanted, yielded, Act.put, hsz]) hS0 (fun W hW => ex_getv (p := ⟨Y, 1, none⟩) rfl (.inl rfl) (by simp [go_sem, Act.put, hsz]) (bv_cell hW.at0 rfl)) ?_
      refine g_take (i := 14) (.int .i64 (p : Int)) rfl (by kernel_rfl) (by kernel_rfl) (by kernel_rfl) (fun _ _ _ h => h) (by simp [Region.wanted, yielded, Act.put, hsz]) hS0 (fun W hW => by simp [execOp, go_sem, Act.put, hsz, s0, s2, s5, s7, em, t1, t2, t3, t4, m0, m1, m2, d1, d2]) ?_
      refine g_take (i := 15) (.int .i64 (q : Int)) rfl (by kernel_rfl) (by kernel_rfl) (by kernel_rfl) (fun _ _ _ h => h) (by simp [Region.wanted, yielded, Act.put, hsz]) hS0 (fun W hW => by simp [execOp, go_sem, Act.put, hsz, s0, s2, s5, s7, em, t1, t2, t3, t4, m0, m1, m2, d1, d2]) ?_
      refine g_take (i := 16) (.int .i64 (mn : Int)) rfl (by kernel_rfl) (by kernel_rfl) (by kernel_rfl) (fun _ _ _ h => h) (by simp [Region.wanted, yielded, Act.put, hsz]) hS0 (fun W hW => by simp [execOp, go_sem, Act.put, hsz, s0, s2, s5, s7, em, t1, t2, t3, t4, m0, m1, m2, d1, d2]) ?_
      refine g_take (i := 17) (.int .i64 (r' : Int)) rfl (by kernel_rfl) (by kernel_rfl) (by kernel_rfl) (fun _ _ _ h => h) (by simp [Region.wanted, yielded, Act.put, hsz]) hS0 (fun W hW => by simp [execOp, go_sem, Act.put, hsz, s0, s2, s5, s7, em, t1, t2, t3, t4, m0, m1, m2, d1, d2]) ?_
      refine g_take (i := 18) (.bool true) rfl (by kernel_rfl) (by kernel_rfl) (by kernel_rfl) (fun _ _ _ h => h) (by simp [Region.wanted, yielded, Act.put, hsz]) hS0 (fun W hW => by simp [execOp, go_sem, Act.put, hsz, s0, s2, s5, s7, em, t1, t2, t3, t4, m0, m1, m2, d1, d2]) ?_
      refine h_take (i := 19) (.bool true) rfl (by kernel_rfl) (by kernel_rfl) (by kernel_rfl) (fun _ _ _ h => h) rfl hS0 (fun W hW => by simp [execOp, go_sem, Act.put, hsz, s0, s2, s5, s7, em, t1, t2, t3, t4, m0, m1, m2, d1, d2]) ?_
      refine h_take (i := 20) (.bool true) rfl (by kernel_rfl) (by kernel_rfl) (by kernel_rfl) (fun _ _ _ h => h) rfl hS0 (fun W hW => by simp [execOp, go_sem, Act.put, hsz, s0, s2, s5, s7, em, t1, t2, t3, t4, m0, m1, m2, d1, d2]) ?_
      refine wpAnyH_done (by kernel_rfl) ?_ _
      subst ha0
      have HB : Hid (Below w.heap.size w ud) := hS0.below
      clear hsz s0 s2 s5 s7 hS0 HM hud
      go_simp
      go_wp2
      go_ret
      rw [HQ.out]
      exact ⟨rfl, HB.out⟩
    · have d2 : ((r : Int) == (r' : Int)) = false := by simp; omega
      have HQ : Hid (R = false) := by show _ = _; rw [HCl.out]; simp; omega
      clear HCl
      clear c1 c2
      go_upto_region 1 with (fail)
      refine wp_abs (fun a0 => a0.tmps.size = 29 ∧ (∀ h, a0.tmps[0]'h = .int .i64 (p : Int)) ∧ (∀ h, a0.tmps[2]'h = .int .i64 (q : Int)) ∧ (∀ h, a0.tmps[5]'h = .pointer (some ⟨X, 0, none⟩)) ∧ (∀ h, a0.tmps[7]'h = .pointer (some ⟨Y, 0, none⟩))) ⟨rfl, fun _ => rfl, fun _ => rfl, fun _ => rfl, fun _ => rfl⟩ ?_
      rintro a0 ⟨hsz, s0, s2, s5, s7⟩ ha0
      refine wp_region_held (S := fun W => Mm w W [(Y, 29, ivs [(l' : Int), (f' : Int)]), (X, 29, ivs [(l : Int), (f : Int)])]) (by kernel_rfl) ?_
      obtain ⟨ud, hud⟩ : ∃ ud, u.drew = ud := ⟨_, rfl⟩
      have hS0 : Mm w ud [(Y, 29, ivs [(l' : Int), (f' : Int)]), (X, 29, ivs [(l : Int), (f : Int)])] := by rw [← hud]; exact HM.out.drew
      show wpAnyH _ _ _ _ _ _ _ _ u.drew
      rw [hud]
      refine h_take (i := 0) (.pointer (some ⟨X, 0, none⟩)) rfl (by kernel_rfl) (by kernel_rfl) (by kernel_rfl) (fun _ _ _ h => h) rfl hS0 (fun W hW => by simp [execOp, go_sem, Act.put, hsz, s0, s2, s5, s7, em, t1, t2, t3, t4, m0, m1, m2, d1, d2]) ?_
      refine h_take (i := 1) (.int .i64 (l : Int)) rfl (by kernel_rfl) (by kernel_rfl) (by kernel_rfl) (fun _ _ _ h => h) rfl hS0 (fun W hW => ex_getv (p := ⟨X, 0, none⟩) rfl (.inl rfl) (by simp [go_sem, Act.put, hsz]) (bv_cell hW.at1 rfl)) ?_
      refine h_take (i := 2) (.pointer (some ⟨Y, 0, none⟩)) rfl (by kernel_rfl) (by kernel_rfl) (by kernel_rfl) (fun _ _ _ h => h) rfl hS0 (fun W hW => by simp [execOp, go_sem, Act.put, hsz, s0, s2, s5, s7, em, t1, t2, t3, t4, m0, m1, m2, d1, d2]) ?_
      refine h_take (i := 3) (.int .i64 (l' : Int)) rfl (by kernel_rfl) (by kernel_rfl) (by kernel_rfl) (fun _ _ _ h => h) rfl hS0 (fun W hW => ex_getv (p := ⟨Y, 0, none⟩) rfl (.inl rfl) (by simp [go_sem, Act.put, hsz]) (bv_cell hW.at0 rfl)) ?_
      refine h_take (i := 4) (.bool true) rfl (by kernel_rfl) (by kernel_rfl) (by kernel_rfl) (fun _ _ _ h => h) rfl hS0 (fun W hW => by simp [execOp, go_sem, Act.put, hsz, s0, s2, s5, s7, em, t1, t2, t3, t4, m0, m1, m2, d1, d2]) ?_
      refine h_take (i := 5) (.bool true) rfl (by kernel_rfl) (by kernel_rfl) (by kernel_rfl) (fun _ _ _ h => h) rfl hS0 (fun W hW => by simp [execOp, go_sem, Act.put, hsz, s0, s2, s5, s7, em, t1, t2, t3, t4, m0, m1, m2, d1, d2]) ?_
      refine g_take (i := 6) (.pointer (some ⟨X, 1, none⟩)) rfl (by kernel_rfl) (by kernel_rfl) (by kernel_rfl) (fun _ _ _ h => h) (by simp [Region.wanted, yielded, Act.put, hsz]) hS0 (fun W hW => by simp [execOp, go_sem, Act.put, hsz, s0, s2, s5, s7, em, t1, t2, t3, t4, m0, m1, m2, d1, d2]) ?_
      refine g_take (i := 7) (.int .i64 (f : Int)) rfl (by kernel_rfl) (by kernel_rfl) (by kernel_rfl) (fun _ _ _ h => h) (by simp [Region.wanted, yielded, Act.put, hsz]) hS0 (fun W hW => ex_getv (p := ⟨X, 1, none⟩) rfl (.inl rfl) (by simp [go_sem, Act.put, hsz]) (bv_cell hW.at1 rfl)) ?_
      refine g_take (i := 8) (.int .i64 (p : Int)) rfl (by kernel_rfl) (by kernel_rfl) (by kernel_rfl) (fun _ _ _ h => h) (by simp [Region.wanted, yielded, Act.put, hsz]) hS0 (fun W hW => by simp [execOp, go_sem, Act.put, hsz, s0, s2, s5, s7, em, t1, t2, t3, t4, m0, m1, m2, d1, d2]) ?_
      refine g_take (i := 9) (.int .i64 (q : Int)) rfl (by kernel_rfl) (by kernel_rfl) (by kernel_rfl) (fun _ _ _ h => h) (by simp [Region.wanted, yielded, Act.put, hsz]) hS0 (fun W hW => by simp [execOp, go_sem, Act.put, hsz, s0, s2, s5, s7, em, t1, t2, t3, t4, m0, m1, m2, d1, d2]) ?_
      refine g_take (i := 10) (.int .i64 (mn : Int)) rfl (by kernel_rfl) (by kernel_rfl) (by kernel_rfl) (fun _ _ _ h => h) (by simp [Region.wanted, yielded, Act.put, hsz]) hS0 (fun W hW => by simp [execOp, go_sem, Act.put, hsz, s0, s2, s5, s7, em, t1, t2, t3, t4, m0, m1, m2, d1, d2]) ?_
      refine g_take (i := 11) (.int .i64 (r : Int)) rfl (by kernel_rfl) (by kernel_rfl) (by kernel_rfl) (fun _ _ _ h => h) (by simp [Region.wanted, yielded, Act.put, hsz]) hS0 (fun W hW => by simp [execOp, go_sem, Act.put, hsz, s0, s2, s5, s7, em, t1, t2, t3, t4, m0, m1, m2, d1, d2]) ?_
      refine g_take (i := 12) (.pointer (some ⟨Y, 1, none⟩)) rfl (by kernel_rfl) (by kernel_rfl) (by kernel_rfl) (fun _ _ _ h => h) (by simp [Region.wanted, yielded, Act.put, hsz]) hS0 (fun W hW => by simp [execOp, go_sem, Act.put, hsz, s0, s2, s5, s7, em, t1, t2, t3, t4, m0, m1, m2, d1, d2]) ?_
      refine g_take (i := 13) (.int .i64 (f' : Int)) rfl (by kernel_rfl) (by kernel_rfl) (by kernel_rfl) (fun _ _ _ h => h) (by simp [Region.wanted, yielded, Act.put, hsz]) hS0 (fun W hW => ex_getv (p := ⟨Y, 1, none⟩) rfl (.inl rfl) (by simp [go_sem, Act.put, hsz]) (bv_cell hW.at0 rfl)) ?_
      refine g_take (i := 14) (.int .i64 (p : Int)) rfl (by kernel_rfl) (by kernel_rfl) (by kernel_rfl) (fun _ _ _ h => h) (by simp [Region.wanted, yielded, Act.put, hsz]) hS0 (fun W hW => by simp [execOp, go_sem, Act.put, hsz, s0, s2, s5, s7, em, t1, t2, t3, t4, m0, m1, m2, d1, d2]) ?_
      refine g_take (i := 15) (.int .i64 (q : Int)) rfl (by kernel_rfl) (by kernel_rfl) (by kernel_rfl) (fun _ _ _ h => h) (by simp [Region.wanted, yielded, Act.put, hsz]) hS0 (fun W hW => by simp [execOp, go_sem, Act.put, hsz, s0, s2, s5, s7, em, t1, t2, t3, t4, m0, m1, m2, d1, d2]) ?_
      refine g_take (i := 16) (.int .i64 (mn : Int)) rfl (by kernel_rfl) (by kernel_rfl) (by kernel_rfl) (fun _ _ _ h => h) (by simp [Region.wanted, yielded, Act.put, hsz]) hS0 (fun W hW => by simp [execOp, go_sem, Act.put, hsz, s0, s2, s5, s7, em, t1, t2, t3, t4, m0, m1, m2, d1, d2]) ?_
      refine g_take (i := 17) (.int .i64 (r' : Int)) rfl (by kernel_rfl) (by kernel_rfl) (by kernel_rfl) (fun _ _ _ h => h) (by simp [Region.wanted, yielded, Act.put, hsz]) hS0 (fun W hW => by simp [execOp, go_sem, Act.put, hsz, s0, s2, s5, s7, em, t1, t2, t3, t4, m0, m1, m2, d1, d2]) ?_
      refine g_take (i := 18) (.bool false) rfl (by kernel_rfl) (by kernel_rfl) (by kernel_rfl) (fun _ _ _ h => h) (by simp [Region.wanted, yielded, Act.put, hsz]) hS0 (fun W hW => by simp [execOp, go_sem, Act.put, hsz, s0, s2, s5, s7, em, t1, t2, t3, t4, m0, m1, m2, d1, d2]) ?_
      refine h_take (i := 19) (.bool false) rfl (by kernel_rfl) (by kernel_rfl) (by kernel_rfl) (fun _ _ _ h => h) rfl hS0 (fun W hW => by simp [execOp, go_sem, Act.put, hsz, s0, s2, s5, s7, em, t1, t2, t3, t4, m0, m1, m2, d1, d2]) ?_
      refine h_take (i := 20) (.bool false) rfl (by kernel_rfl) (by kernel_rfl) (by kernel_rfl) (fun _ _ _ h => h) rfl hS0 (fun W hW => by simp [execOp, go_sem, Act.put, hsz, s0, s2, s5, s7, em, t1, t2, t3, t4, m0, m1, m2, d1, d2]) ?_
      refine wpAnyH_done (by kernel_rfl) ?_ _
      subst ha0
      have HB : Hid (Below w.heap.size w ud) := hS0.below
      clear hsz s0 s2 s5 s7 hS0 HM hud
      go_simp
      go_wp2
      go_ret
      rw [HQ.out]
      exact ⟨rfl, HB.out⟩
  · have d1 : ((l : Int) == (l' : Int)) = false := by simp; omega
    have HQ : Hid (R = false) := by show _ = _; rw [HCl.out]; simp; omega
    clear HCl
    clear c1
    go_upto_region 1 with (fail)
    refine wp_abs (fun a0 => a0.tmps.size = 29 ∧ (∀ h, a0.tmps[0]'h = .int .i64 (p : Int)) ∧ (∀ h, a0.tmps[2]'h = .int .i64 (q : Int)) ∧ (∀ h, a0.tmps[5]'h = .pointer (some ⟨X, 0, none⟩)) ∧ (∀ h, a0.tmps[7]'h = .pointer (some ⟨Y, 0, none⟩))) ⟨rfl, fun _ => rfl, fun _ => rfl, fun _ => rfl, fun _ => rfl⟩ ?_
    rintro a0 ⟨hsz, s0, s2, s5, s7⟩ ha0
    refine wp_region_held (S := fun W => Mm w W [(Y, 29, ivs [(l' : Int), (f' : Int)]), (X, 29, ivs [(l : Int), (f : Int)])]) (by kernel_rfl) ?_
    obtain ⟨ud, hud⟩ : ∃ ud, u.drew = ud := ⟨_, rfl⟩
    have hS0 : Mm w ud [(Y, 29, ivs [(l' : Int), (f' : Int)]), (X, 29, ivs [(l : Int), (f : Int)])] := by rw [← hud]; exact HM.out.drew
    show wpAnyH _ _ _ _ _ _ _ _ u.drew
    rw [hud]
    refine h_take (i := 0) (.pointer (some ⟨X, 0, none⟩)) rfl (by kernel_rfl) (by kernel_rfl) (by kernel_rfl) (fun _ _ _ h => h) rfl hS0 (fun W hW => by simp [execOp, go_sem, Act.put, hsz, s0, s2, s5, s7, em, t1, t2, t3, t4, m0, m1, m2, d1]) ?_
    refine h_take (i := 1) (.int .i64 (l : Int)) rfl (by kernel_rfl) (by kernel_rfl) (by kernel_rfl) (fun _ _ _ h => h) rfl hS0 (fun W hW => ex_getv (p := ⟨X, 0, none⟩) rfl (.inl rfl) (by simp [go_sem, Act.put, hsz]) (bv_cell hW.at1 rfl)) ?_
    refine h_take (i := 2) (.pointer (some ⟨Y, 0, none⟩)) rfl (by kernel_rfl) (by kernel_rfl) (by kernel_rfl) (fun _ _ _ h => h) rfl hS0 (fun W hW => by simp [execOp, go_sem, Act.put, hsz, s0, s2, s5, s7, em, t1, t2, t3, t4, m0, m1, m2, d1]) ?_
    refine h_take (i := 3) (.int .i64 (l' : Int)) rfl (by kernel_rfl) (by kernel_rfl) (by kernel_rfl) (fun _ _ _ h => h) rfl hS0 (fun W hW => ex_getv (p := ⟨Y, 0, none⟩) rfl (.inl rfl) (by simp [go_sem, Act.put, hsz]) (bv_cell hW.at0 rfl)) ?_
    refine h_take (i := 4) (.bool false) rfl (by kernel_rfl) (by kernel_rfl) (by kernel_rfl) (fun _ _ _ h => h) rfl hS0 (fun W hW => by simp [execOp, go_sem, Act.put, hsz, s0, s2, s5, s7, em, t1, t2, t3, t4, m0, m1, m2, d1]) ?_
    refine h_take (i := 5) (.bool false) rfl (by kernel_rfl) (by kernel_rfl) (by kernel_rfl) (fun _ _ _ h => h) rfl hS0 (fun W hW => by simp [execOp, go_sem, Act.put, hsz, s0, s2, s5, s7, em, t1, t2, t3, t4, m0, m1, m2, d1]) ?_
    refine g_pass (i := 6) rfl (by kernel_rfl) (by kernel_rfl) (by kernel_rfl) (fun _ _ _ h => h) (by simp [Region.wanted, yielded, Act.put, hsz]) hS0 ?_
    refine g_pass (i := 7) rfl (by kernel_rfl) (by kernel_rfl) (by kernel_rfl) (fun _ _ _ h => h) (by simp [Region.wanted, yielded, Act.put, hsz]) hS0 ?_
    refine g_pass (i := 8) rfl (by kernel_rfl) (by kernel_rfl) (by kernel_rfl) (fun _ _ _ h => h) (by simp [Region.wanted, yielded, Act.put, hsz]) hS0 ?_
    refine g_pass (i := 9) rfl (by kernel_rfl) (by kernel_rfl) (by kernel_rfl) (fun _ _ _ h => h) (by simp [Region.wanted, yielded, Act.put, hsz]) hS0 ?_
    refine g_pass (i := 10) rfl (by kernel_rfl) (by kernel_rfl) (by kernel_rfl) (fun _ _ _ h => h) (by simp [Region.wanted, yielded, Act.put, hsz]) hS0 ?_
    refine g_pass (i := 11) rfl (by kernel_rfl) (by kernel_rfl) (by kernel_rfl) (fun _ _ _ h => h) (by simp [Region.wanted, yielded, Act.put, hsz]) hS0 ?_
    refine g_pass (i := 12) rfl (by kernel_rfl) (by kernel_rfl) (by kernel_rfl) (fun _ _ _ h => h) (by simp [Region.wanted, yielded, Act.put, hsz]) hS0 ?_
    refine g_pass (i := 13) rfl (by kernel_rfl) (by kernel_rfl) (by kernel_rfl) (fun _ _ _ h => h) (by simp [Region.wanted, yielded, Act.put, hsz]) hS0 ?_
    refine g_pass (i := 14) rfl (by kernel_rfl) (by kernel_rfl) (by kernel_rfl) (fun _ _ _ h => h) (by simp [Region.wanted, yielded, Act.put, hsz]) hS0 ?_
    refine g_pass (i := 15) rfl (by kernel_rfl) (by kernel_rfl) (by kernel_rfl) (fun _ _ _ h => h) (by simp [Region.wanted, yielded, Act.put, hsz]) hS0 ?_
    refine g_pass (i := 16) rfl (by kernel_rfl) (by kernel_rfl) (by kernel_rfl) (fun _ _ _ h => h) (by simp [Region.wanted, yielded, Act.put, hsz]) hS0 ?_
    refine g_pass (i := 17) rfl (by kernel_rfl) (by kernel_rfl) (by kernel_rfl) (fun _ _ _ h => h) (by simp [Region.wanted, yielded, Act.put, hsz]) hS0 ?_
    refine g_pass (i := 18) rfl (by kernel_rfl) (by kernel_rfl) (by kernel_rfl) (fun _ _ _ h => h) (by simp [Region.wanted, yielded, Act.put, hsz]) hS0 ?_
    refine h_take (i := 19) (.bool false) rfl (by kernel_rfl) (by kernel_rfl) (by kernel_rfl) (fun _ _ _ h => h) rfl hS0 (fun W hW => by simp [execOp, go_sem, Act.put, hsz, s0, s2, s5, s7, em, t1, t2, t3, t4, m0, m1, m2, d1]) ?_
    refine h_take (i := 20) (.bool false) rfl (by kernel_rfl) (by kernel_rfl) (by kernel_rfl) (fun _ _ _ h => h) rfl hS0 (fun W hW => by simp [execOp, go_sem, Act.put, hsz, s0, s2, s5, s7, em, t1, t2, t3, t4, m0, m1, m2, d1]) ?_
    refine wpAnyH_done (by kernel_rfl) ?_ _
    subst ha0
    have HB : Hid (Below w.heap.size w ud) := hS0.below
    clear hsz s0 s2 s5 s7 hS0 HM hud
    go_simp
    go_wp2
    go_ret
    rw [HQ.out]
    exact ⟨rfl, HB.out⟩
end Go.Proofs.Ytcenaleladjakaa.budget
