/- RingLaps: words put and got one by one, for two laps, leave the ring's marks where they were. -/
import Derived.Test.YtmapnkjmgpkhfaaRngV
import Derived.Test.YtmapnkjmgpkhfaaRngS
namespace Go.Proofs.Ytmapnkjmgpkhfaa.ringLaps
open Go Go.RowKit Go.Proofs.Ytmapnkjmgpkhfaa.ring
set_option linter.unusedVariables false
set_option linter.unusedSimpArgs false
set_option maxRecDepth 100000

theorem putS_lap {p : Nat} {s : Sx} (h : rm p s = true) (x : Int) : putS p s x = ⟨s.all ++ [x], s.got, s.seen⟩ := by
  unfold rm at h
  unfold putS
  rw [if_pos (by simpa using h)]
theorem lap_mk {p k : Nat} (hp : 2 ≤ p) (hk : k < 2 * p) : ((mk p (k + 1)).1 == 0 && (mk p (k + 1)).2 == 1) = decide (k + 1 = 2 * p) := by
  unfold mk
  simp only
  by_cases h : k + 1 = 2 * p
  · rw [decide_eq_true h, h, Nat.mul_mod_left, Nat.mul_div_cancel _ (by omega)]
    rfl
  · rw [decide_eq_false h, Bool.and_eq_false_iff, beq_eq_false_iff_ne, beq_eq_false_iff_ne]
    by_cases h2 : k + 1 = p
    · right
      rw [h2, Nat.div_self (by omega)]
      decide
    · left
      have h3 : ¬ (k + 1) % p = 0 := fun q => by
        obtain ⟨m, hm⟩ := Nat.dvd_of_mod_eq_zero q
        have h4 : m ≠ 0 := fun q => by rw [q] at hm; omega
        have h5 : m ≠ 1 := fun q => by rw [q] at hm; omega
        have h6 : m ≠ 2 := fun q => by rw [q] at hm; omega
        have h7 : 3 ≤ m := by omega
        have h8 : p * 3 ≤ p * m := Nat.mul_le_mul_left _ h7
        omega
      omega
set_option maxHeartbeats 16000000 in
theorem walk (cc x : Int) (wc : (Lit.int .i64 cc).wf = true) (wx : (Lit.int .u64 x).wf = true) (w : World) :
    Calls Try.prog 8 #[.int .i64 cc, .int .u64 x] w fun e w' => e = .returned (.bool true) ∧ Below w.heap.size w w' := by
  have HLI : Hid (∀ u, Calls Try.prog 21 #[] u fun e w' => e = .returned (.bool true) ∧ Below u.heap.size u w') := lives_any
  obtain ⟨V, hV⟩ : ∃ V, nwR cc = V := ⟨_, rfl⟩
  obtain ⟨k, hk⟩ : ∃ k, nwC cc = k := ⟨_, rfl⟩
  have HV : Hid (nwR cc = V ∧ nwC cc = k) := ⟨hV, hk⟩
  have HNW : Hid (Calls Try.prog 19 #[.int .i64 cc] w fun e w' => ∃ v', e = .returned (.tuple #[rgW v' V, .int .i64 k]) ∧ Tel w v' V w') := by
    have := New_any cc w
    rw [hV, hk] at this
    exact this
  obtain ⟨VC, vpa, vpb, vga, vgb, vsn⟩ := V
  clear hV hk wc
  go_enter Try.func8, Try.ntmps8
  go_wp2_with fail
  refine HNW.out.mono ?_
  rintro e u1 ⟨v1, rfl, hv1, hb1⟩
  obtain ⟨u1', u2, hu1', hu2, hY1, hY2, hb2⟩ := laid6 u1 26 (.slice none 0 0) (.int .i64 0) (.int .i64 0) (.int .i64 0) (.int .i64 0) (.int .i64 0) v1 (.int .i64 vpa) (.int .i64 vpb) (.int .i64 vga) (.int .i64 vgb) (.int .i64 vsn)
  have HU2 : Hid (RB w u1.heap.size v1 ⟨VC, vpa, vpb, vga, vgb, vsn⟩ u2) := ⟨hY2, hv1.below hb2, bsq hb1 hb2, hb1.size⟩
  obtain ⟨va, vn, vc, rfl⟩ : ∃ a n c, v1 = .slice a n c := by obtain ⟨a, c, h, _⟩ := hv1.form; exact ⟨_, _, _, h⟩
  obtain ⟨⟨hz1, t0, t1, t2, t3, t4, t5⟩, f0, f1, f2, f3, f4, f5⟩ := box6 hY1
  clear hv1 hb1 hY1 hY2 hb2
  go_upto_region 2 with (fail)
  try rw [hu2]
  clear hu2 hu1' t0 t1 t2 t3 t4 t5 f0 f1 f2 f3 f4 f5
  go_wp2_with fail
  refine (HLI.out _).mono ?_
  rintro e u3 ⟨rfl, hb3⟩
  have HU3 : Hid (RB w u1.heap.size (.slice va vn vc) ⟨VC, vpa, vpb, vga, vgb, vsn⟩ u3) := HU2.out.below hb3
  clear hb3
  cases hcn : cnB cc
  · have hk1 : k = 1 := by rw [← HV.out.2]; unfold nwC; rw [hcn]; rfl
    subst hk1
    clear hcn
    go_wp2_with fail
    refine (HLI.out _).mono ?_
    rintro e u4 ⟨rfl, hb4⟩
    have HB4 : Hid (Below w.heap.size w u4) := bsq HU3.out.2.2.1 hb4
    clear hb4
    go_wp2
    go_ret
    exact ⟨rfl, HB4.out⟩
  have hk1 : k = 0 := by rw [← HV.out.2]; unfold nwC; rw [hcn]; rfl
  subst hk1
  have hcc := cn_iff.1 hcn
  obtain ⟨p, hp⟩ : ∃ p : Nat, cc.toNat - 1 = p := ⟨_, rfl⟩
  have hVst : (⟨VC, vpa, vpb, vga, vgb, vsn⟩ : Rg) = stS p sx0 := by rw [← HV.out.1]; unfold nwR; rw [hcn, if_pos rfl, hp]; rfl
  have HP0 : Hid (RB w u1.heap.size (.slice va vn vc) (stS p sx0) u3 ∧ InvS p sx0) := ⟨by rw [← hVst]; exact HU3.out, inv_new (by omega) (by omega)⟩
  have hm0 : stS p sx0 = ⟨VC, vpa, vpb, vga, vgb, vsn⟩ := hVst.symm
  have hst0 : stS p sx0 = ⟨List.replicate p cz ++ [(0, 0, true)], 0, 1, 0, 1, 0⟩ := st_new p
  rw [hst0] at hm0
  injection hm0 with _ b1 b2 b3 b4 b5
  subst b1 b2 b3 b4 b5
  have hp2 : 2 ≤ p := by omega
  have hp63 : p ≤ 63 := by omega
  have hm1 : cc - 1 = (p : Int) := by omega
  obtain ⟨M, hM⟩ : ∃ M : Nat, 2 * p = M := ⟨_, rfl⟩
  have HM : Hid (2 * p = M) := hM
  have hm2 : 2 * (p : Int) = (M : Int) := by omega
  have hM4 : 4 ≤ M := by omega
  have hM126 : M ≤ 126 := by omega
  have hc3 : 3 ≤ cc := by omega
  have hc64 : cc ≤ 64 := by omega
  clear hcn hVst hp hcc HU2 hst0 hM
  go_upto_region 4 with (fail)
  go_cut [7, 8] from 12 (fun pv gv wx => ∃ P Q : Nat, pv = .pointer (some ⟨P, 0, none⟩) ∧ gv = .pointer (some ⟨Q, 0, none⟩) ∧ Hid (RB w u1.heap.size (.slice va vn vc) (stS p sx0) wx ∧ wx.heap[P]? = some (mkO 0 1) ∧ wx.heap[Q]? = some (mkO 0 1) ∧ P ≠ u1.heap.size ∧ Q ≠ u1.heap.size))
  case first =>
    have HX3 : Hid (∀ W, Below u3.heap.size u3 W → W.heap[u1.heap.size]? = some (rgO (.slice va vn vc) 0 1 0 1 0)) := fun W hW => keep HU3.out.1 hW
    have HXL : Hid (u1.heap.size < u3.heap.size) := (Array.getElem?_eq_some_iff.1 HU3.out.1).1
    refine wp_abs (fun a0 => a0.tmps.size = 95 ∧ (∀ h, a0.tmps[5]'h = .pointer (some ⟨u1.heap.size, 0, none⟩))) ⟨rfl, fun _ => rfl⟩ ?_
    rintro a0 ⟨hsz, s5⟩ ha0
    refine wp_region_held (S := fun W => Below u3.heap.size u3 W) (by kernel_rfl) ?_
    have hS0 : Below u3.heap.size u3 u3.drew := (Below.refl _ _).drew
    refine h_take (i := 0) (.pointer (some ⟨u1.heap.size, 1, none⟩)) rfl (by kernel_rfl) (by kernel_rfl) (by kernel_rfl) (fun _ _ _ h => h) rfl hS0 (fun W hW => by simp [execOp, go_sem, Act.put, hsz, s5]) ?_
    refine h_take (i := 1) (mkV 0 1) rfl (by kernel_rfl) (by kernel_rfl) (by kernel_rfl) (fun _ _ _ h => h) rfl hS0 (fun W hW => by obtain ⟨⟨zb, x0, x1, x2, x3, x4, x5⟩, _⟩ := box6 (HX3.out W hW); simp [execOp, go_sem, Act.put, hsz, s5, x0, x1, x2, x3, x4, x5]) ?_
    refine h_take (i := 2) (.pointer (some ⟨u1.heap.size, 3, none⟩)) rfl (by kernel_rfl) (by kernel_rfl) (by kernel_rfl) (fun _ _ _ h => h) rfl hS0 (fun W hW => by simp [execOp, go_sem, Act.put, hsz, s5]) ?_
    refine h_take (i := 3) (mkV 0 1) rfl (by kernel_rfl) (by kernel_rfl) (by kernel_rfl) (fun _ _ _ h => h) rfl hS0 (fun W hW => by obtain ⟨⟨zb, x0, x1, x2, x3, x4, x5⟩, _⟩ := box6 (HX3.out W hW); simp [execOp, go_sem, Act.put, hsz, s5, x0, x1, x2, x3, x4, x5]) ?_
    obtain ⟨v1, hv1⟩ : ∃ v1, u3.drew.alloc (mkO 0 0) = v1 := ⟨_, rfl⟩
    have hb1 : Below u3.heap.size u3 v1 := by rw [← hv1]; exact hS0.alloc (Nat.le_refl _) _
    have hP1 : v1.heap[u3.heap.size]? = some (mkO 0 0) := by rw [← hv1]; exact (MapKept.heap_alloc u3.drew _).1
    obtain ⟨v2, hv2, hQ2, hb2⟩ := named v1 (mkO 0 0)
    have hb02 : Below u3.heap.size u3 v2 := bsq hb1 hb2
    have hP2 := keep hP1 hb2
    have hlt : u3.heap.size < v1.heap.size := (Array.getElem?_eq_some_iff.1 hP1).1
    refine h_two 4 5 (by kernel_rfl) ?_ ?_
    · refine o_value (w' := v1) (.pointer (some ⟨u3.heap.size, 0, none⟩)) rfl rfl (by rw [← hv1]; simp [execOp, go_sem, Act.put, hsz, s5]) ⟨hb1, ?_⟩
      refine h_value (i := 5) (w' := v2) (.pointer (some ⟨v1.heap.size, 0, none⟩)) rfl (by kernel_rfl) rfl (by rw [← hv2]; simp [execOp, go_sem, Act.put, hsz, s5]) hb02 ?_
      obtain ⟨⟨zP, p0, p1⟩, fp0, fp1⟩ := box2 hP2
      obtain ⟨v3, hv3, hP3, hB3, hk3, _⟩ := put2 v2 u3.heap.size (.int .i64 0) (.int .i64 1) hP2
      have hb3 : Below u3.heap.size u3 v3 := hB3 _ _ (by omega) hb02
      have hQ3 : v3.heap[v1.heap.size]? = some (mkO 0 0) := (hk3 _ (by omega)).trans hQ2
      refine h_skip (i := 6) (w' := v3) rfl (by kernel_rfl) rfl (by rw [← hv3]; simp [execOp, go_sem, Act.put, hsz, s5, zP, p0, p1, fp0, fp1]) hb3 ?_
      obtain ⟨⟨zQ, q0, q1⟩, fq0, fq1⟩ := box2 hQ3
      obtain ⟨v4, hv4, hQ4, hB4, hk4, _⟩ := put2 v3 v1.heap.size (.int .i64 0) (.int .i64 1) hQ3
      have hb4 : Below u3.heap.size u3 v4 := hB4 _ _ (by omega) hb3
      have hP4 : v4.heap[u3.heap.size]? = some (mkO 0 1) := (hk4 _ (by omega)).trans hP3
      refine h_skip (i := 7) (w' := v4) rfl (by kernel_rfl) rfl (by rw [← hv4]; simp [execOp, go_sem, Act.put, hsz, s5, zQ, q0, q1, fq0, fq1]) hb4 ?_
      refine wpAnyH_done (by kernel_rfl) ?_ _
      have HF : Hid (RB w u1.heap.size (.slice va vn vc) (stS p sx0) v4 ∧ v4.heap[u3.heap.size]? = some (mkO 0 1) ∧ v4.heap[v1.heap.size]? = some (mkO 0 1) ∧ u3.heap.size ≠ u1.heap.size ∧ v1.heap.size ≠ u1.heap.size) := ⟨HP0.out.1.below hb4, hP4, hQ4, by have := HXL.out; omega, by have := HXL.out; omega⟩
      clear hv1 hv2 hv3 hv4 p0 p1 fp0 fp1 q0 q1 fq0 fq1 hP1 hQ2 hb2 hb02 hP2 hP3 hB3 hk3 hb3 hQ3 hQ4 hB4 hk4 hb4 hP4 hb1 hS0 hlt
      subst ha0
      clear hsz s5
      go_simp
      go_wp2_with fail
      go_meet
      case rel => exact ⟨_, _, rfl, rfl, HF.out⟩
    · refine o_value (w' := v1) (.pointer (some ⟨u3.heap.size, 0, none⟩)) rfl rfl (by rw [← hv1]; simp [execOp, go_sem, Act.put, hsz, s5]) ⟨hb1, ?_⟩
      refine h_value (i := 4) (w' := v2) (.pointer (some ⟨v1.heap.size, 0, none⟩)) rfl (by kernel_rfl) rfl (by rw [← hv2]; simp [execOp, go_sem, Act.put, hsz, s5]) hb02 ?_
      obtain ⟨⟨zP, p0, p1⟩, fp0, fp1⟩ := box2 hQ2
      obtain ⟨v3, hv3, hP3, hB3, hk3, _⟩ := put2 v2 v1.heap.size (.int .i64 0) (.int .i64 1) hQ2
      have hb3 : Below u3.heap.size u3 v3 := hB3 _ _ (by omega) hb02
      have hQ3 : v3.heap[u3.heap.size]? = some (mkO 0 0) := (hk3 _ (by omega)).trans hP2
      refine h_skip (i := 6) (w' := v3) rfl (by kernel_rfl) rfl (by rw [← hv3]; simp [execOp, go_sem, Act.put, hsz, s5, zP, p0, p1, fp0, fp1]) hb3 ?_
      obtain ⟨⟨zQ, q0, q1⟩, fq0, fq1⟩ := box2 hQ3
      obtain ⟨v4, hv4, hQ4, hB4, hk4, _⟩ := put2 v3 u3.heap.size (.int .i64 0) (.int .i64 1) hQ3
      have hb4 : Below u3.heap.size u3 v4 := hB4 _ _ (by omega) hb3
      have hP4 : v4.heap[v1.heap.size]? = some (mkO 0 1) := (hk4 _ (by omega)).trans hP3
      refine h_skip (i := 7) (w' := v4) rfl (by kernel_rfl) rfl (by rw [← hv4]; simp [execOp, go_sem, Act.put, hsz, s5, zQ, q0, q1, fq0, fq1]) hb4 ?_
      refine wpAnyH_done (by kernel_rfl) ?_ _
      have HF : Hid (RB w u1.heap.size (.slice va vn vc) (stS p sx0) v4 ∧ v4.heap[v1.heap.size]? = some (mkO 0 1) ∧ v4.heap[u3.heap.size]? = some (mkO 0 1) ∧ v1.heap.size ≠ u1.heap.size ∧ u3.heap.size ≠ u1.heap.size) := ⟨HP0.out.1.below hb4, hP4, hQ4, by have := HXL.out; omega, by have := HXL.out; omega⟩
      clear hv1 hv2 hv3 hv4 p0 p1 fp0 fp1 q0 q1 fq0 fq1 hP1 hQ2 hb2 hb02 hP2 hP3 hB3 hk3 hb3 hQ3 hQ4 hB4 hk4 hb4 hP4 hb1 hS0 hlt
      subst ha0
      clear hsz s5
      go_simp
      go_wp2_with fail
      go_meet
      case rel => exact ⟨_, _, rfl, rfl, HF.out⟩
  case rest =>
  rename World => wx
  obtain ⟨P, Q, rfl, rfl, HW⟩ := hcut
  clear HU3
  go_wp2
  go_loopw [31] (fun i wr => ∃ (k : Nat), k ≤ M ∧ i = .int .i64 (k : Int) ∧ Hid (∃ (s : Sx) (vr : Value), RB w u1.heap.size vr (stS p s) wr ∧ InvS p s ∧ s.all.length = k ∧ s.got = k ∧ s.seen = k ∧ wr.heap[P]? = some (mkO 0 1) ∧ wr.heap[Q]? = some (mkO 0 1))) (fun i _ => M - (intOf i).toNat)
  case atStart => exact ⟨0, Nat.zero_le _, rfl, sx0, _, HW.out.1, HP0.out.2, rfl, rfl, rfl, HW.out.2.1, HW.out.2.2.1⟩
  case round =>
    obtain ⟨k, hk, rfl, HA⟩ := hrel
    obtain ⟨s, vr, hR, hI, h1, h2, h3, h4, h5⟩ := HA.out
    clear HA
    have HS : Hid (InvS p s ∧ s.all.length = k ∧ s.got = k ∧ s.seen = k) := ⟨hI, h1, h2, h3⟩
    obtain ⟨q, hq⟩ : ∃ q, stS p s = q := ⟨_, rfl⟩
    have HQ : Hid (stS p s = q) := hq
    have HR : Hid (RB w u1.heap.size vr q wr) := by rw [← hq]; exact hR
    have HPQ : Hid (wr.heap[P]? = some (mkO 0 1) ∧ wr.heap[Q]? = some (mkO 0 1)) := ⟨h4, h5⟩
    have hmk : (q.pa, q.pb) = mk p k ∧ (q.ga, q.gb) = mk p k := by
      rw [← hq]
      show ((mk p s.all.length).1, (mk p s.all.length).2) = mk p k ∧ ((mk p s.got).1, (mk p s.got).2) = mk p k
      rw [h1, h2]
      exact ⟨rfl, rfl⟩
    obtain ⟨qC, qpa, qpb, qga, qgb, qsn⟩ := q
    obtain ⟨ra, rn, rc, hvr⟩ : ∃ a n c, vr = .slice a n c := by obtain ⟨a, c, h, _⟩ := hR.2.1.form; exact ⟨_, _, _, h⟩
    subst hvr
    obtain ⟨⟨hzx, x0, x1, x2, x3, x4, x5⟩, fx0, fx1, fx2, fx3, fx4, fx5⟩ := box6 HR.out.1
    simp only at x0 x1 x2 x3 x4 x5
    clear hI h1 h2 h3 h4 h5 hR hq
    by_cases hlt : ¬ k < M
    · have hkM : k = M := by omega
      subst hkM
      have hend : mk p k = (0, 1) := by
        unfold mk
        rw [← HM.out, Nat.mul_mod_left, Nat.mul_div_cancel _ (by omega)]
        rfl
      rw [hend] at hmk
      simp only [Prod.mk.injEq] at hmk
      obtain ⟨⟨rfl, rfl⟩, rfl, rfl⟩ := hmk
      obtain ⟨⟨hzp, p0, p1⟩, _⟩ := box2 HPQ.out.1
      obtain ⟨⟨hzq, q0, q1⟩, _⟩ := box2 HPQ.out.2
      have heq : ∀ u, (binOp .eql 24 (mkV 0 1) (mkV 0 1)).run Try.prog u = .ok (.bool true) u := fun u => by rw [eql_mk]; rfl
      go_wp2
      go_ret
      exact ⟨rfl, HR.out.2.2.1⟩
    have hlt : k < M := by omega
    obtain ⟨y, hy⟩ : ∃ y, IntKind.u64.wrap (x + (k : Int)) = y := ⟨_, rfl⟩
    obtain ⟨s1, hs1⟩ : ∃ s1 : Sx, (⟨s.all ++ [y], k, k⟩ : Sx) = s1 := ⟨_, rfl⟩
    obtain ⟨s2, hs2⟩ : ∃ s2 : Sx, (⟨s.all ++ [y], k + 1, k⟩ : Sx) = s2 := ⟨_, rfl⟩
    obtain ⟨s3, hs3⟩ : ∃ s3 : Sx, (⟨s.all ++ [y], k + 1, k + 1⟩ : Sx) = s3 := ⟨_, rfl⟩
    have hl1 : (s.all ++ [y]).length = k + 1 := by rw [List.length_append, List.length_singleton, HS.out.2.1]
    have hI1 : InvS p s1 := by
      have h := HS.out.1
      have h1 := inv_put h (by rw [HS.out.2.1, HS.out.2.2.2]; omega) y
      rw [HS.out.2.2.1, HS.out.2.2.2] at h1
      rw [← hs1]
      exact h1
    have hI2 : InvS p s2 := by rw [← hs2]; rw [← hs1] at hI1; exact inv_get hI1 (by show k < (s.all ++ [y]).length; rw [hl1]; omega)
    have hI3 : InvS p s3 := by rw [← hs3]; rw [← hs2] at hI2; exact inv_lrn hI2
    obtain ⟨r1, hr1⟩ : ∃ q, stS p s1 = q := ⟨_, rfl⟩
    obtain ⟨r2, hr2⟩ : ∃ q, stS p s2 = q := ⟨_, rfl⟩
    obtain ⟨r3, hr3⟩ : ∃ q, stS p s3 = q := ⟨_, rfl⟩
    have HPT : Hid (Calls Try.prog 9 #[rgV (.slice ra rn rc) qpa qpb qga qgb qsn, .int .u64 y] wr fun e w' => ∃ v', e = .returned (.tuple #[rgW v' r1, .int .i64 0]) ∧ Tel wr v' r1 w') := by
      have hrm : rm p s = true := by unfold rm; rw [HS.out.2.1, HS.out.2.2.2, decide_eq_true (by omega)]
      have := Put_st (.slice ra rn rc) (p := p) (s := s) y wr (by rw [HQ.out]; exact HR.out.2.1.rcs) HS.out.1
      rw [hrm, if_pos rfl, if_pos rfl, putS_lap hrm, HS.out.2.2.1, HS.out.2.2.2, HQ.out, hs1, hr1] at this
      exact this
    have HGT : Hid (∀ v u, Rcs u v r1.C → Calls Try.prog 14 #[rgW v r1] u fun e w' => ∃ v', e = .returned (.tuple #[rgW v' r2, .int .u64 y, .bool true, .int .i64 0]) ∧ Tel u v' r2 w') := fun v u hu => by
      have := Get_st v (p := p) (s := s1) u (by rw [hr1]; exact hu) hI1
      have hlt1 : s1.got < s1.all.length := by rw [← hs1]; show k < (s.all ++ [y]).length; rw [hl1]; omega
      have e1 : getS s1 = s2 := by unfold getS; rw [if_pos hlt1, ← hs1, ← hs2]
      have e2 : nxW s1 = y := by
        unfold nxW
        rw [if_pos hlt1, ← hs1]
        show (s.all ++ [y]).getD k 0 = y
        rw [List.getD_eq_getElem?_getD, List.getElem?_append_right (by rw [HS.out.2.1]; omega), HS.out.2.1]
        simp
      have e3 : hasW s1 = true := by unfold hasW; exact decide_eq_true hlt1
      rw [e1, e2, e3, hr1, hr2] at this
      exact this
    have HLN : Hid (∀ v u, Rcs u v r2.C → Calls Try.prog 15 #[rgW v r2] u fun e w' => ∃ v', e = .returned (.tuple #[rgW v' r3, .int .i64 0]) ∧ Tel u v' r3 w') := fun v u hu => by
      have := Learn_st v (p := p) (s := s2) u (by rw [hr2]; exact hu) hI2
      have e1 : (⟨s2.all, s2.got, s2.got⟩ : Sx) = s3 := by rw [← hs2, ← hs3]
      rw [e1, hr2, hr3] at this
      exact this
    have hmk3 : (r3.pa, r3.pb) = mk p (k + 1) := by
      rw [← hr3, ← hs3]
      show ((mk p (s.all ++ [y]).length).1, (mk p (s.all ++ [y]).length).2) = mk p (k + 1)
      rw [hl1]
    have HEND : Hid (stS p s3 = r3 ∧ InvS p s3 ∧ s3.all.length = k + 1 ∧ s3.got = k + 1 ∧ s3.seen = k + 1) := ⟨hr3, hI3, by rw [← hs3]; exact hl1, by rw [← hs3], by rw [← hs3]⟩
    obtain ⟨r1C, r1pa, r1pb, r1ga, r1gb, r1sn⟩ := r1
    obtain ⟨r2C, r2pa, r2pb, r2ga, r2gb, r2sn⟩ := r2
    obtain ⟨r3C, r3pa, r3pb, r3ga, r3gb, r3sn⟩ := r3
    have hlap := lap_mk (p := p) (k := k) hp2 (by have := HM.out; omega)
    rw [← hmk3] at hlap
    simp only at hlap
    obtain ⟨b, hb⟩ : ∃ b, decide (k + 1 = 2 * p) = b := ⟨_, rfl⟩
    rw [hb] at hlap
    have heq : ∀ u, (binOp .eql 24 (mkV r3pa r3pb) (mkV 0 1)).run Try.prog u = .ok (.bool b) u := fun u => by rw [eql_mk, hlap]
    obtain ⟨N, hN⟩ : ∃ N : Nat, M - 1 = N := ⟨_, rfl⟩
    have hN2 : (M : Int) - 1 = (N : Int) := by omega
    have hkN : ((k : Int) == (N : Int)) = b := by
      rw [← hb]
      have := HM.out
      by_cases q : k + 1 = 2 * p
      · rw [decide_eq_true q]; simp; omega
      · rw [decide_eq_false q]; simp; omega
    have ebb : (b != b) = false := by simp
    have eyy : (y != y) = false := by simp
    clear hs1 hs2 hs3 hl1 hI1 hI2 hI3 hr1 hr2 hr3 hmk3 hlap hb hN hmk
    go_wp2_with fail
    refine HPT.out.mono ?_
    rintro e v1 ⟨w1, rfl, hw1, hb1⟩
    have hR1 := HR.out.below hb1
    obtain ⟨v2, hv2, hR2, hk2, _⟩ := hR1.put w1 ⟨r1C, r1pa, r1pb, r1ga, r1gb, r1sn⟩ (hw1.mono HR.out.2.2.1.size)
    simp only at hv2
    have HR2 : Hid (RB w u1.heap.size w1 ⟨r1C, r1pa, r1pb, r1ga, r1gb, r1sn⟩ v2 ∧ v2.heap[P]? = some (mkO 0 1) ∧ v2.heap[Q]? = some (mkO 0 1)) := ⟨hR2, (hk2 _ HW.out.2.2.2.1).trans (keep HPQ.out.1 hb1), (hk2 _ HW.out.2.2.2.2).trans (keep HPQ.out.2 hb1)⟩
    obtain ⟨wa, wn, wc, rfl⟩ : ∃ a n c, w1 = .slice a n c := by obtain ⟨a, c, h, _⟩ := hw1.form; exact ⟨_, _, _, h⟩
    obtain ⟨⟨hz1, i0, i1, i2, i3, i4, i5⟩, f0, f1, f2, f3, f4, f5⟩ := box6 hR1.1
    simp only at i0 i1 i2 i3 i4 i5
    clear hw1 hb1 hR1 hR2 hk2 x0 x1 x2 x3 x4 x5 fx0 fx1 fx2 fx3 fx4 fx5 HPT
    go_upto_region 11 with (fail)
    try rw [hv2]
    clear hv2 i0 i1 i2 i3 i4 i5 f0 f1 f2 f3 f4 f5
    obtain ⟨⟨hz2, x0, x1, x2, x3, x4, x5⟩, _⟩ := box6 HR2.out.1.1
    simp only at x0 x1 x2 x3 x4 x5
    go_wp2_with fail
    refine (HGT.out _ _ HR2.out.1.2.1.rcs).mono ?_
    rintro e v3 ⟨w3, rfl, hw3, hb3⟩
    have hR3 := HR2.out.1.below hb3
    obtain ⟨v4, hv4, hR4, hk4, _⟩ := hR3.put w3 ⟨r2C, r2pa, r2pb, r2ga, r2gb, r2sn⟩ (hw3.mono HR2.out.1.2.2.1.size)
    simp only at hv4
    have HR4 : Hid (RB w u1.heap.size w3 ⟨r2C, r2pa, r2pb, r2ga, r2gb, r2sn⟩ v4 ∧ v4.heap[P]? = some (mkO 0 1) ∧ v4.heap[Q]? = some (mkO 0 1)) := ⟨hR4, (hk4 _ HW.out.2.2.2.1).trans (keep HR2.out.2.1 hb3), (hk4 _ HW.out.2.2.2.2).trans (keep HR2.out.2.2 hb3)⟩
    obtain ⟨wa3, wn3, wc3, rfl⟩ : ∃ a n c, w3 = .slice a n c := by obtain ⟨a, c, h, _⟩ := hw3.form; exact ⟨_, _, _, h⟩
    obtain ⟨⟨hz3, i0, i1, i2, i3, i4, i5⟩, f0, f1, f2, f3, f4, f5⟩ := box6 hR3.1
    simp only at i0 i1 i2 i3 i4 i5
    clear hw3 hb3 hR3 hR4 hk4 x0 x1 x2 x3 x4 x5 HGT HR2
    go_upto_region 14 with (fail)
    try rw [hv4]
    clear hv4 i0 i1 i2 i3 i4 i5 f0 f1 f2 f3 f4 f5
    obtain ⟨⟨hz4, x0, x1, x2, x3, x4, x5⟩, _⟩ := box6 HR4.out.1.1
    simp only at x0 x1 x2 x3 x4 x5
    go_wp2_with fail
    refine (HLN.out _ _ HR4.out.1.2.1.rcs).mono ?_
    rintro e v5 ⟨w5, rfl, hw5, hb5⟩
    have hR5 := HR4.out.1.below hb5
    obtain ⟨v6, hv6, hR6, hk6, _⟩ := hR5.put w5 ⟨r3C, r3pa, r3pb, r3ga, r3gb, r3sn⟩ (hw5.mono HR4.out.1.2.2.1.size)
    simp only at hv6
    have HR6 : Hid (RB w u1.heap.size w5 ⟨r3C, r3pa, r3pb, r3ga, r3gb, r3sn⟩ v6 ∧ v6.heap[P]? = some (mkO 0 1) ∧ v6.heap[Q]? = some (mkO 0 1)) := ⟨hR6, (hk6 _ HW.out.2.2.2.1).trans (keep HR4.out.2.1 hb5), (hk6 _ HW.out.2.2.2.2).trans (keep HR4.out.2.2 hb5)⟩
    obtain ⟨wa5, wn5, wc5, rfl⟩ : ∃ a n c, w5 = .slice a n c := by obtain ⟨a, c, h, _⟩ := hw5.form; exact ⟨_, _, _, h⟩
    obtain ⟨⟨hz5, i0, i1, i2, i3, i4, i5⟩, f0, f1, f2, f3, f4, f5⟩ := box6 hR5.1
    simp only at i0 i1 i2 i3 i4 i5
    clear hw5 hb5 hR5 hR6 hk6 x0 x1 x2 x3 x4 x5 HLN HR4
    go_upto_region 17 with (fail)
    try rw [hv6]
    clear hv6 i0 i1 i2 i3 i4 i5 f0 f1 f2 f3 f4 f5
    obtain ⟨⟨hz6, x0, x1, x2, x3, x4, x5⟩, _⟩ := box6 HR6.out.1.1
    simp only at x0 x1 x2 x3 x4 x5
    obtain ⟨⟨hzp, p0, p1⟩, _⟩ := box2 HR6.out.2.1
    have HE : Hid (∃ (s : Sx) (vr : Value), RB w u1.heap.size vr (stS p s) v6 ∧ InvS p s ∧ s.all.length = k + 1 ∧ s.got = k + 1 ∧ s.seen = k + 1 ∧ v6.heap[P]? = some (mkO 0 1) ∧ v6.heap[Q]? = some (mkO 0 1)) := ⟨s3, _, by rw [HEND.out.1]; exact HR6.out.1, HEND.out.2.1, HEND.out.2.2.1, HEND.out.2.2.2.1, HEND.out.2.2.2.2, HR6.out.2.1, HR6.out.2.2⟩
    clear HR6 HEND HS
    go_wp2
    go_roundw
    case rel => exact ⟨k + 1, by omega, by go_num, HE.out⟩
    case measure => simp [intOf]; omega
end Go.Proofs.Ytmapnkjmgpkhfaa.ringLaps
