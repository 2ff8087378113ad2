/- RingPuts: whatever is handed in, Check and Put answer what the document says. -/
import Derived.Test.YtmapnkjmgpkhfaaRngT
import Derived.Test.YtmapnkjmgpkhfaaRngS
import Derived.Test.YtmapnkjmgpkhfaaRngK
namespace Go.Proofs.Ytmapnkjmgpkhfaa.ringPuts
open Go Go.RowKit Go.Proofs.Ytmapnkjmgpkhfaa.ring
set_option linter.unusedVariables false
set_option linter.unusedSimpArgs false
set_option maxRecDepth 100000

set_option maxHeartbeats 8000000 in
theorem walk (v : Value) (r : Rg) (x : Int) (wx : (Lit.int .u64 x).wf = true) (w : World) (hv : Rcs w v r.C) :
    Calls Try.prog 3 #[rgV v r.pa r.pb r.ga r.gb r.sn, .int .u64 x] w fun e w' => e = .returned (.bool true) ∧ Below w.heap.size w w' := by
  clear wx
  obtain ⟨ad, c, rfl, hlc, hcm⟩ := hv.form
  obtain ⟨n, hn⟩ : ∃ n, r.C.length = n := ⟨_, rfl⟩
  rw [hn] at hv hlc ⊢
  obtain ⟨w1, hw1, hX1, hb1⟩ := named w (rgOf (.slice ad n c) r)
  obtain ⟨⟨hz, x0, x1, x2, x3, x4, x5⟩, _⟩ := box6 hX1
  have HW : Hid (∀ u, Below w1.heap.size w1 u → Below w.heap.size w u) := fun u hu => bsq hb1 hu
  have HX : Hid (∀ u, Below w1.heap.size w1 u → u.heap[w.heap.size]? = some (rgOf (.slice ad n c) r)) := fun u hu => keep hX1 hu
  obtain ⟨k, hk⟩ : ∃ k, chk r = k := ⟨_, rfl⟩
  obtain ⟨V, hV⟩ : ∃ V, ptV r x = V := ⟨_, rfl⟩
  obtain ⟨z, hz'⟩ : ∃ z, ptC r = z := ⟨_, rfl⟩
  have HCK : Hid (∀ u, Below w1.heap.size w1 u → Calls Try.prog 11 #[rgW (.slice ad n c) r] u fun e w' => e = .returned (.int .i64 k) ∧ Below u.heap.size u w') := fun u hu => by
    have := check_any (.slice ad n c) r u (hv.below (bsq hb1 hu))
    rw [hk] at this
    exact this
  have HRK : Hid (∀ u, Below w1.heap.size w1 u → Calls Try.prog 12 #[rgW (.slice ad n c) r] u fun e w' => e = .returned (.int .i64 k) ∧ Below u.heap.size u w') := fun u hu => by
    have := refRing_any (.slice ad n c) r u (hv.below (bsq hb1 hu))
    rw [hk] at this
    exact this
  have HP : Hid (∀ u, Below w1.heap.size w1 u → Calls Try.prog 9 #[rgW (.slice ad n c) r, .int .u64 x] u fun e w' => ∃ v', e = .returned (.tuple #[rgW v' V, .int .i64 z]) ∧ Tel u v' V w') := fun u hu => by
    have := Put_any (.slice ad n c) r x u (hv.below (bsq hb1 hu))
    rw [hV, hz'] at this
    exact this
  have HQ : Hid (∀ u, Below w1.heap.size w1 u → Calls Try.prog 10 #[rgW (.slice ad n c) r, .int .u64 x] u fun e w' => ∃ v', e = .returned (.tuple #[rgW v' V, .int .i64 z]) ∧ Tel u v' V w') := fun u hu => by
    have := refPut_any (.slice ad n c) r x u (hv.below (bsq hb1 hu))
    rw [hV, hz'] at this
    exact this
  obtain ⟨C, pa, pb, ga, gb, sn⟩ := r
  obtain ⟨VC, vpa, vpb, vga, vgb, vsn⟩ := V
  simp only at x0 x1 x2 x3 x4 x5
  clear hv hn hX1 hb1 hk hV hz'
  go_enter Try.func3, Try.ntmps3
  go_wp2_with fail
  refine (HP.out _ (Below.refl _ _)).mono ?_
  rintro e u1 ⟨v1, rfl, hv1, hb1⟩
  obtain ⟨u1', u2, hu1', hu2, hY1, hY2, hb2⟩ := laid6 u1 26 (.slice none 0 0) (.int .i64 0) (.int .i64 0) (.int .i64 0) (.int .i64 0) (.int .i64 0) v1 (.int .i64 vpa) (.int .i64 vpb) (.int .i64 vga) (.int .i64 vgb) (.int .i64 vsn)
  have HU2 : Hid (Below w1.heap.size w1 u2) := bsq hb1 hb2
  have HV2 : Hid (Rcs u2 v1 VC ∧ u2.heap[u1.heap.size]? = some (rgO v1 vpa vpb vga vgb vsn)) := ⟨hv1.rcs.below hb2, hY2⟩
  obtain ⟨va, vn, vc, rfl⟩ : ∃ a n c, v1 = .slice a n c := by obtain ⟨a, c, h, _⟩ := hv1.form; exact ⟨_, _, _, h⟩
  obtain ⟨⟨hz1, t0, t1, t2, t3, t4, t5⟩, f0, f1, f2, f3, f4, f5⟩ := box6 hY1
  obtain ⟨⟨hz2, a0, a1, a2, a3, a4, a5⟩, _⟩ := box6 (HX.out u2 HU2.out)
  simp only at a0 a1 a2 a3 a4 a5
  clear hv1 hb1 hY1 hY2 hb2 x0 x1 x2 x3 x4 x5 hw1
  go_upto_region 2 with (fail)
  try rw [hu2]
  clear hu2 hu1' t0 t1 t2 t3 t4 t5 f0 f1 f2 f3 f4 f5
  go_wp2_with fail
  refine (HQ.out _ HU2.out).mono ?_
  rintro e u3 ⟨v3, rfl, hv3, hb3⟩
  obtain ⟨u3', u4, hu3', hu4, hY3, hY4, hb4⟩ := laid6 u3 26 (.slice none 0 0) (.int .i64 0) (.int .i64 0) (.int .i64 0) (.int .i64 0) (.int .i64 0) v3 (.int .i64 vpa) (.int .i64 vpb) (.int .i64 vga) (.int .i64 vgb) (.int .i64 vsn)
  have hb24 := bsq hb3 hb4
  have HU4 : Hid (Below w1.heap.size w1 u4) := bsq HU2.out hb24
  obtain ⟨wa, wn, wc, rfl⟩ : ∃ a n c, v3 = .slice a n c := by obtain ⟨a, c, h, _⟩ := hv3.form; exact ⟨_, _, _, h⟩
  have HV4 : Hid (∀ W, Below u4.heap.size u4 W → (W.heap[u1.heap.size]? = some (rgO (.slice va vn vc) vpa vpb vga vgb vsn) ∧ W.heap[u3.heap.size]? = some (rgO (.slice wa wn wc) vpa vpb vga vgb vsn) ∧ W.heap[w.heap.size]? = some (rgO (.slice ad n c) pa pb ga gb sn))) := fun W hW => ⟨keep (keep HV2.out.2 hb24) hW, keep hY4 hW, HX.out W (bsq HU4.out hW)⟩
  have HSM : Hid (∀ W, Below u4.heap.size u4 W → Calls Try.prog 13 #[rgV (.slice va vn vc) vpa vpb vga vgb vsn, rgV (.slice wa wn wc) vpa vpb vga vgb vsn] W fun e w' => e = .returned (.bool true) ∧ Below W.heap.size W w') := fun W hW => by
    have := same_any ⟨VC, vpa, vpb, vga, vgb, vsn⟩ ⟨VC, vpa, vpb, vga, vgb, vsn⟩ (.slice va vn vc) (.slice wa wn wc) W (HV2.out.1.below (bsq hb24 hW)) (hv3.rcs.below (bsq hb4 hW))
    rw [samB_same] at this
    exact this
  obtain ⟨⟨hz3, t0, t1, t2, t3, t4, t5⟩, f0, f1, f2, f3, f4, f5⟩ := box6 hY3
  clear hv3 hb3 hY3 hY4 hb4 hb24 a0 a1 a2 a3 a4 a5
  go_upto_region 3 with (fail)
  try rw [hu4]
  clear hu4 hu3' t0 t1 t2 t3 t4 t5 f0 f1 f2 f3 f4 f5
  refine wp_abs (fun a0 => a0.tmps.size = 36 ∧ (∀ h, a0.tmps[2]'h = .pointer (some ⟨w.heap.size, 0, none⟩)) ∧ (∀ h, a0.tmps[5]'h = .pointer (some ⟨u1.heap.size, 0, none⟩)) ∧ (∀ h, a0.tmps[7]'h = .pointer (some ⟨u3.heap.size, 0, none⟩)) ∧ (∀ h, a0.tmps[6]'h = .int .i64 z) ∧ (∀ h, a0.tmps[8]'h = .int .i64 z)) ⟨rfl, fun _ => rfl, fun _ => rfl, fun _ => rfl, fun _ => rfl, fun _ => rfl⟩ ?_
  rintro a0 ⟨hsz, s2, s5, s7, s6, s8⟩ ha0
  refine wp_region_held (S := fun W => Below u4.heap.size u4 W) (by kernel_rfl) ?_
  have hS0 : Below u4.heap.size u4 u4.drew := (Below.refl _ _).drew
  have ekk : (k == k) = true := by simp
  have ezz : (z == z) = true := by simp
  refine h_take (i := 0) (rgV (.slice ad n c) pa pb ga gb sn) rfl (by kernel_rfl) (by kernel_rfl) (by kernel_rfl) (fun _ _ _ h => h) rfl hS0 (fun W hW => by obtain ⟨⟨zb, x0, x1, x2, x3, x4, x5⟩, _⟩ := box6 ((HV4.out W hW).2.2); simp [execOp, go_sem, Act.put, hsz, s2, s5, s6, s7, s8, x0, x1, x2, x3, x4, x5]) ?_
  refine h_take (i := 2) (rgV (.slice ad n c) pa pb ga gb sn) rfl (by kernel_rfl) (by kernel_rfl) (by kernel_rfl) (fun _ _ _ h => h) rfl hS0 (fun W hW => by obtain ⟨⟨zb, x0, x1, x2, x3, x4, x5⟩, _⟩ := box6 ((HV4.out W hW).2.2); simp [execOp, go_sem, Act.put, hsz, s2, s5, s6, s7, s8, x0, x1, x2, x3, x4, x5]) ?_
  refine h_call (i := 1) 11 #[rgV (.slice ad n c) pa pb ga gb sn] rfl (by kernel_rfl) rfl (by simp [execOp, go_sem, Act.put, hsz, s2, s5, s6, s7, s8]) ((HCK.out _ (bsq HU4.out hS0)).mono ?_)
  rintro e u5 ⟨rfl, hb5⟩
  have hS1 : Below u4.heap.size u4 u5 := bsq hS0 hb5
  refine ⟨_, rfl, hS1, ?_⟩
  refine h_call (i := 3) 12 #[rgV (.slice ad n c) pa pb ga gb sn] rfl (by kernel_rfl) rfl (by simp [execOp, go_sem, Act.put, hsz, s2, s5, s6, s7, s8]) ((HRK.out _ (bsq HU4.out hS1)).mono ?_)
  rintro e u6 ⟨rfl, hb6⟩
  have hS2 : Below u4.heap.size u4 u6 := bsq hS1 hb6
  refine ⟨_, rfl, hS2, ?_⟩
  refine h_take (i := 4) (.bool true) rfl (by kernel_rfl) (by kernel_rfl) (by kernel_rfl) (fun _ _ _ h => h) rfl hS2 (fun W hW => by simp [execOp, go_sem, Act.put, hsz, s2, s5, s6, s7, s8, ekk]) ?_
  refine h_take (i := 5) (.bool true) rfl (by kernel_rfl) (by kernel_rfl) (by kernel_rfl) (fun _ _ _ h => h) rfl hS2 (fun W hW => by simp [execOp, go_sem, Act.put, hsz, s2, s5, s6, s7, s8]) ?_
  refine g_take (i := 6) (rgV (.slice va vn vc) vpa vpb vga vgb vsn) rfl (by kernel_rfl) (by kernel_rfl) (by kernel_rfl) (fun _ _ _ h => h) (by simp [Region.wanted, yielded, Act.put, hsz]) hS2 (fun W hW => by obtain ⟨⟨zb, x0, x1, x2, x3, x4, x5⟩, _⟩ := box6 ((HV4.out W hW).1); simp [execOp, go_sem, Act.put, hsz, s2, s5, s6, s7, s8, x0, x1, x2, x3, x4, x5]) ?_
  refine g_take (i := 7) (rgV (.slice wa wn wc) vpa vpb vga vgb vsn) rfl (by kernel_rfl) (by kernel_rfl) (by kernel_rfl) (fun _ _ _ h => h) (by simp [Region.wanted, yielded, Act.put, hsz]) hS2 (fun W hW => by obtain ⟨⟨zb, x0, x1, x2, x3, x4, x5⟩, _⟩ := box6 ((HV4.out W hW).2.1); simp [execOp, go_sem, Act.put, hsz, s2, s5, s6, s7, s8, x0, x1, x2, x3, x4, x5]) ?_
  refine g_call (i := 8) 13 #[rgV (.slice va vn vc) vpa vpb vga vgb vsn, rgV (.slice wa wn wc) vpa vpb vga vgb vsn] rfl (by kernel_rfl) (by simp [Region.wanted, yielded, Act.put, hsz]) (by simp [execOp, go_sem, Act.put, hsz, s2, s5, s6, s7, s8]) ((HSM.out _ hS2).mono ?_)
  rintro e u7 ⟨rfl, hb7⟩
  have hS3 : Below u4.heap.size u4 u7 := bsq hS2 hb7
  refine ⟨_, rfl, hS3, ?_⟩
  refine h_take (i := 9) (.bool true) rfl (by kernel_rfl) (by kernel_rfl) (by kernel_rfl) (fun _ _ _ h => h) rfl hS3 (fun W hW => by simp [execOp, go_sem, Act.put, hsz, s2, s5, s6, s7, s8]) ?_
  refine h_take (i := 10) (.bool true) rfl (by kernel_rfl) (by kernel_rfl) (by kernel_rfl) (fun _ _ _ h => h) rfl hS3 (fun W hW => by simp [execOp, go_sem, Act.put, hsz, s2, s5, s6, s7, s8]) ?_
  refine g_take (i := 11) (.int .i64 z) rfl (by kernel_rfl) (by kernel_rfl) (by kernel_rfl) (fun _ _ _ h => h) (by simp [Region.wanted, yielded, Act.put, hsz]) hS3 (fun W hW => by simp [execOp, go_sem, Act.put, hsz, s2, s5, s6, s7, s8]) ?_
  refine g_take (i := 12) (.int .i64 z) rfl (by kernel_rfl) (by kernel_rfl) (by kernel_rfl) (fun _ _ _ h => h) (by simp [Region.wanted, yielded, Act.put, hsz]) hS3 (fun W hW => by simp [execOp, go_sem, Act.put, hsz, s2, s5, s6, s7, s8]) ?_
  refine g_take (i := 13) (.bool true) rfl (by kernel_rfl) (by kernel_rfl) (by kernel_rfl) (fun _ _ _ h => h) (by simp [Region.wanted, yielded, Act.put, hsz]) hS3 (fun W hW => by simp [execOp, go_sem, Act.put, hsz, s2, s5, s6, s7, s8, ezz]) ?_
  refine h_take (i := 14) (.bool true) rfl (by kernel_rfl) (by kernel_rfl) (by kernel_rfl) (fun _ _ _ h => h) rfl hS3 (fun W hW => by simp [execOp, go_sem, Act.put, hsz, s2, s5, s6, s7, s8]) ?_
  refine h_take (i := 15) (.bool true) rfl (by kernel_rfl) (by kernel_rfl) (by kernel_rfl) (fun _ _ _ h => h) rfl hS3 (fun W hW => by simp [execOp, go_sem, Act.put, hsz, s2, s5, s6, s7, s8]) ?_
  refine wpAnyH_done (by kernel_rfl) ?_ _
  have HEND : Hid (Below w.heap.size w u7) := HW.out _ (bsq HU4.out hS3)
  clear hS0 hS1 hS2 hS3 hb5 hb6 hb7
  subst ha0
  clear hsz s2 s5 s6 s7 s8
  go_simp
  go_wp2
  go_ret
  exact ⟨rfl, HEND.out⟩
end Go.Proofs.Ytmapnkjmgpkhfaa.ringPuts
