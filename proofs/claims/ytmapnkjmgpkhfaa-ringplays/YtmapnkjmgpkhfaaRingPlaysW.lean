/- RingPlays: whatever is handed in, New and Play answer what the document says. -/
import Derived.Test.YtmapnkjmgpkhfaaRngZ
import Derived.Test.YtmapnkjmgpkhfaaRngS
namespace Go.Proofs.Ytmapnkjmgpkhfaa.ringPlays
open Go Go.RowKit Go.Proofs.Ytmapnkjmgpkhfaa.ring
set_option linter.unusedVariables false
set_option linter.unusedSimpArgs false
set_option maxRecDepth 100000

theorem nil_c (cc : Int) : plC cc [] = nwC cc := by
  unfold plC nwC
  cases cnB cc <;> rfl
theorem nil_r (cc : Int) : plR cc [] = nwR cc := by
  unfold plR nwR
  rw [nil_c]
  unfold nwC
  cases h : cnB cc
  · rfl
  · rfl
set_option maxHeartbeats 8000000 in
theorem walk (cc : Int) (v : Value) (T : List Tn) (wc : (Lit.int .i64 cc).wf = true) (w : World) (hv : Rtn w v T) :
    Calls Try.prog 5 #[.int .i64 cc, v] w fun e w' => e = .returned (.bool true) ∧ Below w.heap.size w w' := by
  clear wc
  obtain ⟨V, hV⟩ : ∃ V, plR cc T = V := ⟨_, rfl⟩
  obtain ⟨l, hl⟩ : ∃ V, plL cc T = V := ⟨_, rfl⟩
  obtain ⟨k, hk⟩ : ∃ k, plC cc T = k := ⟨_, rfl⟩
  obtain ⟨U, hU⟩ : ∃ V, nwR cc = V := ⟨_, rfl⟩
  obtain ⟨z, hz⟩ : ∃ V, nwC cc = V := ⟨_, rfl⟩
  obtain ⟨l0, hl0⟩ : ∃ V, plL cc [] = V := ⟨_, rfl⟩
  have HP : Hid (∀ u, Below w.heap.size w u → Calls Try.prog 17 #[.int .i64 cc, v] u fun e w' => ∃ v' gv, e = .returned (.tuple #[rgW v' V, gv, .int .i64 k]) ∧ Ces w' u.heap.size v' V.C ∧ Wds w' u.heap.size gv l ∧ Below u.heap.size u w') := fun u hu => by
    have := Play_any cc v T u (hv.below hu)
    rw [hV, hl, hk] at this
    exact this
  have HQ : Hid (∀ u, Below w.heap.size w u → Calls Try.prog 18 #[.int .i64 cc, v] u fun e w' => ∃ v' gv, e = .returned (.tuple #[rgW v' V, gv, .int .i64 k]) ∧ Ces w' u.heap.size v' V.C ∧ Wds w' u.heap.size gv l ∧ Below u.heap.size u w') := fun u hu => by
    have := refPlay_any cc v T u (hv.below hu)
    rw [hV, hl, hk] at this
    exact this
  have HN : Hid (∀ u, Calls Try.prog 19 #[.int .i64 cc] u fun e w' => ∃ v', e = .returned (.tuple #[rgW v' U, .int .i64 z]) ∧ Tel u v' U w') := fun u => by
    have := New_any cc u
    rw [hU, hz] at this
    exact this
  have HO : Hid (∀ u, Calls Try.prog 18 #[.int .i64 cc, .slice none 0 0] u fun e w' => ∃ v' gv, e = .returned (.tuple #[rgW v' U, gv, .int .i64 z]) ∧ Ces w' u.heap.size v' U.C ∧ Wds w' u.heap.size gv l0 ∧ Below u.heap.size u w') := fun u => by
    have := refPlay_any cc (.slice none 0 0) [] u (Rtn.nil u)
    rw [nil_r, nil_c, hU, hz, hl0] at this
    exact this
  obtain ⟨ad, c, rfl, hlc, hcm⟩ := hv.form
  obtain ⟨n, hn⟩ : ∃ n, T.length = n := ⟨_, rfl⟩
  rw [hn] at hv hlc HP HQ ⊢
  obtain ⟨VC, vpa, vpb, vga, vgb, vsn⟩ := V
  obtain ⟨UC, upa, upb, uga, ugb, usn⟩ := U
  clear hv hn hV hl hk hU hz hl0 hcm hlc
  go_enter Try.func5, Try.ntmps5
  go_wp2_with fail
  refine (HP.out _ (Below.refl _ _)).mono ?_
  rintro e u1 ⟨v1, gv1, rfl, hv1, hg1, hb1⟩
  obtain ⟨u1', u2, hu1', hu2, hY1, hY2, hb2⟩ := laid6 u1 26 (.slice none 0 0) (.int .i64 0) (.int .i64 0) (.int .i64 0) (.int .i64 0) (.int .i64 0) v1 (.int .i64 vpa) (.int .i64 vpb) (.int .i64 vga) (.int .i64 vgb) (.int .i64 vsn)
  have HA : Hid (∀ W, Below u2.heap.size u2 W → W.heap[u1.heap.size]? = some (rgO v1 vpa vpb vga vgb vsn) ∧ Rcs W v1 VC ∧ Rws W gv1 l ∧ Below w.heap.size w W) := fun W hW => ⟨keep hY2 hW, hv1.rcs.below (bsq hb2 hW), hg1.rws.below (bsq hb2 hW), bsq hb1 (bsq hb2 hW)⟩
  obtain ⟨va, vn, vc, rfl⟩ : ∃ a n c, v1 = .slice a n c := by obtain ⟨a, c, h, _⟩ := hv1.form; exact ⟨_, _, _, h⟩
  obtain ⟨ga, gn, gc, rfl⟩ : ∃ a n c, gv1 = .slice a n c := by obtain ⟨a, c, h, _⟩ := hg1.form; exact ⟨_, _, _, h⟩
  obtain ⟨⟨hz1, t0, t1, t2, t3, t4, t5⟩, f0, f1, f2, f3, f4, f5⟩ := box6 hY1
  clear hv1 hg1 hb1 hY1 hY2 hb2 HP
  go_upto_region 2 with (fail)
  try rw [hu2]
  clear hu2 hu1' t0 t1 t2 t3 t4 t5 f0 f1 f2 f3 f4 f5
  go_wp2_with fail
  refine (HQ.out _ (HA.out u2 (Below.refl _ _)).2.2.2).mono ?_
  rintro e u3 ⟨v3, gv3, rfl, hv3, hg3, hb3⟩
  obtain ⟨u3', u4, hu3', hu4, hY3, hY4, hb4⟩ := laid6 u3 26 (.slice none 0 0) (.int .i64 0) (.int .i64 0) (.int .i64 0) (.int .i64 0) (.int .i64 0) v3 (.int .i64 vpa) (.int .i64 vpb) (.int .i64 vga) (.int .i64 vgb) (.int .i64 vsn)
  have HB : Hid (∀ W, Below u4.heap.size u4 W → W.heap[u3.heap.size]? = some (rgO v3 vpa vpb vga vgb vsn) ∧ Rcs W v3 VC ∧ Rws W gv3 l ∧ Below u2.heap.size u2 W) := fun W hW => ⟨keep hY4 hW, hv3.rcs.below (bsq hb4 hW), hg3.rws.below (bsq hb4 hW), bsq hb3 (bsq hb4 hW)⟩
  obtain ⟨wa, wn, wc, rfl⟩ : ∃ a n c, v3 = .slice a n c := by obtain ⟨a, c, h, _⟩ := hv3.form; exact ⟨_, _, _, h⟩
  obtain ⟨ha, hn, hc, rfl⟩ : ∃ a n c, gv3 = .slice a n c := by obtain ⟨a, c, h, _⟩ := hg3.form; exact ⟨_, _, _, h⟩
  obtain ⟨⟨hz3, t0, t1, t2, t3, t4, t5⟩, f0, f1, f2, f3, f4, f5⟩ := box6 hY3
  clear hv3 hg3 hb3 hY3 hY4 hb4 HQ
  go_upto_region 3 with (fail)
  try rw [hu4]
  clear hu4 hu3' t0 t1 t2 t3 t4 t5 f0 f1 f2 f3 f4 f5
  go_wp2_with fail
  refine (HN.out _).mono ?_
  rintro e u5 ⟨v5, rfl, hv5, hb5⟩
  obtain ⟨u5', u6, hu5', hu6, hY5, hY6, hb6⟩ := laid6 u5 26 (.slice none 0 0) (.int .i64 0) (.int .i64 0) (.int .i64 0) (.int .i64 0) (.int .i64 0) v5 (.int .i64 upa) (.int .i64 upb) (.int .i64 uga) (.int .i64 ugb) (.int .i64 usn)
  have HC : Hid (∀ W, Below u6.heap.size u6 W → W.heap[u5.heap.size]? = some (rgO v5 upa upb uga ugb usn) ∧ Rcs W v5 UC ∧ Below u4.heap.size u4 W) := fun W hW => ⟨keep hY6 hW, hv5.rcs.below (bsq hb6 hW), bsq hb5 (bsq hb6 hW)⟩
  obtain ⟨xa, xn, xc, rfl⟩ : ∃ a n c, v5 = .slice a n c := by obtain ⟨a, c, h, _⟩ := hv5.form; exact ⟨_, _, _, h⟩
  obtain ⟨⟨hz5, t0, t1, t2, t3, t4, t5⟩, f0, f1, f2, f3, f4, f5⟩ := box6 hY5
  clear hv5 hb5 hY5 hY6 hb6 HN
  go_upto_region 4 with (fail)
  try rw [hu6]
  clear hu6 hu5' t0 t1 t2 t3 t4 t5 f0 f1 f2 f3 f4 f5
  go_wp2_with fail
  refine (HO.out _).mono ?_
  rintro e u7 ⟨v7, gv7, rfl, hv7, hg7, hb7⟩
  obtain ⟨u7', u8, hu7', hu8, hY7, hY8, hb8⟩ := laid6 u7 26 (.slice none 0 0) (.int .i64 0) (.int .i64 0) (.int .i64 0) (.int .i64 0) (.int .i64 0) v7 (.int .i64 upa) (.int .i64 upb) (.int .i64 uga) (.int .i64 ugb) (.int .i64 usn)
  have HD : Hid (∀ W, Below u8.heap.size u8 W → W.heap[u7.heap.size]? = some (rgO v7 upa upb uga ugb usn) ∧ Rcs W v7 UC ∧ Below u6.heap.size u6 W) := fun W hW => ⟨keep hY8 hW, hv7.rcs.below (bsq hb8 hW), bsq hb7 (bsq hb8 hW)⟩
  obtain ⟨za, zn, zc, rfl⟩ : ∃ a n c, v7 = .slice a n c := by obtain ⟨a, c, h, _⟩ := hv7.form; exact ⟨_, _, _, h⟩
  obtain ⟨ea, en, ec, rfl⟩ : ∃ a n c, gv7 = .slice a n c := by obtain ⟨a, c, h, _⟩ := hg7.form; exact ⟨_, _, _, h⟩
  obtain ⟨⟨hz7, t0, t1, t2, t3, t4, t5⟩, f0, f1, f2, f3, f4, f5⟩ := box6 hY7
  clear hv7 hg7 hb7 hY7 hY8 hb8 HO
  go_upto_region 5 with (fail)
  try rw [hu8]
  clear hu8 hu7' t0 t1 t2 t3 t4 t5 f0 f1 f2 f3 f4 f5
  have HALL : Hid (∀ W, Below u8.heap.size u8 W → (W.heap[u1.heap.size]? = some (rgO (.slice va vn vc) vpa vpb vga vgb vsn) ∧ Rcs W (.slice va vn vc) VC ∧ Rws W (.slice ga gn gc) l ∧ Below w.heap.size w W) ∧ (W.heap[u3.heap.size]? = some (rgO (.slice wa wn wc) vpa vpb vga vgb vsn) ∧ Rcs W (.slice wa wn wc) VC ∧ Rws W (.slice ha hn hc) l) ∧ (W.heap[u5.heap.size]? = some (rgO (.slice xa xn xc) upa upb uga ugb usn) ∧ Rcs W (.slice xa xn xc) UC) ∧ W.heap[u7.heap.size]? = some (rgO (.slice za zn zc) upa upb uga ugb usn) ∧ Rcs W (.slice za zn zc) UC) := fun W hW => by
    obtain ⟨d1, d2, d3⟩ := HD.out W hW
    obtain ⟨c1, c2, c3⟩ := HC.out W d3
    obtain ⟨b1, b2, b3, b4⟩ := HB.out W c3
    exact ⟨HA.out W b4, ⟨b1, b2, b3⟩, ⟨c1, c2⟩, d1, d2⟩
  clear HA HB HC HD
  have HS1 : Hid (Calls Try.prog 13 #[rgV (.slice va vn vc) vpa vpb vga vgb vsn, rgV (.slice wa wn wc) vpa vpb vga vgb vsn] u8 fun e w' => e = .returned (.bool true) ∧ Below u8.heap.size u8 w') := by
    have q := HALL.out u8 (Below.refl _ _)
    have := same_any ⟨VC, vpa, vpb, vga, vgb, vsn⟩ ⟨VC, vpa, vpb, vga, vgb, vsn⟩ (.slice va vn vc) (.slice wa wn wc) u8 q.1.2.1 q.2.1.2.1
    rw [samB_same] at this
    exact this
  obtain ⟨⟨hzA, a0, a1, a2, a3, a4, a5⟩, _⟩ := box6 (HALL.out u8 (Below.refl _ _)).1.1
  obtain ⟨⟨hzB, b0, b1, b2, b3, b4, b5⟩, _⟩ := box6 (HALL.out u8 (Below.refl _ _)).2.1.1
  have ekk : (k == k) = true := by simp
  have ezz : (z == z) = true := by simp
  go_wp2_with fail
  refine HS1.out.mono ?_
  rintro e u9 ⟨rfl, hb9⟩
  have H9 : Hid (Below u8.heap.size u8 u9) := hb9
  have HEQ : Hid (Calls Try.prog 20 #[.slice ga gn gc, .slice ha hn hc] u9 fun e w' => e = .returned (.bool true) ∧ Below u9.heap.size u9 w') := by
    have q := HALL.out u9 hb9
    have := equalW_any (.slice ga gn gc) (.slice ha hn hc) l l u9 q.1.2.2.1 q.2.1.2.2
    rw [decide_eq_true rfl] at this
    exact this
  clear hb9 a0 a1 a2 a3 a4 a5 b0 b1 b2 b3 b4 b5 HS1
  go_wp2_with fail
  refine HEQ.out.mono ?_
  rintro e uA ⟨rfl, hbA⟩
  have HBA : Hid (Below u8.heap.size u8 uA) := bsq H9.out hbA
  have HS2 : Hid (Calls Try.prog 13 #[rgV (.slice xa xn xc) upa upb uga ugb usn, rgV (.slice za zn zc) upa upb uga ugb usn] uA fun e w' => e = .returned (.bool true) ∧ Below uA.heap.size uA w') := by
    have q := HALL.out uA HBA.out
    have := same_any ⟨UC, upa, upb, uga, ugb, usn⟩ ⟨UC, upa, upb, uga, ugb, usn⟩ (.slice xa xn xc) (.slice za zn zc) uA q.2.2.1.2 q.2.2.2.2
    rw [samB_same] at this
    exact this
  obtain ⟨⟨hzC, a0, a1, a2, a3, a4, a5⟩, _⟩ := box6 (HALL.out uA HBA.out).2.2.1.1
  obtain ⟨⟨hzD, b0, b1, b2, b3, b4, b5⟩, _⟩ := box6 (HALL.out uA HBA.out).2.2.2.1
  clear hbA HEQ
  go_wp2_with fail
  refine HS2.out.mono ?_
  rintro e uB ⟨rfl, hbB⟩
  have HBB : Hid (Below u8.heap.size u8 uB) := bsq HBA.out hbB
  clear hbB
  go_wp2
  go_ret
  exact ⟨rfl, (HALL.out uB HBB.out).1.2.2.2⟩
end Go.Proofs.Ytmapnkjmgpkhfaa.ringPlays
