/- ArenaOwn: the arena that is handed in stays as it was, and what is told shares nothing with it. -/
import Derived.Test.YtifebinpjpalhabAreW
import Derived.Test.YtifebinpjpalhabAreK
import Derived.Test.YtifebinpjpalhabAreJ
import Derived.SizedLaws
namespace Go.Proofs.Ytifebinpjpalhab.arenaOwn
open Go Go.RowKit Go.Proofs.Ytifebinpjpalhab.arena
set_option linter.unusedVariables false
set_option linter.unusedSimpArgs false
set_option maxRecDepth 100000

theorem pair_at {v1 v2 v : Value} {k : Nat} (h : (#[v1, v2] : Array Value)[k]? = some v) : v = v1 ∨ v = v2 := by
  cases k with
  | zero => left; simpa using h.symm
  | succ k =>
    cases k with
    | zero => right; simpa using h.symm
    | succ k => simp at h
set_option maxHeartbeats 8000000 in
theorem walk (z : Int) (x : Value) (L : List Sp) (s g p : Int) (ws : (Lit.int .i64 s).wf = true) (wg : (Lit.int .i64 g).wf = true) (wp : (Lit.int .i64 p).wf = true) (w : World) (hp : Rss w x L ∧ Inr L) (hk : L.length * 16 ≤ reachBytes) :
    Calls Try.prog 5 #[arV z x, .int .i64 s, .int .i64 g, .int .i64 p] w fun e w' => e = .returned (.bool true) ∧ Below w.heap.size w w' := by
  clear ws wg wp
  unfold reachBytes at hk
  obtain ⟨hv, hI⟩ := hp
  obtain ⟨a, c, rfl, hlc, hcm⟩ := hv.form
  have HCL0 : ∀ u, Below w.heap.size w u → Calls Try.prog 13 #[.slice a L.length c] u fun e w' => ∃ v', e = .returned v' ∧ Sps w' u.heap.size v' L ∧ Below u.heap.size u w' := fun u hu => cloneS_any _ L u (hv.below hu) (by omega)
  obtain ⟨n, hn⟩ : ∃ n, L.length = n := ⟨_, rfl⟩
  rw [hn] at hv hlc hk HCL0 ⊢
  obtain ⟨w1, hw1, hX1, hb1⟩ := named w (arO z (.slice a n c))
  have HW : Hid (∀ u, Below w1.heap.size w1 u → Below w.heap.size w u) := fun u hu => bsq hb1 hu
  have HX : Hid (∀ u, Below w1.heap.size w1 u → u.heap[w.heap.size]? = some (arO z (.slice a n c))) := fun u hu => keep hX1 hu
  have HS : Hid (∀ u, Below w1.heap.size w1 u → Rss u (.slice a n c) L) := fun u hu => hv.below (bsq hb1 hu)
  have HCL : Hid (∀ u, Below w1.heap.size w1 u → Calls Try.prog 13 #[.slice a n c] u fun e w' => ∃ v', e = .returned v' ∧ Sps w' u.heap.size v' L ∧ Below u.heap.size u w') := fun u hu => HCL0 u (bsq hb1 hu)
  have HLI : Hid (∀ u, Calls Try.prog 7 #[] u fun e w' => e = .returned (.bool true) ∧ Below u.heap.size u w') := lives_any
  obtain ⟨gz, hgz⟩ : ∃ q, (gvV ⟨z, L⟩ p).z = q := ⟨_, rfl⟩
  obtain ⟨gL, hgL⟩ : ∃ q, (gvV ⟨z, L⟩ p).L = q := ⟨_, rfl⟩
  obtain ⟨gk, hgk⟩ : ∃ q, gvC ⟨z, L⟩ p = q := ⟨_, rfl⟩
  have hge : gvV ⟨z, L⟩ p = ⟨gz, gL⟩ := by rw [← hgz, ← hgL]
  have HGV : Hid (∀ u, Below w1.heap.size w1 u → Calls Try.prog 9 #[arV z (.slice a n c), .int .i64 p] u fun e w' => ∃ v, e = .returned (.tuple #[arV gz v, .int .i64 gk]) ∧ Sps w' u.heap.size v gL ∧ Below u.heap.size u w') := fun u hu => by
    have := give_any z (.slice a n c) L p u (hv.below (bsq hb1 hu)) hI
    rw [hgk, hge] at this
    exact this
  obtain ⟨tz, htz⟩ : ∃ q, (tkV ⟨z, L⟩ s g).z = q := ⟨_, rfl⟩
  obtain ⟨tL, htL⟩ : ∃ q, (tkV ⟨z, L⟩ s g).L = q := ⟨_, rfl⟩
  obtain ⟨tk, htk⟩ : ∃ q, tkC ⟨z, L⟩ s g = q := ⟨_, rfl⟩
  obtain ⟨tp, htp⟩ : ∃ q, tkP ⟨z, L⟩ s g = q := ⟨_, rfl⟩
  have hte : tkV ⟨z, L⟩ s g = ⟨tz, tL⟩ := by rw [← htz, ← htL]
  have HTK : Hid (∀ u, Below w1.heap.size w1 u → Calls Try.prog 8 #[arV z (.slice a n c), .int .i64 s, .int .i64 g] u fun e w' => ∃ v, e = .returned (.tuple #[arV tz v, .int .i64 tp, .int .i64 tk]) ∧ Sps w' u.heap.size v tL ∧ Below u.heap.size u w') := fun u hu => by
    have := take_any z (.slice a n c) L s g u (hv.below (bsq hb1 hu)) hI
    rw [htk, htp, hte] at this
    exact this
  clear hv hI hn hX1 hb1 htz htL htk htp hgz hgL hgk hge hte HCL0 hk
  go_enter Try.func5, Try.ntmps5
  go_upto_region 1 with (fail)
  go_cut [9] from 19 (fun ov wx => ∃ (Xo : Nat) (ba : Option Addr) (bn bc : Nat), ov = .pointer (some ⟨Xo, 0, none⟩) ∧ wx.heap[Xo]? = some (arO z (.slice ba bn bc)) ∧ Rss wx (.slice ba bn bc) L ∧ Below w1.heap.size w1 wx)
  case first =>
    refine wp_abs (fun a0 => a0.tmps.size = 76 ∧ (∀ h, a0.tmps[4]'h = .pointer (some ⟨w.heap.size, 0, none⟩))) ⟨rfl, fun _ => rfl⟩ ?_
    rintro a0 ⟨hsz, s4⟩ ha0
    refine wp_region_held (S := fun W => Below w1.heap.size w1 W) (by kernel_rfl) ?_
    have hS0 : Below w1.heap.size w1 w1.drew := (Below.refl _ _).drew
    refine h_take (i := 0) (.pointer (some ⟨w.heap.size, 0, none⟩)) rfl (by kernel_rfl) (by kernel_rfl) (by kernel_rfl) (fun _ _ _ h => h) rfl hS0 (fun W hW => by simp [execOp, go_sem, Act.put, hsz, s4]) ?_
    refine h_take (i := 1) (.int .i64 z) rfl (by kernel_rfl) (by kernel_rfl) (by kernel_rfl) (fun _ _ _ h => h) rfl hS0 (fun W hW => by obtain ⟨⟨zb, x0, x1⟩, _⟩ := boxC (HX.out W hW); simp [execOp, go_sem, Act.put, hsz, s4, x0, x1]) ?_
    refine h_take (i := 2) (.pointer (some ⟨w.heap.size, 1, none⟩)) rfl (by kernel_rfl) (by kernel_rfl) (by kernel_rfl) (fun _ _ _ h => h) rfl hS0 (fun W hW => by simp [execOp, go_sem, Act.put, hsz, s4]) ?_
    refine h_take (i := 3) (.slice a n c) rfl (by kernel_rfl) (by kernel_rfl) (by kernel_rfl) (fun _ _ _ h => h) rfl hS0 (fun W hW => by obtain ⟨⟨zb, x0, x1⟩, _⟩ := boxC (HX.out W hW); simp [execOp, go_sem, Act.put, hsz, s4, x0, x1]) ?_
    refine h_two 4 6 (by kernel_rfl) ?_ ?_
    · refine o_call 13 #[.slice a n c] rfl rfl (by simp [execOp, go_sem, Act.put, hsz, s4]) ((HCL.out _ hS0).mono ?_)
      rintro e u1 ⟨vC, rfl, tC, hb1⟩
      obtain ⟨ba, bn, bc, rfl⟩ : ∃ a n c, vC = .slice a n c := by obtain ⟨a, c, h, _⟩ := tC.form; exact ⟨_, _, _, h⟩
      have hS1 : Below w1.heap.size w1 u1 := bsq hS0 hb1
      refine ⟨_, rfl, hS1, ?_⟩
      refine h_take (i := 5) (arV z (.slice ba bn bc)) rfl (by kernel_rfl) (by kernel_rfl) (by kernel_rfl) (fun _ _ _ h => h) rfl hS1 (fun W hW => by simp [execOp, go_sem, Act.put, hsz, s4]) ?_
      have hX := (MapKept.heap_alloc u1 (arO 0 (.slice none 0 0))).1
      refine h_value (i := 6) (w' := u1.alloc (arO 0 (.slice none 0 0))) (.pointer (some ⟨u1.heap.size, 0, none⟩)) rfl (by kernel_rfl) rfl (by simp [execOp, go_sem, Act.put, hsz, s4]) (bsq hS1 (balloc _ _)) ?_
      have tC2 := tC.below (balloc u1 (arO 0 (.slice none 0 0)))
      obtain ⟨⟨zz, q0, q1⟩, f0, f1⟩ := boxC hX
      obtain ⟨uf, huf, hXf, hBf, hkf, hsf⟩ := put2 (u1.alloc (arO 0 (.slice none 0 0))) u1.heap.size (.int .i64 z) (.slice ba bn bc) hX
      have hSf : Below w1.heap.size w1 uf := hBf _ _ (by have := hS1.size; omega) (bsq hS1 (balloc _ _))
      have hne : (Value.slice ba bn bc).ownBlock ≠ some u1.heap.size := box_ne tC2 hX (by decide)
      have hRf : Rss uf (.slice ba bn bc) L := by rw [← huf]; exact Sps.rss (B := _) (ownsRow_setCell_other (ownsRow_setCell_other tC2 hne _) hne _)
      refine h_skip (i := 7) (w' := uf) rfl (by kernel_rfl) rfl (by rw [← huf]; simp [execOp, go_sem, Act.put, hsz, s4, zz, q0, q1, f0, f1]) hSf ?_
      refine wpAnyH_done (by kernel_rfl) ?_ _
      clear huf q0 q1 f0 f1
      subst ha0
      clear hsz s4
      go_simp
      go_wp2_with fail
      go_meet
      case rel => exact ⟨_, _, _, _, rfl, hXf, hRf, hSf⟩
    · refine o_value (w' := w1.drew.alloc (arO 0 (.slice none 0 0))) (.pointer (some ⟨w1.heap.size, 0, none⟩)) rfl rfl (by simp [execOp, go_sem, Act.put, hsz, s4]) ?_
      have hS3 : Below w1.heap.size w1 (w1.drew.alloc (arO 0 (.slice none 0 0))) := bsq hS0 (balloc _ _)
      refine ⟨hS3, ?_⟩
      refine wpAnyH_all (rs := [4]) (by kernel_rfl) (by simp) (fun k hk => ?_)
      obtain rfl : k = 4 := by simpa using hk
      refine o_call 13 #[.slice a n c] rfl rfl (by simp [execOp, go_sem, Act.put, hsz, s4]) ((HCL.out _ hS3).mono ?_)
      rintro e u1 ⟨vC, rfl, tC, hb1⟩
      obtain ⟨ba, bn, bc, rfl⟩ : ∃ a n c, vC = .slice a n c := by obtain ⟨a, c, h, _⟩ := tC.form; exact ⟨_, _, _, h⟩
      have hS1 : Below w1.heap.size w1 u1 := bsq hS3 hb1
      refine ⟨_, rfl, hS1, ?_⟩
      refine h_take (i := 5) (arV z (.slice ba bn bc)) rfl (by kernel_rfl) (by kernel_rfl) (by kernel_rfl) (fun _ _ _ h => h) rfl hS1 (fun W hW => by simp [execOp, go_sem, Act.put, hsz, s4]) ?_
      have hX : u1.heap[w1.heap.size]? = some (arO 0 (.slice none 0 0)) := keep (MapKept.heap_alloc w1.drew (arO 0 (.slice none 0 0))).1 hb1
      obtain ⟨⟨zz, q0, q1⟩, f0, f1⟩ := boxC hX
      obtain ⟨uf, huf, hXf, hBf, hkf, hsf⟩ := put2 u1 w1.heap.size (.int .i64 z) (.slice ba bn bc) hX
      have hSf : Below w1.heap.size w1 uf := hBf _ _ (by have := hS1.size; omega) hS1
      have hne : (Value.slice ba bn bc).ownBlock ≠ some w1.heap.size := box_ne tC hX (by decide)
      have hRf : Rss uf (.slice ba bn bc) L := by rw [← huf]; exact Sps.rss (B := _) (ownsRow_setCell_other (ownsRow_setCell_other tC hne _) hne _)
      refine h_skip (i := 7) (w' := uf) rfl (by kernel_rfl) rfl (by rw [← huf]; simp [execOp, go_sem, Act.put, hsz, s4, zz, q0, q1, f0, f1]) hSf ?_
      refine wpAnyH_done (by kernel_rfl) ?_ _
      clear huf q0 q1 f0 f1
      subst ha0
      clear hsz s4
      go_simp
      go_wp2_with fail
      go_meet
      case rel => exact ⟨_, _, _, _, rfl, hXf, hRf, hSf⟩
  case rest =>
  obtain ⟨Xo, ba, bn, bc, rfl, hXo, hRo, hb⟩ := hcut
  rename World => wx
  have HO : Hid (∀ u, Below wx.heap.size wx u → u.heap[Xo]? = some (arO z (.slice ba bn bc)) ∧ Rss u (.slice ba bn bc) L ∧ Below w1.heap.size w1 u) := fun u hu => ⟨keep hXo hu, hRo.below hu, bsq hb hu⟩
  have HXl : Hid (Xo < wx.heap.size ∧ w.heap.size < wx.heap.size) := ⟨(Array.getElem?_eq_some_iff.1 hXo).1, (Array.getElem?_eq_some_iff.1 (HX.out wx hb)).1⟩
  have HT : Hid (Calls Try.prog 8 #[arV z (.slice a n c), .int .i64 s, .int .i64 g] wx fun e w' => ∃ v, e = .returned (.tuple #[arV tz v, .int .i64 tp, .int .i64 tk]) ∧ Sps w' wx.heap.size v tL ∧ Below wx.heap.size wx w') := HTK.out wx hb
  obtain ⟨⟨_, a0, a1⟩, _⟩ := boxC (HX.out wx hb)
  clear hXo hRo hb HTK HCL hw1
  go_wp2_with fail
  refine HT.out.mono ?_
  rintro e u1 ⟨v1, rfl, hv1, hb1⟩
  obtain ⟨u1', u2, hu1', hu2, hY1, hY2, hb2⟩ := laid2 u1 24 (.int .i64 0) (.slice none 0 0) (.int .i64 tz) v1
  have HR2 : Hid (Below wx.heap.size wx u2) := bsq hb1 hb2
  have HV2 : Hid (Rm (fun g => wx.heap.size ≤ g) u2 v1 ∧ u2.heap[u1.heap.size]? = some (arO tz v1)) := ⟨hv1.rm.below hb2, hY2⟩
  have HG2 : Hid (Calls Try.prog 9 #[arV z (.slice a n c), .int .i64 p] u2 fun e w' => ∃ v, e = .returned (.tuple #[arV gz v, .int .i64 gk]) ∧ Sps w' u2.heap.size v gL ∧ Below u2.heap.size u2 w') := HGV.out u2 (HO.out u2 HR2.out).2.2
  obtain ⟨ta, tn, tc, rfl⟩ : ∃ a n c, v1 = .slice a n c := by obtain ⟨a, c, h, _⟩ := hv1.form; exact ⟨_, _, _, h⟩
  obtain ⟨⟨hz1, t0, t1⟩, f0, f1⟩ := boxC hY1
  obtain ⟨⟨hz2, r0, r1⟩, _⟩ := boxC hY2
  obtain ⟨⟨_, b0, b1⟩, _⟩ := boxC (HX.out u2 (HO.out u2 HR2.out).2.2)
  clear hv1 hb1 hY1 hY2 hb2 HT HGV
  go_wp2_with fail
  try rw [hu2]
  clear hu2 hu1' t0 t1 f0 f1 r0 r1 a0 a1
  refine HG2.out.mono ?_
  rintro e u3 ⟨v3, rfl, hv3, hb3⟩
  obtain ⟨u3', u4, hu3', hu4, hY3, hY4, hb4⟩ := laid2 u3 24 (.int .i64 0) (.slice none 0 0) (.int .i64 gz) v3
  have hb24 := bsq hb3 hb4
  have HR4 : Hid (Below wx.heap.size wx u4) := bsq HR2.out hb24
  have HV4 : Hid (Rm (fun g => wx.heap.size ≤ g) u4 (.slice ta tn tc) ∧ Rm (fun g => wx.heap.size ≤ g) u4 v3 ∧ u4.heap[u1.heap.size]? = some (arO tz (.slice ta tn tc)) ∧ u4.heap[u3.heap.size]? = some (arO gz v3)) :=
    ⟨HV2.out.1.below hb24, (hv3.rm.below hb4).mono fun g hg _ => Nat.le_trans HR2.out.size hg, keep HV2.out.2 hb24, hY4⟩
  obtain ⟨da, dn, dc, rfl⟩ : ∃ a n c, v3 = .slice a n c := by obtain ⟨a, c, h, _⟩ := hv3.form; exact ⟨_, _, _, h⟩
  have HSA : Hid (∀ u, Below wx.heap.size wx u → Calls Try.prog 14 #[arV z (.slice a n c), arV z (.slice ba bn bc)] u fun e w' => e = .returned (.bool true) ∧ Below u.heap.size u w') := fun u hu => by
    obtain ⟨_, o2, o3⟩ := HO.out u hu
    have := same_any ⟨z, L⟩ ⟨z, L⟩ (.slice a n c) (.slice ba bn bc) u (HS.out u o3) o2
    rw [samB_same] at this
    exact this
  have HSA4 : Hid (Calls Try.prog 14 #[arV z (.slice a n c), arV z (.slice ba bn bc)] u4 fun e w' => e = .returned (.bool true) ∧ Below u4.heap.size u4 w') := HSA.out u4 HR4.out
  obtain ⟨⟨hz3, t0, t1⟩, f0, f1⟩ := boxC hY3
  obtain ⟨⟨hz4, r0, r1⟩, _⟩ := boxC hY4
  obtain ⟨⟨_, i0, i1⟩, _⟩ := boxC (HX.out u4 (HO.out u4 HR4.out).2.2)
  obtain ⟨⟨_, j0, j1⟩, _⟩ := boxC (HO.out u4 HR4.out).1
  clear hv3 hb3 hY3 hY4 hb4 hb24 HG2 HV2 HR2
  go_wp2_with fail
  try rw [hu4]
  clear hu4 hu3' t0 t1 f0 f1 r0 r1 b0 b1 i0 i1 j0 j1
  refine HSA4.out.mono ?_
  rintro e u5 ⟨rfl, hb5⟩
  have HR5 : Hid (Below wx.heap.size wx u5) := bsq HR4.out hb5
  obtain ⟨⟨_, k0, k1⟩, _⟩ := boxC (keep HV4.out.2.2.1 hb5)
  obtain ⟨⟨_, l0, l1⟩, _⟩ := boxC (keep HV4.out.2.2.2 hb5)
  obtain ⟨u6, hu6, hX6, hb6⟩ := named u5 (.cells #[.slice ta tn tc, .slice da dn dc] 22)
  have HR6 : Hid (Below wx.heap.size wx u6) := bsq HR5.out hb6
  have HX6 : Hid (u6.heap[u5.heap.size]? = some (.cells #[.slice ta tn tc, .slice da dn dc] 22) ∧ wx.heap.size ≤ u5.heap.size) := ⟨hX6, HR5.out.size⟩
  have HM6 : Hid (∀ k v, (#[Value.slice ta tn tc, .slice da dn dc] : Array Value)[k]? = some v → Rm (fun g => wx.heap.size ≤ g ∧ g < u5.heap.size) u6 v) := fun k v hk => by
    rcases pair_at hk with rfl | rfl
    · exact ((HV4.out.1.below hb5).mono fun g hg hl => ⟨hg, hl⟩).below hb6
    · exact ((HV4.out.2.1.below hb5).mono fun g hg hl => ⟨hg, hl⟩).below hb6
  clear hb5 hX6 hb6 HSA4 HV4 HR4 HR5
  go_wp2_with fail
  try rw [hu6]
  clear hu6 k0 k1 l0 l1
  go_loopw [48] (fun i wr => ∃ (k : Nat), k ≤ 2 ∧ i = .int .i64 (k : Int) ∧ Hid (Spl (fun g => wx.heap.size ≤ g ∧ g < u5.heap.size) u6 wr)) (fun i _ => 2 - (intOf i).toNat)
  case atStart => exact ⟨0, Nat.zero_le _, rfl, Spl.refl _ _⟩
  case round =>
    obtain ⟨k, hk, rfl, HA⟩ := hrel
    by_cases hlt : ¬ k < 2
    · have HBr : Hid (Below wx.heap.size wx wr) := HR6.out.trans (HA.out.below fun q hq => by omega)
      clear HA
      go_wp2_with fail
      refine (HLI.out _).mono ?_
      rintro e u7 ⟨rfl, hb7⟩
      have HR7 : Hid (Below wx.heap.size wx u7) := HBr.out.trans (hb7.mono HBr.out.size)
      have HSA7 : Hid (Calls Try.prog 14 #[arV z (.slice a n c), arV z (.slice ba bn bc)] u7 fun e w' => e = .returned (.bool true) ∧ Below u7.heap.size u7 w') := HSA.out u7 HR7.out
      obtain ⟨⟨_, i0, i1⟩, _⟩ := boxC (HX.out u7 (HO.out u7 HR7.out).2.2)
      obtain ⟨⟨_, j0, j1⟩, _⟩ := boxC (HO.out u7 HR7.out).1
      clear hb7
      go_wp2_with fail
      refine HSA7.out.mono ?_
      rintro e u8 ⟨rfl, hb8⟩
      have HR8 : Hid (Below wx.heap.size wx u8) := HR7.out.trans (hb8.mono HR7.out.size)
      clear hb8
      go_wp2
      go_ret
      exact ⟨rfl, HW.out _ (HO.out _ HR8.out).2.2⟩
    have hlt : k < 2 := by omega
    obtain ⟨v, hvk⟩ : ∃ v, (#[Value.slice ta tn tc, .slice da dn dc] : Array Value)[k]? = some v := ⟨_, Array.getElem?_eq_getElem (by simpa using hlt)⟩
    have hX6r : wr.heap[u5.heap.size]? = some (.cells #[.slice ta tn tc, .slice da dn dc] 22) := (HA.out.block _ (by omega)).trans HX6.out.1
    have c0 : wr.cell? ⟨u5.heap.size, k, none⟩ = some v := by rw [cell_of_row _ _ _ _ _ (0, 0) hX6r]; exact hvk
    obtain ⟨oa, on, oc, rfl, ho1, ho2, ho4⟩ := HM6.out k v hvk
    have HRo : Hid (0 < oc → ∃ g, oa = some ⟨g, 0, none⟩ ∧ (wx.heap.size ≤ g ∧ g < u5.heap.size) ∧ ∀ j, j < oc * 2 → (∃ x, u6.cell? ⟨g, j, none⟩ = some x) ∧ u6.frozen? ⟨g, j, none⟩ = false) := ho4
    have hw := whole_run oa on oc
    unfold maxLen at ho2
    clear hvk hX6r ho4
    rename World => wo
    go_wp2
    go_loopw [58] (fun i wr => ∃ (j : Nat), j ≤ oc ∧ i = .int .i64 (j : Int) ∧ Hid (Spl (fun g => wx.heap.size ≤ g ∧ g < u5.heap.size) u6 wr)) (fun i _ => oc - (intOf i).toNat)
    case atStart => exact ⟨0, Nat.zero_le _, rfl, HA.out⟩
    case round =>
      obtain ⟨j, hj, rfl, HA2⟩ := hrel
      by_cases hlj : ¬ j < oc
      · clear hw HRo
        go_wp2
        go_roundw
        case rel => exact ⟨k + 1, by omega, by go_num, HA2.out⟩
        case measure => simp [intOf]; omega
      have hlj : j < oc := by omega
      obtain ⟨ga, rfl, hpg, hc⟩ := HRo.out (by omega)
      obtain ⟨⟨x1, hx1⟩, hf1⟩ := hc (j * 2) (by omega)
      obtain ⟨⟨x2, hx2⟩, hf2⟩ := hc (j * 2 + 1) (by omega)
      obtain ⟨y1, hy1⟩ := HA2.out.cell _ x1 hx1
      obtain ⟨y2, hy2⟩ := HA2.out.cell _ x2 hx2
      have hg1 : wr.frozen? ⟨ga, j * 2, none⟩ = false := (HA2.out.frozen _).trans hf1
      have hg2 : wr.frozen? ⟨ga, j * 2 + 1, none⟩ = false := (HA2.out.frozen _).trans hf2
      have HE : Hid (Spl (fun g => wx.heap.size ≤ g ∧ g < u5.heap.size) u6 ((wr.setCell ⟨ga, j * 2, none⟩ (.int .i64 (-1))).setCell ⟨ga, j * 2 + 1, none⟩ (.int .i64 0))) := (HA2.out.set hpg _).set hpg _
      clear hw HRo hpg hc hx1 hx2 hf1 hf2 HA2
      go_wp2
      go_roundw
      case rel => exact ⟨j + 1, by omega, by go_num, HE.out⟩
      case measure => simp [intOf]; omega
end Go.Proofs.Ytifebinpjpalhab.arenaOwn
