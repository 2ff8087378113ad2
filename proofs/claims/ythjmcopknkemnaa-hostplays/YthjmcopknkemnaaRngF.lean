/- ring: what onward, slices.Clone and copied answer. -/
import Derived.Test.YthjmcopknkemnaaRngE
import Derived.Lib.SliceRun
namespace Go.Proofs.Ythjmcopknkemnaa.ring
open Go Go.RowKit
set_option linter.unusedVariables false
set_option linter.unusedSimpArgs false
set_option maxRecDepth 100000

set_option maxHeartbeats 2000000 in
theorem onward_any (ad : Option Addr) (n c : Nat) (pa pb ga gb sn x y : Int) (w : World) (hn : 3 ≤ n) (hn2 : n ≤ 64) (hx : 0 ≤ x) (hx2 : x < (n : Int) - 1) (hy : y = 0 ∨ y = 1) :
    Calls Try.prog 72 #[rgV (.slice ad n c) pa pb ga gb sn, mkV x y] w fun e w' => e = .returned (mkV (on n x y).1 (on n x y).2) ∧ Below w.heap.size w w' := by
  obtain ⟨w1, hw1, hX1, hb1⟩ := named w (rgO (.slice ad n c) pa pb ga gb sn)
  obtain ⟨w2, hw2, hX2, hb2⟩ := named w1 (mkO x y)
  obtain ⟨w3, hw3, hX3, hb3⟩ := named w2 (mkO 0 0)
  have HB : Hid (Below w.heap.size w w3) := bsq hb1 (bsq hb2 hb3)
  have HX : Hid (∀ u, Below w3.heap.size w3 u → u.heap[w.heap.size]? = some (rgO (.slice ad n c) pa pb ga gb sn) ∧ u.heap[w1.heap.size]? = some (mkO x y) ∧ u.heap[w2.heap.size]? = some (mkO 0 0)) := fun u hu => ⟨keep (keep (keep hX1 hb2) hb3) hu, keep (keep hX2 hb3) hu, keep hX3 hu⟩
  have HZ : Hid (w.heap.size ≤ w2.heap.size) := Nat.le_trans hb1.size hb2.size
  obtain ⟨m, hm⟩ : ∃ m, (n : Int) - 1 = m := ⟨_, rfl⟩
  have HP : Hid (∀ u, Calls Try.prog 87 #[rgV (.slice ad n c) pa pb ga gb sn] u fun e w' => e = .returned (.int .i64 m) ∧ Below u.heap.size u w') := fun u => by
    have := places_any ad n c pa pb ga gb sn u hn hn2
    rw [hm] at this
    exact this
  have hm64 : m ≤ 63 := by omega
  obtain ⟨o1, ho1⟩ : ∃ o, (on n x y).1 = o := ⟨_, rfl⟩
  obtain ⟨o2, ho2⟩ : ∃ o, (on n x y).2 = o := ⟨_, rfl⟩
  have HO : Hid ((x + 1 = m → o1 = 0 ∧ o2 = 1 - y) ∧ (¬ x + 1 = m → o1 = x + 1 ∧ y = o2)) := by
    refine ⟨fun q => ?_, fun q => ?_⟩
    · rw [← ho1, ← ho2]; unfold on; rw [hm, if_pos q]; exact ⟨rfl, rfl⟩
    · rw [← ho1, ← ho2]; unfold on; rw [hm, if_neg q]; exact ⟨rfl, rfl⟩
  rw [ho1, ho2]
  rw [hm] at hx2
  have hadd : IntKind.i64.wrap (x + 1) = x + 1 := by rw [IntKind.wrap_i64]; omega
  clear hX1 hX2 hX3 hb1 hb2 hb3 hm ho1 ho2
  go_enter Try.func72, Try.ntmps72
  go_upto_region 1 with (fail)
  go_cut [10] from 5 (fun bv wx => bv = .bool (x + 1 == m) ∧ Hid (Below w3.heap.size w3 wx))
  case first =>
    refine wp_abs (fun a0 => a0.tmps.size = 21 ∧ (∀ h, a0.tmps[2]'h = .pointer (some ⟨w.heap.size, 0, none⟩)) ∧ (∀ h, a0.tmps[3]'h = .pointer (some ⟨w1.heap.size, 0, none⟩))) ⟨rfl, fun _ => rfl, fun _ => rfl⟩ ?_
    rintro a0 ⟨hsz, s2, s3⟩ ha0
    refine wp_region_held (S := fun W => Below w3.heap.size w3 W) (by kernel_rfl) ?_
    have hS0 : Below w3.heap.size w3 w3.drew := (Below.refl _ _).drew
    refine h_take (i := 0) (.pointer (some ⟨w1.heap.size, 0, none⟩)) rfl (by kernel_rfl) (by kernel_rfl) (by kernel_rfl) (fun _ _ _ h => h) rfl hS0 (fun W hW => by simp [execOp, go_sem, Act.put, hsz, s2, s3]) ?_
    refine h_take (i := 1) (.int .i64 x) rfl (by kernel_rfl) (by kernel_rfl) (by kernel_rfl) (fun _ _ _ h => h) rfl hS0 (fun W hW => by obtain ⟨⟨zb, x0, x1⟩, _⟩ := box2 ((HX.out W hW).2.1); simp [execOp, go_sem, Act.put, hsz, s2, s3, x0, x1]) ?_
    refine h_take (i := 2) (.int .i64 (x + 1)) rfl (by kernel_rfl) (by kernel_rfl) (by kernel_rfl) (fun _ _ _ h => h) rfl hS0 (fun W hW => by simp [execOp, go_sem, Act.put, hsz, s2, s3, hadd]) ?_
    refine h_take (i := 3) (rgV (.slice ad n c) pa pb ga gb sn) rfl (by kernel_rfl) (by kernel_rfl) (by kernel_rfl) (fun _ _ _ h => h) rfl hS0 (fun W hW => by obtain ⟨⟨zb, x0, x1, x2, x3, x4, x5⟩, _⟩ := box6 ((HX.out W hW).1); simp [execOp, go_sem, Act.put, hsz, s2, s3, x0, x1, x2, x3, x4, x5]) ?_
    refine h_call (i := 4) 87 #[rgV (.slice ad n c) pa pb ga gb sn] rfl (by kernel_rfl) rfl (by simp [execOp, go_sem, Act.put, hsz, s2, s3]) ((HP.out _).mono ?_)
    rintro e u ⟨rfl, hb⟩
    have hS1 : Below w3.heap.size w3 u := bsq hS0 hb
    refine ⟨_, rfl, hS1, ?_⟩
    refine h_take (i := 5) (.bool (x + 1 == m)) rfl (by kernel_rfl) (by kernel_rfl) (by kernel_rfl) (fun _ _ _ h => h) rfl hS1 (fun W hW => by simp [execOp, go_sem, Act.put, hsz, s2, s3]) ?_
    refine wpAnyH_done (by kernel_rfl) ?_ _
    subst ha0
    clear hsz s2 s3
    go_simp
    go_wp2_with fail
    go_meet
    case rel => exact ⟨rfl, hS1⟩
  case rest =>
  rename World => wx
  obtain ⟨rfl, HW⟩ := hcut
  obtain ⟨h0, h1, h2⟩ := HX.out wx HW.out
  obtain ⟨⟨hz1, y0, y1⟩, _⟩ := box2 h1
  obtain ⟨⟨hz2, z0, z1⟩, f0, f1⟩ := box2 h2
  by_cases hq : x + 1 = m
  · have e1 : (x + 1 == m) = true := by simpa using hq
    obtain ⟨uf, huf, hXf, hBf, _, _⟩ := put2 wx w2.heap.size (.int .i64 0) (.int .i64 (1 - y)) h2
    obtain ⟨⟨hzf, t0, t1⟩, _⟩ := box2 hXf
    have HBf : Hid (Below w.heap.size w uf) := hBf _ _ HZ.out (bsq HB.out HW.out)
    obtain ⟨rfl, rfl⟩ := HO.out.1 hq
    have hy0 : 0 ≤ y := by omega
    have hy1 : y ≤ 1 := by omega
    clear h0 h1 h2 hXf hBf hq hw1 hw2 hw3 hy HO
    go_wp2
    try rw [huf]
    exact bodyPost_ret (v := mkV 0 (1 - y)) (by simp [results, Try.results72, go_sem, hzf, t0, t1]) rfl ⟨rfl, HBf.out⟩
  · have e1 : (x + 1 == m) = false := by simpa using hq
    obtain ⟨uf, huf, hXf, hBf, _, _⟩ := put2 wx w2.heap.size (.int .i64 (x + 1)) (.int .i64 y) h2
    obtain ⟨⟨hzf, t0, t1⟩, _⟩ := box2 hXf
    have HBf : Hid (Below w.heap.size w uf) := hBf _ _ HZ.out (bsq HB.out HW.out)
    obtain ⟨rfl, rfl⟩ := HO.out.2 hq
    clear h0 h1 h2 hXf hBf hq hw1 hw2 hw3 hy HO
    go_wp2
    try rw [huf]
    exact bodyPost_ret (v := mkV (x + 1) y) (by simp [results, Try.results72, go_sem, hzf, t0, t1]) rfl ⟨rfl, HBf.out⟩
theorem cloneC_any (v : Value) (es : List Ce) (w : World) (h : Rcs w v es) (hl : es.length ≤ 5864062014634) :
    Calls Try.prog 56 #[v] w fun e w' => ∃ v', e = .returned v' ∧ Ces w' w.heap.size v' es ∧ Below w.heap.size w w' := by
  have HR : Hid (Rcs w v es) := h
  obtain ⟨ax, cx, rfl, h1, h2, h4⟩ := h
  have HN : Hid (ax = none → es = []) := fun q => by
    subst q
    rcases Nat.eq_zero_or_pos es.length with q | q
    · exact List.eq_nil_of_length_eq_zero q
    · obtain ⟨g, off, q1, _⟩ := h4 q; cases q1
  obtain ⟨n, hn⟩ : ∃ n, es.length = n := ⟨_, rfl⟩
  rw [hn] at HR hl ⊢
  have HE : Hid (es.length = n) := hn
  clear h1 h2 h4 hn
  cases ax with
  | none =>
    have hes := HN.out rfl
    subst hes
    have hnl := fun (w : World) => Lib.run_eql_slice_nil (P := Try.prog) w 31 91 none n cx 0 0 Try.underlying31
    clear HR HN HE
    go_enter Try.func56, Try.ntmps56
    go_wp2
    go_ret
    exact ⟨_, rfl, Ces.nil _ _, Below.refl _ _⟩
  | some ad =>
    have hnl := fun (w : World) => Lib.run_eql_slice_nil (P := Try.prog) w 31 91 (some ad) n cx 0 0 Try.underlying31
    clear HN
    go_enter Try.func56, Try.ntmps56
    go_wp2_with
      (at_builtin
       refine wpList_ces _ rfl _ _ rfl w.heap.size _ [] rfl (World.ownsRow_made w #[] 0 (Nat.le_refl _) (Nat.zero_le _) rfl) _ es rfl (HR.out.below (balloc _ _)) (by have := HE.out; simp; omega) (by simp) ?_
       intro v' w' q1 q2 q3
       have t1 : Hid (Ces w' w.heap.size v' es) := q1
       have t2 : Hid (Below w.heap.size w w') := ((Below.refl _ _).alloc (Nat.le_refl _) _).trans q3
       clear q1 q2 q3)
    go_wp2
    go_ret
    exact ⟨_, rfl, t1.out, t2.out⟩
set_option maxHeartbeats 1000000 in
theorem copied_any (v : Value) (L : List Ce) (pa pb ga gb sn : Int) (w : World) (h : Rcs w v L) (hl : L.length ≤ 64) :
    Calls Try.prog 61 #[rgV v pa pb ga gb sn] w fun e w' => ∃ v', e = .returned (rgV v' pa pb ga gb sn) ∧ Ces w' w.heap.size v' L ∧ Below w.heap.size w w' := by
  obtain ⟨ad, c, rfl, hlc, hcm⟩ := h.form
  obtain ⟨n, hn⟩ : ∃ n, L.length = n := ⟨_, rfl⟩
  rw [hn] at h hlc ⊢
  obtain ⟨w1, hw1, hX1, hb1⟩ := named w (rgO (.slice ad n c) pa pb ga gb sn)
  obtain ⟨w2, hw2, hX2, hb2⟩ := named w1 (rgO (.slice none 0 0) 0 0 0 0 0)
  obtain ⟨⟨hz, x0, x1, x2, x3, x4, x5⟩, _⟩ := box6 (keep hX1 hb2)
  have HB : Hid (Below w.heap.size w w2) := bsq hb1 hb2
  have HX : Hid (w2.heap[w.heap.size]? = some (rgO (.slice ad n c) pa pb ga gb sn) ∧ w2.heap[w1.heap.size]? = some (rgO (.slice none 0 0) 0 0 0 0 0)) := ⟨keep hX1 hb2, hX2⟩
  have HZ : Hid (w.heap.size < w1.heap.size) := (Array.getElem?_eq_some_iff.1 hX1).1
  have HC : Hid (Calls Try.prog 56 #[.slice ad n c] w2 fun e w' => ∃ v', e = .returned v' ∧ Ces w' w2.heap.size v' L ∧ Below w2.heap.size w2 w') := cloneC_any _ L w2 (h.below (bsq hb1 hb2)) (by omega)
  clear h hX1 hX2 hb1 hb2
  go_enter Try.func61, Try.ntmps61
  go_wp2_with fail
  refine HC.out.mono ?_
  rintro e u ⟨v', rfl, hv', hb⟩
  have hXu := keep HX.out.1 hb
  have hRu := keep HX.out.2 hb
  obtain ⟨va, vn, vc, rfl⟩ : ∃ a n c, v' = .slice a n c := by obtain ⟨a, c, h, _⟩ := hv'.form; exact ⟨_, _, _, h⟩
  obtain ⟨u1, hu1⟩ : ∃ u1, u.setCell ⟨w.heap.size, 0, none⟩ (.slice va vn vc) = u1 := ⟨_, rfl⟩
  have hX1 : u1.heap[w.heap.size]? = some (rgO (.slice va vn vc) pa pb ga gb sn) := by rw [← hu1]; exact csetX 0 _ hXu rfl
  have hR1 : u1.heap[w1.heap.size]? = some (rgO (.slice none 0 0) 0 0 0 0 0) := by rw [← hu1, heap_setCell_other _ _ _ _ (by have := HZ.out; simp; omega)]; exact hRu
  have hb1 : Below w.heap.size w u1 := by rw [← hu1]; exact (bsq HB.out hb).setCell (Nat.le_refl _) _
  have hv1 : Ces u1 w2.heap.size (.slice va vn vc) L := by rw [← hu1]; exact ownsRow_setCell_other hv' (box_ne hv' hXu (by decide)) _
  obtain ⟨uf, huf, hXf, hBf, _, _⟩ := put6 u1 w1.heap.size (.slice va vn vc) (.int .i64 pa) (.int .i64 pb) (.int .i64 ga) (.int .i64 gb) (.int .i64 sn) hR1
  have hne := box_ne hv1 hR1 (by decide)
  have HV : Hid (Ces uf w.heap.size (.slice va vn vc) L) := by
    show Ces _ _ _ _
    rw [← huf]
    exact Ces.mono (ownsRow_setCell_other (ownsRow_setCell_other (ownsRow_setCell_other (ownsRow_setCell_other (ownsRow_setCell_other (ownsRow_setCell_other hv1 hne _) hne _) hne _) hne _) hne _) hne _) HB.out.size
  have HBf : Hid (Below w.heap.size w uf) := hBf _ _ (by have := HZ.out; omega) hb1
  obtain ⟨⟨hzu, a0, a1, a2, a3, a4, a5⟩, f0, f1, f2, f3, f4, f5⟩ := box6 hXu
  obtain ⟨⟨hz1, b0, b1, b2, b3, b4, b5⟩, _⟩ := box6 hX1
  obtain ⟨⟨hzr, c0, c1, c2, c3, c4, c5⟩, g0, g1, g2, g3, g4, g5⟩ := box6 hR1
  obtain ⟨⟨hzf, d0, d1, d2, d3, d4, d5⟩, _⟩ := box6 hXf
  clear hv' hb hXu hRu hX1 hR1 hb1 hv1 hXf hBf hne x0 x1 x2 x3 x4 x5
  go_wp2
  try rw [huf]
  exact bodyPost_ret (v := rgV (.slice va vn vc) pa pb ga gb sn) (by simp [results, Try.results61, go_sem, hzf, d0, d1, d2, d3, d4, d5]) rfl ⟨_, rfl, HV.out, HBf.out⟩
end Go.Proofs.Ythjmcopknkemnaa.ring
