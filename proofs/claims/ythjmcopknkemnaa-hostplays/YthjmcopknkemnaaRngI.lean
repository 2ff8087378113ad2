/- ring: what get and learn do. -/
import Derived.Test.YthjmcopknkemnaaRngH
namespace Go.Proofs.Ythjmcopknkemnaa.ring
open Go Go.RowKit
set_option linter.unusedVariables false
set_option linter.unusedSimpArgs false
set_option maxRecDepth 100000

set_option maxHeartbeats 8000000 in
theorem get_any (X g n c : Nat) (r : Rg) (w : World) (h : Bx X g n c r w) (hr : Rt r) :
    Calls Try.prog 69 #[.pointer (some ⟨X, 0, none⟩)] w fun e w' => e = .returned (.tuple #[.int .u64 (getW r), .bool (getB r)]) ∧ Bx X g n c (getV r) w' ∧ Kq X g w w' := by
  have hn3 := hr.n3
  have hn64 := hr.n64
  rw [h.2.2] at hn3 hn64
  obtain ⟨p, hp⟩ : ∃ p : Nat, r.ga = (p : Int) := ⟨r.ga.toNat, by have := hr.ga0; omega⟩
  have hpn : p < n - 1 := by have := hr.ga1; rw [h.2.2] at this; omega
  have hpn2 : p < n := by omega
  obtain ⟨o1, ho1⟩ : ∃ o, (on n r.ga r.gb).1 = o := ⟨_, rfl⟩
  obtain ⟨o2, ho2⟩ : ∃ o, (on n r.ga r.gb).2 = o := ⟨_, rfl⟩
  have HON : Hid (∀ u, Calls Try.prog 72 #[rgV (.slice (some ⟨g, 0, none⟩) n c) r.pa r.pb r.ga r.gb r.sn, mkV r.ga r.gb] u fun e w' => e = .returned (mkV o1 o2) ∧ Below u.heap.size u w') := fun u => by
    have := onward_any (some ⟨g, 0, none⟩) n c r.pa r.pb r.ga r.gb r.sn r.ga r.gb u hn3 hn64 hr.ga0 (by have := hr.ga1; rw [h.2.2] at this; exact this) hr.gb
    rw [ho1, ho2] at this
    exact this
  obtain ⟨cw, cb, cl, hC⟩ : ∃ cw cb cl, r.C[p]? = some (cw, cb, cl) := by
    have hl := h.2.2
    exact ⟨_, _, _, List.getElem?_eq_getElem (by omega)⟩
  have hat : atG r = (cw, cb, cl) := by
    unfold atG
    rw [hp, Int.toNat_natCast, List.getD_eq_getElem?_getD, hC]
    rfl
  have hgB : getB r = (cb == r.gb) := by unfold getB; rw [hat]
  have hgW : getW r = if (cb == r.gb) = true then cw else 0 := by unfold getW; rw [hgB, hat]
  have hgV : getV r = if (cb == r.gb) = true then ⟨r.C, r.pa, r.pb, o1, o2, r.sn⟩ else r := by unfold getV onG; rw [hgB, h.2.2, ho1, ho2]
  obtain ⟨c0, c1, c2⟩ := h.2.1.cells h.2.2 hC
  obtain ⟨C, pa, pb, ga, gb, sn⟩ := r
  simp only at hp HON hC hgB hgW hgV c0 c1 c2
  subst hp
  rw [hgB, hgW, hgV]
  obtain ⟨z, hz⟩ : ∃ z, (cb == gb) = z := ⟨_, rfl⟩
  have HZ : Hid ((cb == gb) = z) := hz
  rw [hz]
  have hne := h.ne
  have HC : Hid (∀ u, Below w.heap.size w u → u.cell? ⟨g, p * 3, none⟩ = some (.int .u64 cw) ∧ u.cell? ⟨g, p * 3 + 1, none⟩ = some (.int .i64 cb) ∧ u.cell? ⟨g, p * 3 + 2, none⟩ = some (.bool cl)) := fun u hu => (h.below hu).2.1.cells h.2.2 hC
  have HX : Hid (∀ u, Below w.heap.size w u → u.heap[X]? = some (rgO (.slice (some ⟨g, 0, none⟩) n c) pa pb (p : Int) gb sn)) := fun u hu => keep h.1 hu
  have HBX : Hid (Bx X g n c ⟨C, pa, pb, (p : Int), gb, sn⟩ w) := h
  have HXL : Hid (X < w.heap.size ∧ g < w.heap.size) := h.lt
  clear h hr hat hgB hgW hgV hz hC c0 c1 c2 ho1 ho2
  go_enter Try.func69, Try.ntmps69
  go_upto_region 1 with (fail)
  go_cut [4] from 5 (fun yv wx => ∃ Y : Nat, yv = .pointer (some ⟨Y, 0, none⟩) ∧ Hid (wx.heap[Y]? = some (ceO cw cb cl) ∧ w.heap.size ≤ Y ∧ Below w.heap.size w wx))
  case first =>
    refine wp_abs (fun a0 => a0.tmps.size = 37 ∧ (∀ h, a0.tmps[0]'h = .pointer (some ⟨X, 0, none⟩))) ⟨rfl, fun _ => rfl⟩ ?_
    rintro a0 ⟨hsz, s0⟩ ha0
    refine wp_region_held (S := fun W => Below w.heap.size w W) (by kernel_rfl) ?_
    have hS0 : Below w.heap.size w w.drew := (Below.refl _ _).drew
    have hpi : (p : Int) < n := by omega
    refine h_take (i := 0) (.pointer (some ⟨X, 0, none⟩)) rfl (by kernel_rfl) (by kernel_rfl) (by kernel_rfl) (fun _ _ _ h => h) rfl hS0 (fun W hW => by simp [execOp, go_sem, Act.put, hsz, s0]) ?_
    refine h_take (i := 1) (.pointer (some ⟨X, 0, none⟩)) rfl (by kernel_rfl) (by kernel_rfl) (by kernel_rfl) (fun _ _ _ h => h) rfl hS0 (fun W hW => by simp [execOp, go_sem, Act.put, hsz, s0]) ?_
    refine h_take (i := 2) (.pointer (some ⟨X, 0, none⟩)) rfl (by kernel_rfl) (by kernel_rfl) (by kernel_rfl) (fun _ _ _ h => h) rfl hS0 (fun W hW => by simp [execOp, go_sem, Act.put, hsz, s0]) ?_
    refine h_take (i := 3) (.slice (some ⟨g, 0, none⟩) n c) rfl (by kernel_rfl) (by kernel_rfl) (by kernel_rfl) (fun _ _ _ h => h) rfl hS0 (fun W hW => by obtain ⟨⟨zb, x0, x1, x2, x3, x4, x5⟩, _⟩ := box6 (HX.out W hW); simp [execOp, go_sem, Act.put, hsz, s0, x0, x1, x2, x3, x4, x5]) ?_
    refine h_take (i := 4) (.pointer (some ⟨X, 0, none⟩)) rfl (by kernel_rfl) (by kernel_rfl) (by kernel_rfl) (fun _ _ _ h => h) rfl hS0 (fun W hW => by simp [execOp, go_sem, Act.put, hsz, s0]) ?_
    refine h_take (i := 5) (.pointer (some ⟨X, 0, none⟩)) rfl (by kernel_rfl) (by kernel_rfl) (by kernel_rfl) (fun _ _ _ h => h) rfl hS0 (fun W hW => by simp [execOp, go_sem, Act.put, hsz, s0]) ?_
    refine h_take (i := 6) (.pointer (some ⟨X, 3, none⟩)) rfl (by kernel_rfl) (by kernel_rfl) (by kernel_rfl) (fun _ _ _ h => h) rfl hS0 (fun W hW => by simp [execOp, go_sem, Act.put, hsz, s0]) ?_
    refine h_take (i := 7) (.pointer (some ⟨X, 3, none⟩)) rfl (by kernel_rfl) (by kernel_rfl) (by kernel_rfl) (fun _ _ _ h => h) rfl hS0 (fun W hW => by simp [execOp, go_sem, Act.put, hsz, s0]) ?_
    refine h_take (i := 8) (.int .i64 (p : Int)) rfl (by kernel_rfl) (by kernel_rfl) (by kernel_rfl) (fun _ _ _ h => h) rfl hS0 (fun W hW => by obtain ⟨⟨zb, x0, x1, x2, x3, x4, x5⟩, _⟩ := box6 (HX.out W hW); simp [execOp, go_sem, Act.put, hsz, s0, x0, x1, x2, x3, x4, x5]) ?_
    refine h_take (i := 9) (.pointer (some ⟨g, p * 3, none⟩)) rfl (by kernel_rfl) (by kernel_rfl) (by kernel_rfl) (fun _ _ _ h => h) rfl hS0 (fun W hW => by simp [execOp, go_sem, Act.put, hsz, s0, hpn2]) ?_
    refine h_take (i := 10) (ceV cw cb cl) rfl (by kernel_rfl) (by kernel_rfl) (by kernel_rfl) (fun _ _ _ h => h) rfl hS0 (fun W hW => by have hlt : g < W.heap.size := Nat.lt_of_lt_of_le HXL.out.2 hW.size; obtain ⟨d0, d1, d2⟩ := HC.out W hW; simp [execOp, go_sem, Act.put, hsz, s0, d0, d1, d2, hlt]) ?_
    obtain ⟨u1, uf, hu1, huf, hY1, hYf, hbf⟩ := laid3 w.drew 91 (.int .u64 0) (.int .i64 0) (.bool false) (.int .u64 cw) (.int .i64 cb) (.bool cl)
    rw [show w.drew.heap.size = w.heap.size from rfl] at huf hY1 hYf
    obtain ⟨⟨zy, y0, y1, y2⟩, f0, f1, f2⟩ := box3 hY1
    have hbu1 : Below w.drew.heap.size w.drew u1 := by rw [← hu1]; exact balloc _ _
    have hb0 : Below w.heap.size w w.drew := hS0
    refine h_value (i := 11) (w' := u1) (.pointer (some ⟨w.heap.size, 0, none⟩)) rfl (by kernel_rfl) rfl (by rw [← hu1]; simp [execOp, go_sem, Act.put, hsz, s0]) (bsq hb0 hbu1) ?_
    refine h_skip (i := 12) (w' := uf) rfl (by kernel_rfl) rfl (by rw [← huf]; simp [execOp, go_sem, Act.put, hsz, s0, zy, y0, y1, y2, f0, f1, f2]) (bsq hb0 hbf) ?_
    refine wpAnyH_done (by kernel_rfl) ?_ _
    have HR : Hid (uf.heap[w.heap.size]? = some (ceO cw cb cl) ∧ w.heap.size ≤ w.heap.size ∧ Below w.heap.size w uf) := ⟨hYf, hb0.size, bsq hb0 hbf⟩
    clear huf hu1 y0 y1 y2 f0 f1 f2 hY1 hYf hbf hbu1 hb0 hS0
    subst ha0
    clear hsz s0
    go_simp
    go_wp2_with fail
    go_meet
    case rel => exact ⟨_, rfl, HR.out⟩
  case rest =>
  rename World => wx
  obtain ⟨Y, rfl, HY⟩ := hcut
  have hbx := HY.out.2.2
  have HBx : Hid (Bx X g n c ⟨C, pa, pb, (p : Int), gb, sn⟩ wx ∧ Kq X g w wx) := ⟨HBX.out.below hbx, Kq.of_below hbx⟩
  have HYN : Hid (Y ≠ X ∧ Y ≠ g) := ⟨by have := HY.out.2.1; have := HXL.out; omega, by have := HY.out.2.1; have := HXL.out; omega⟩
  obtain ⟨⟨zy, y0, y1, y2⟩, _⟩ := box3 HY.out.1
  obtain ⟨⟨zx, x0, x1, x2, x3, x4, x5⟩, _⟩ := box6 (HX.out wx hbx)
  clear hbx
  cases z
  · have e1 : (cb != gb) = true := by have := HZ.out; simpa using this
    have HE : Hid (∀ k, Bx X g n c ⟨C, pa, pb, (p : Int), gb, sn⟩ (wx.drewN k) ∧ Kq X g w (wx.drewN k)) := fun k => ⟨HBx.out.1.below (below_drewN (Below.refl _ _) _), HBx.out.2.trans (Kq.of_below (below_drewN (Below.refl _ _) _))⟩
    clear HBx HZ
    go_wp2_with fail
    go_region
    go_wp2
    go_returns
    exact ⟨rfl, HE.out 1⟩
  have e1 : (cb != gb) = false := by have := HZ.out; simpa using this
  go_wp2_with fail
  go_region
  go_upto_region 4 with (fail)
  go_cut [] from 16 (fun wa => Hid (wa.heap[Y]? = some (ceO cw cb cl) ∧ Bx X g n c ⟨C, pa, pb, o1, o2, sn⟩ wa ∧ Kq X g w wa))
  case first =>
    obtain ⟨wd, hwd⟩ : ∃ wd, wx.drew = wd := ⟨_, rfl⟩
    have hbd : Below wx.heap.size wx wd := by rw [← hwd]; exact (Below.refl _ _).drew
    have HXa : Hid (∀ u, Below wx.heap.size wx u → u.heap[X]? = some (rgO (.slice (some ⟨g, 0, none⟩) n c) pa pb (p : Int) gb sn)) := fun u hu => keep HBx.out.1.1 hu
    try rw [hwd]
    refine wp_abs (fun a0 => a0.tmps.size = 37 ∧ (∀ h, a0.tmps[0]'h = .pointer (some ⟨X, 0, none⟩))) ⟨rfl, fun _ => rfl⟩ ?_
    rintro a0 ⟨hsz, s0⟩ ha0
    refine wp_region_held (S := fun _ => True) (by kernel_rfl) ?_
    have hX0 : wd.drew.heap[X]? = some (rgO (.slice (some ⟨g, 0, none⟩) n c) pa pb (p : Int) gb sn) := HXa.out wd hbd
    obtain ⟨⟨zb, x0, x1, x2, x3, x4, x5⟩, _⟩ := box6 hX0
    refine h_take (i := 0) (.pointer (some ⟨X, 0, none⟩)) rfl (by kernel_rfl) (by kernel_rfl) (by kernel_rfl) (fun _ _ _ h => h) rfl trivial (fun W hW => by simp [execOp, go_sem, Act.put, hsz, s0]) ?_
    refine h_take (i := 1) (.pointer (some ⟨X, 0, none⟩)) rfl (by kernel_rfl) (by kernel_rfl) (by kernel_rfl) (fun _ _ _ h => h) rfl trivial (fun W hW => by simp [execOp, go_sem, Act.put, hsz, s0]) ?_
    refine h_take (i := 2) (.pointer (some ⟨X, 0, none⟩)) rfl (by kernel_rfl) (by kernel_rfl) (by kernel_rfl) (fun _ _ _ h => h) rfl trivial (fun W hW => by simp [execOp, go_sem, Act.put, hsz, s0]) ?_
    refine h_take (i := 4) (.pointer (some ⟨X, 0, none⟩)) rfl (by kernel_rfl) (by kernel_rfl) (by kernel_rfl) (fun _ _ _ h => h) rfl trivial (fun W hW => by simp [execOp, go_sem, Act.put, hsz, s0]) ?_
    refine h_take (i := 5) (.pointer (some ⟨X, 0, none⟩)) rfl (by kernel_rfl) (by kernel_rfl) (by kernel_rfl) (fun _ _ _ h => h) rfl trivial (fun W hW => by simp [execOp, go_sem, Act.put, hsz, s0]) ?_
    refine h_take (i := 6) (.pointer (some ⟨X, 3, none⟩)) rfl (by kernel_rfl) (by kernel_rfl) (by kernel_rfl) (fun _ _ _ h => h) rfl trivial (fun W hW => by simp [execOp, go_sem, Act.put, hsz, s0]) ?_
    refine h_two 3 7 (by kernel_rfl) ?_ ?_
    · refine o_value (w' := wd.drew) (rgV (.slice (some ⟨g, 0, none⟩) n c) pa pb (p : Int) gb sn) rfl rfl (by simp [execOp, go_sem, Act.put, hsz, s0, zb, x0, x1, x2, x3, x4, x5]) ⟨trivial, ?_⟩
      refine h_value (i := 7) (w' := wd.drew) (mkV (p : Int) gb) rfl (by kernel_rfl) rfl (by simp [execOp, go_sem, Act.put, hsz, s0, zb, x0, x1, x2, x3, x4, x5]) trivial ?_
      refine h_call (i := 8) 72 #[rgV (.slice (some ⟨g, 0, none⟩) n c) pa pb (p : Int) gb sn, mkV (p : Int) gb] rfl (by kernel_rfl) rfl (by simp [execOp, go_sem, Act.put, hsz, s0]) ((HON.out _).mono ?_)
      rintro e u ⟨rfl, hb⟩
      have hbu : Below wx.heap.size wx u := bsq hbd (bsq (Below.refl _ _).drew hb)
      have hS1 := HXa.out u hbu
      refine ⟨_, rfl, trivial, ?_⟩
      refine h_take (i := 9) (.pointer (some ⟨X, 0, none⟩)) rfl (by kernel_rfl) (by kernel_rfl) (by kernel_rfl) (fun _ _ _ h => h) rfl trivial (fun W hW => by simp [execOp, go_sem, Act.put, hsz, s0]) ?_
      refine h_take (i := 10) (.pointer (some ⟨X, 3, none⟩)) rfl (by kernel_rfl) (by kernel_rfl) (by kernel_rfl) (fun _ _ _ h => h) rfl trivial (fun W hW => by simp [execOp, go_sem, Act.put, hsz, s0]) ?_
      have hBu := HBx.out.1.below hbu
      obtain ⟨⟨zz, q0, q1, q2, q3, q4, q5⟩, f0, f1, f2, f3, f4, f5⟩ := box6 hS1
      obtain ⟨uf, huf⟩ : ∃ uf, (u.setCell ⟨X, 3, none⟩ (.int .i64 o1)).setCell ⟨X, 4, none⟩ (.int .i64 o2) = uf := ⟨_, rfl⟩
      have HR : Hid (uf.heap[Y]? = some (ceO cw cb cl) ∧ Bx X g n c ⟨C, pa, pb, o1, o2, sn⟩ uf ∧ Kq X g w uf) := by
        rw [← huf]
        have hnx := box_ne hBu.2.1 hBu.1 (by decide)
        refine ⟨?_, ⟨csetX 4 _ (csetX 3 _ hBu.1 rfl) rfl, ownsRow_setCell_other (ownsRow_setCell_other hBu.2.1 hnx _) hnx _, hBu.2.2⟩, ((HBx.out.2.trans (Kq.of_below hbu)).setX _ _).setX _ _⟩
        rw [heap_setCell_other _ _ _ _ HYN.out.1, heap_setCell_other _ _ _ _ HYN.out.1]; exact keep HY.out.1 hbu
      refine h_skip (i := 11) (w' := uf) rfl (by kernel_rfl) rfl (by rw [← huf]; simp [execOp, go_sem, Act.put, hsz, s0, zz, q0, q1, q2, q3, q4, q5, f0, f1, f2, f3, f4, f5]) trivial ?_
      refine wpAnyH_done (by kernel_rfl) ?_ _
      clear huf q0 q1 q2 q3 q4 q5 f0 f1 f2 f3 f4 f5 hBu hbu hb hS1 hX0 x0 x1 x2 x3 x4 x5
      subst ha0
      clear hsz s0
      go_simp
      go_wp2_with fail
      go_meet
      case rel => exact HR.out
    · refine o_value (w' := wd.drew) (mkV (p : Int) gb) rfl rfl (by simp [execOp, go_sem, Act.put, hsz, s0, zb, x0, x1, x2, x3, x4, x5]) ⟨trivial, ?_⟩
      refine h_value (i := 3) (w' := wd.drew) (rgV (.slice (some ⟨g, 0, none⟩) n c) pa pb (p : Int) gb sn) rfl (by kernel_rfl) rfl (by simp [execOp, go_sem, Act.put, hsz, s0, zb, x0, x1, x2, x3, x4, x5]) trivial ?_
      refine h_call (i := 8) 72 #[rgV (.slice (some ⟨g, 0, none⟩) n c) pa pb (p : Int) gb sn, mkV (p : Int) gb] rfl (by kernel_rfl) rfl (by simp [execOp, go_sem, Act.put, hsz, s0]) ((HON.out _).mono ?_)
      rintro e u ⟨rfl, hb⟩
      have hbu : Below wx.heap.size wx u := bsq hbd (bsq (Below.refl _ _).drew hb)
      have hS1 := HXa.out u hbu
      refine ⟨_, rfl, trivial, ?_⟩
      refine h_take (i := 9) (.pointer (some ⟨X, 0, none⟩)) rfl (by kernel_rfl) (by kernel_rfl) (by kernel_rfl) (fun _ _ _ h => h) rfl trivial (fun W hW => by simp [execOp, go_sem, Act.put, hsz, s0]) ?_
      refine h_take (i := 10) (.pointer (some ⟨X, 3, none⟩)) rfl (by kernel_rfl) (by kernel_rfl) (by kernel_rfl) (fun _ _ _ h => h) rfl trivial (fun W hW => by simp [execOp, go_sem, Act.put, hsz, s0]) ?_
      have hBu := HBx.out.1.below hbu
      obtain ⟨⟨zz, q0, q1, q2, q3, q4, q5⟩, f0, f1, f2, f3, f4, f5⟩ := box6 hS1
      obtain ⟨uf, huf⟩ : ∃ uf, (u.setCell ⟨X, 3, none⟩ (.int .i64 o1)).setCell ⟨X, 4, none⟩ (.int .i64 o2) = uf := ⟨_, rfl⟩
      have HR : Hid (uf.heap[Y]? = some (ceO cw cb cl) ∧ Bx X g n c ⟨C, pa, pb, o1, o2, sn⟩ uf ∧ Kq X g w uf) := by
        rw [← huf]
        have hnx := box_ne hBu.2.1 hBu.1 (by decide)
        refine ⟨?_, ⟨csetX 4 _ (csetX 3 _ hBu.1 rfl) rfl, ownsRow_setCell_other (ownsRow_setCell_other hBu.2.1 hnx _) hnx _, hBu.2.2⟩, ((HBx.out.2.trans (Kq.of_below hbu)).setX _ _).setX _ _⟩
        rw [heap_setCell_other _ _ _ _ HYN.out.1, heap_setCell_other _ _ _ _ HYN.out.1]; exact keep HY.out.1 hbu
      refine h_skip (i := 11) (w' := uf) rfl (by kernel_rfl) rfl (by rw [← huf]; simp [execOp, go_sem, Act.put, hsz, s0, zz, q0, q1, q2, q3, q4, q5, f0, f1, f2, f3, f4, f5]) trivial ?_
      refine wpAnyH_done (by kernel_rfl) ?_ _
      clear huf q0 q1 q2 q3 q4 q5 f0 f1 f2 f3 f4 f5 hBu hbu hb hS1 hX0 x0 x1 x2 x3 x4 x5
      subst ha0
      clear hsz s0
      go_simp
      go_wp2_with fail
      go_meet
      case rel => exact HR.out
  case rest =>
  rename World => wb
  have HB : Hid (wb.heap[Y]? = some (ceO cw cb cl) ∧ Bx X g n c ⟨C, pa, pb, o1, o2, sn⟩ wb ∧ Kq X g w wb) := hcut
  obtain ⟨⟨zyb, yb0, yb1, yb2⟩, _⟩ := box3 HB.out.1
  clear hcut y0 y1 y2 x0 x1 x2 x3 x4 x5
  go_wp2
  go_returns
  exact ⟨rfl, HB.out.2⟩
set_option maxHeartbeats 2000000 in
theorem learn_any (X g n c : Nat) (r : Rg) (w : World) (h : Bx X g n c r w) :
    Calls Try.prog 70 #[.pointer (some ⟨X, 0, none⟩)] w fun e w' => e = .returned (.tuple #[]) ∧ Bx X g n c (lrn r) w' ∧ Kq X g w w' := by
  obtain ⟨C, pa, pb, ga, gb, sn⟩ := r
  have hnx := box_ne h.2.1 h.1 (by decide)
  have HE : Hid (Bx X g n c ⟨C, pa, pb, ga, gb, ga⟩ (w.setCell ⟨X, 5, none⟩ (.int .i64 ga)) ∧ Kq X g w (w.setCell ⟨X, 5, none⟩ (.int .i64 ga))) := ⟨⟨csetX 5 _ h.1 rfl, ownsRow_setCell_other h.2.1 hnx _, h.2.2⟩, (Kq.refl X g w).setX _ _⟩
  obtain ⟨⟨zx, x0, x1, x2, x3, x4, x5⟩, f0, f1, f2, f3, f4, f5⟩ := box6 h.1
  simp only at x0 x1 x2 x3 x4 x5
  clear h hnx
  go_enter Try.func70, Try.ntmps70
  go_wp2
  first | (go_returns; exact ⟨rfl, HE.out⟩) | (go_ret; exact ⟨rfl, HE.out⟩)
end Go.Proofs.Ythjmcopknkemnaa.ring
