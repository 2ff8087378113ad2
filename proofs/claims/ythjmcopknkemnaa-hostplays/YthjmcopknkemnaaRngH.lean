/- ring: what put does. -/
import Derived.Test.YthjmcopknkemnaaRngF
import Derived.BigQuiet
namespace Go.Proofs.Ythjmcopknkemnaa.ring
open Go Go.RowKit
set_option linter.unusedVariables false
set_option linter.unusedSimpArgs false
set_option maxRecDepth 100000

section
variable {w : World} {g n c : Nat} {L : List Ce}
theorem Ces.cells (h : Ces w g (.slice (some ⟨g, 0, none⟩) n c) L) (hn : L.length = n) {k : Nat} {x : Ce} (hk : L[k]? = some x) :
    w.cell? ⟨g, k * 3, none⟩ = some (.int .u64 x.1) ∧ w.cell? ⟨g, k * 3 + 1, none⟩ = some (.int .i64 x.2.1) ∧ w.cell? ⟨g, k * 3 + 2, none⟩ = some (.bool x.2.2) := by
  subst hn
  have hj := (List.getElem?_eq_some_iff.1 hk).1
  rw [World.ownsRow.cellAt h (k * 3) (by omega), World.ownsRow.cellAt h (k * 3 + 1) (by omega), World.ownsRow.cellAt h (k * 3 + 2) (by omega)]
  exact ccells_at L k x hk
theorem Ces.free (h : Ces w g (.slice (some ⟨g, 0, none⟩) n c) L) (hn : L.length = n) (j : Nat) : w.frozen? ⟨g, j, none⟩ = false := by
  subst hn
  exact World.ownsRow.frozenAt h j
theorem Ces.lt (h : Ces w g (.slice (some ⟨g, 0, none⟩) n c) L) : g < w.heap.size := (World.ownsRow.lt h g rfl).2
theorem Ces.set (h : Ces w g (.slice (some ⟨g, 0, none⟩) n c) L) (hn : L.length = n) (k : Nat) (x : Ce) (hk : k < n) :
    Ces (((w.setCell ⟨g, k * 3, none⟩ (.int .u64 x.1)).setCell ⟨g, k * 3 + 1, none⟩ (.int .i64 x.2.1)).setCell ⟨g, k * 3 + 2, none⟩ (.bool x.2.2)) g (.slice (some ⟨g, 0, none⟩) n c) (L.set k x) := by
  subst hn
  have h1 := (World.ownsRow.stored h (k * 3) (.int .u64 x.1)).1
  have h2 := (World.ownsRow.stored h1 (k * 3 + 1) (.int .i64 x.2.1)).1
  have h3 := (World.ownsRow.stored h2 (k * 3 + 2) (.bool x.2.2)).1
  unfold Ces
  rw [List.length_set, ← ccells_set L k x hk]
  exact h3
theorem Ces.setBit (h : Ces w g (.slice (some ⟨g, 0, none⟩) n c) L) (hn : L.length = n) {k : Nat} {x : Ce} (hk : L[k]? = some x) (b : Int) : Ces (w.setCell ⟨g, k * 3 + 1, none⟩ (.int .i64 b)) g (.slice (some ⟨g, 0, none⟩) n c) (L.set k (x.1, b, x.2.2)) := by
  subst hn
  unfold Ces
  rw [List.length_set, ← ccells_bit L k x b hk]
  exact (World.ownsRow.stored h (k * 3 + 1) (.int .i64 b)).1
theorem Ces.setLink (h : Ces w g (.slice (some ⟨g, 0, none⟩) n c) L) (hn : L.length = n) {k : Nat} {x : Ce} (hk : L[k]? = some x) (b : Bool) : Ces (w.setCell ⟨g, k * 3 + 2, none⟩ (.bool b)) g (.slice (some ⟨g, 0, none⟩) n c) (L.set k (x.1, x.2.1, b)) := by
  subst hn
  unfold Ces
  rw [List.length_set, ← ccells_link L k x b hk]
  exact (World.ownsRow.stored h (k * 3 + 2) (.bool b)).1
end
abbrev rgOf (v : Value) (r : Rg) : Obj := rgO v r.pa r.pb r.ga r.gb r.sn
/-- a ring's box X and its row g, and what else there is -/
def Bx (X g n c : Nat) (r : Rg) (w : World) : Prop := w.heap[X]? = some (rgOf (.slice (some ⟨g, 0, none⟩) n c) r) ∧ Ces w g (.slice (some ⟨g, 0, none⟩) n c) r.C ∧ r.C.length = n
theorem Bx.ne {X g n c : Nat} {r : Rg} {w : World} (h : Bx X g n c r w) : X ≠ g := fun q => by
  have := box_ne h.2.1 h.1 (by decide)
  exact this (by rw [q]; rfl)
theorem Bx.below {X g n c : Nat} {r : Rg} {w u : World} (h : Bx X g n c r w) (hb : Below w.heap.size w u) : Bx X g n c r u := ⟨keep h.1 hb, h.2.1.below hb, h.2.2⟩
theorem Bx.lt {X g n c : Nat} {r : Rg} {w : World} (h : Bx X g n c r w) : X < w.heap.size ∧ g < w.heap.size := ⟨(Array.getElem?_eq_some_iff.1 h.1).1, h.2.1.lt⟩
set_option maxHeartbeats 8000000 in
theorem put_any (X g n c : Nat) (r : Rg) (x : Int) (w : World) (h : Bx X g n c r w) (hr : Rt r) :
    Calls Try.prog 62 #[.pointer (some ⟨X, 0, none⟩), .int .u64 x] w fun e w' => e = .returned (.bool (putB r)) ∧ Bx X g n c (if putB r = true then putV r x else r) w' ∧ Kq X g w w' := by
  have hn3 := hr.n3
  have hn64 := hr.n64
  rw [h.2.2] at hn3 hn64
  obtain ⟨p, hp⟩ : ∃ p : Nat, r.pa = (p : Int) := ⟨r.pa.toNat, by have := hr.pa0; omega⟩
  have hpn : p < n - 1 := by have := hr.pa1; rw [h.2.2] at this; omega
  have hpn2 : p < n := by omega
  obtain ⟨o1, ho1⟩ : ∃ o, (on n r.pa r.pb).1 = o := ⟨_, rfl⟩
  obtain ⟨o2, ho2⟩ : ∃ o, (on n r.pa r.pb).2 = o := ⟨_, rfl⟩
  have hon := on_ok hn3 hr.pa0 (by have := hr.pa1; rw [h.2.2] at this; exact this) hr.pb
  have HON : Hid (∀ u, Calls Try.prog 72 #[rgV (.slice (some ⟨g, 0, none⟩) n c) r.pa r.pb r.ga r.gb r.sn, mkV r.pa r.pb] u fun e w' => e = .returned (mkV o1 o2) ∧ Below u.heap.size u w') := fun u => by
    have := onward_any (some ⟨g, 0, none⟩) n c r.pa r.pb r.ga r.gb r.sn r.pa r.pb u hn3 hn64 hr.pa0 (by have := hr.pa1; rw [h.2.2] at this; exact this) hr.pb
    rw [ho1, ho2] at this
    exact this
  have hLK0 : ∀ u, Calls Try.prog 76 #[rgV (.slice (some ⟨g, 0, none⟩) n c) r.pa r.pb r.ga r.gb r.sn] u fun e w' => e = .returned (.pointer (some ⟨g, (n - 1) * 3, none⟩)) ∧ Below u.heap.size u w' := fun u => by
    have := link_any g 0 n c r.pa r.pb r.ga r.gb r.sn u hn3 hn64
    rw [Nat.zero_add] at this
    exact this
  have hpb : putB r = !(o1 == r.sn) := by unfold putB; rw [h.2.2, ho1]
  have hVV : putV r x = ⟨if o1 = 0 then (r.C.set p (x, r.pb, false)).set (n - 1) (0, r.pb, true) else r.C.set p (x, r.pb, false), o1, o2, r.ga, r.gb, r.sn⟩ := by
    unfold putV putL; rw [h.2.2, ho1, ho2, hp, Int.toNat_natCast]
  obtain ⟨lb, hlast, _⟩ := hr.last
  rw [h.2.2] at hlast
  obtain ⟨C, pa, pb, ga, gb, sn⟩ := r
  simp only at hp hlast HON hLK0 hpb hVV
  subst hp
  have hne := h.ne
  have HLK : Hid (∀ u, Calls Try.prog 76 #[rgV (.slice (some ⟨g, 0, none⟩) n c) (p : Int) pb ga gb sn] u fun e w' => e = .returned (.pointer (some ⟨g, (n - 1) * 3, none⟩)) ∧ Below u.heap.size u w') := hLK0
  have HBX : Hid (Bx X g n c ⟨C, (p : Int), pb, ga, gb, sn⟩ w) := h
  have HX : Hid (∀ u, Below w.heap.size w u → u.heap[X]? = some (rgO (.slice (some ⟨g, 0, none⟩) n c) (p : Int) pb ga gb sn)) := fun u hu => keep h.1 hu
  have HLAST : Hid (C[n - 1]? = some (0, lb, true)) := hlast
  obtain ⟨z, hz⟩ : ∃ z, putB ⟨C, (p : Int), pb, ga, gb, sn⟩ = z := ⟨_, rfl⟩
  rw [hz] at hpb ⊢
  obtain ⟨V, hV⟩ : ∃ V, (if z = true then putV ⟨C, (p : Int), pb, ga, gb, sn⟩ x else ⟨C, (p : Int), pb, ga, gb, sn⟩) = V := ⟨_, rfl⟩
  rw [hVV] at hV
  rw [hVV, hV]
  have HV : Hid ((if z = true then (⟨if o1 = 0 then (C.set p (x, pb, false)).set (n - 1) (0, pb, true) else C.set p (x, pb, false), o1, o2, ga, gb, sn⟩ : Rg) else ⟨C, (p : Int), pb, ga, gb, sn⟩) = V) := hV
  have HLEN : Hid (C.length = n) := h.2.2
  have HXL : Hid (X < w.heap.size) := h.lt.1
  clear h hr hon hLK0 hVV hV hlast ho1 ho2 hz
  go_enter Try.func62, Try.ntmps62
  go_upto_region 1 with (fail)
  go_cut [5] from 6 (fun yv wx => ∃ Y : Nat, yv = .pointer (some ⟨Y, 0, none⟩) ∧ Hid (wx.heap[Y]? = some (mkO o1 o2) ∧ w.heap.size ≤ Y ∧ Below w.heap.size w wx))
  case first =>
    refine wp_abs (fun a0 => a0.tmps.size = 56 ∧ (∀ h, a0.tmps[0]'h = .pointer (some ⟨X, 0, none⟩))) ⟨rfl, fun _ => rfl⟩ ?_
    rintro a0 ⟨hsz, s0⟩ ha0
    refine wp_region_held (S := fun W => Below w.heap.size w W) (by kernel_rfl) ?_
    have hS0 : Below w.heap.size w w.drew := (Below.refl _ _).drew
    refine h_take (i := 0) (.pointer (some ⟨X, 0, none⟩)) rfl (by kernel_rfl) (by kernel_rfl) (by kernel_rfl) (fun _ _ _ h => h) rfl hS0 (fun W hW => by simp [execOp, go_sem, Act.put, hsz, s0]) ?_
    refine h_take (i := 1) (.pointer (some ⟨X, 0, none⟩)) rfl (by kernel_rfl) (by kernel_rfl) (by kernel_rfl) (fun _ _ _ h => h) rfl hS0 (fun W hW => by simp [execOp, go_sem, Act.put, hsz, s0]) ?_
    refine h_take (i := 2) (rgV (.slice (some ⟨g, 0, none⟩) n c) (p : Int) pb ga gb sn) rfl (by kernel_rfl) (by kernel_rfl) (by kernel_rfl) (fun _ _ _ h => h) rfl hS0 (fun W hW => by obtain ⟨⟨zb, x0, x1, x2, x3, x4, x5⟩, _⟩ := box6 (HX.out W hW); simp [execOp, go_sem, Act.put, hsz, s0, x0, x1, x2, x3, x4, x5]) ?_
    refine h_take (i := 3) (.pointer (some ⟨X, 0, none⟩)) rfl (by kernel_rfl) (by kernel_rfl) (by kernel_rfl) (fun _ _ _ h => h) rfl hS0 (fun W hW => by simp [execOp, go_sem, Act.put, hsz, s0]) ?_
    refine h_take (i := 4) (.pointer (some ⟨X, 0, none⟩)) rfl (by kernel_rfl) (by kernel_rfl) (by kernel_rfl) (fun _ _ _ h => h) rfl hS0 (fun W hW => by simp [execOp, go_sem, Act.put, hsz, s0]) ?_
    refine h_take (i := 5) (.pointer (some ⟨X, 1, none⟩)) rfl (by kernel_rfl) (by kernel_rfl) (by kernel_rfl) (fun _ _ _ h => h) rfl hS0 (fun W hW => by simp [execOp, go_sem, Act.put, hsz, s0]) ?_
    refine h_take (i := 6) (mkV (p : Int) pb) rfl (by kernel_rfl) (by kernel_rfl) (by kernel_rfl) (fun _ _ _ h => h) rfl hS0 (fun W hW => by obtain ⟨⟨zb, x0, x1, x2, x3, x4, x5⟩, _⟩ := box6 (HX.out W hW); simp [execOp, go_sem, Act.put, hsz, s0, x0, x1, x2, x3, x4, x5]) ?_
    refine h_two 7 8 (by kernel_rfl) ?_ ?_
    · refine o_call 72 #[rgV (.slice (some ⟨g, 0, none⟩) n c) (p : Int) pb ga gb sn, mkV (p : Int) pb] rfl rfl (by simp [execOp, go_sem, Act.put, hsz, s0]) ((HON.out _).mono ?_)
      rintro e u ⟨rfl, hb⟩
      have hS1 : Below w.heap.size w u := bsq hS0 hb
      refine ⟨_, rfl, hS1, ?_⟩
      obtain ⟨u1, uf, hu1, huf, hY1, hYf, hbf⟩ := laid2 u 33 (.int .i64 0) (.int .i64 0) (.int .i64 o1) (.int .i64 o2)
      obtain ⟨⟨zy, y0, y1⟩, f0, f1⟩ := box2 hY1
      have hbu1 : Below u.heap.size u u1 := by rw [← hu1]; exact balloc _ _
      refine h_value (i := 8) (w' := u1) (.pointer (some ⟨u.heap.size, 0, none⟩)) rfl (by kernel_rfl) rfl (by rw [← hu1]; simp [execOp, go_sem, Act.put, hsz, s0]) (bsq hS1 hbu1) ?_
      refine h_skip (i := 9) (w' := uf) rfl (by kernel_rfl) rfl (by rw [← huf]; simp [execOp, go_sem, Act.put, hsz, s0, zy, y0, y1, f0, f1]) (bsq hS1 hbf) ?_
      refine wpAnyH_done (by kernel_rfl) ?_ _
      have HR : Hid (uf.heap[u.heap.size]? = some (mkO o1 o2) ∧ w.heap.size ≤ u.heap.size ∧ Below w.heap.size w uf) := ⟨hYf, hS1.size, bsq hS1 hbf⟩
      clear huf hu1 y0 y1 f0 f1 hY1 hYf hbf hbu1 hS1 hb
      subst ha0
      clear hsz s0
      go_simp
      go_wp2_with fail
      go_meet
      case rel => exact ⟨_, rfl, HR.out⟩
    · have hb1 : Below w.heap.size w (w.drew.alloc (mkO 0 0)) := hS0.alloc (Nat.le_refl _) _
      refine o_value (w' := w.drew.alloc (mkO 0 0)) (.pointer (some ⟨w.heap.size, 0, none⟩)) rfl rfl (by simp [execOp, go_sem, Act.put, hsz, s0]) ?_
      refine ⟨hb1, ?_⟩
      refine h_call (i := 7) 72 #[rgV (.slice (some ⟨g, 0, none⟩) n c) (p : Int) pb ga gb sn, mkV (p : Int) pb] rfl (by kernel_rfl) rfl (by simp [execOp, go_sem, Act.put, hsz, s0]) ((HON.out _).mono ?_)
      rintro e u ⟨rfl, hb⟩
      have hS1 : Below w.heap.size w u := hb1.trans (hb.mono hb1.size)
      refine ⟨_, rfl, hS1, ?_⟩
      have hYu : u.heap[w.heap.size]? = some (mkO 0 0) := keep (MapKept.heap_alloc w.drew (mkO 0 0)).1 hb
      obtain ⟨⟨zy, y0, y1⟩, f0, f1⟩ := box2 hYu
      obtain ⟨uf, huf, hYf, hBf, _, _⟩ := put2 u w.heap.size (.int .i64 o1) (.int .i64 o2) hYu
      have hSf : Below w.heap.size w uf := hBf _ _ (Nat.le_refl _) hS1
      refine h_skip (i := 9) (w' := uf) rfl (by kernel_rfl) rfl (by rw [← huf]; simp [execOp, go_sem, Act.put, hsz, s0, zy, y0, y1, f0, f1]) hSf ?_
      refine wpAnyH_done (by kernel_rfl) ?_ _
      have HR : Hid (uf.heap[w.heap.size]? = some (mkO o1 o2) ∧ w.heap.size ≤ w.heap.size ∧ Below w.heap.size w uf) := ⟨hYf, Nat.le_refl _, hSf⟩
      clear huf y0 y1 f0 f1 hYu hYf hBf hS1 hb hb1 hSf
      subst ha0
      clear hsz s0
      go_simp
      go_wp2_with fail
      go_meet
      case rel => exact ⟨_, rfl, HR.out⟩
  case rest =>
  rename World => wx
  obtain ⟨Y, rfl, HY⟩ := hcut
  have hbx := HY.out.2.2
  have HBx : Hid (Bx X g n c ⟨C, (p : Int), pb, ga, gb, sn⟩ wx ∧ Kq X g w wx) := ⟨HBX.out.below hbx, Kq.of_below hbx⟩
  have HYN : Hid (Y ≠ X ∧ Y ≠ g) := ⟨by have := HY.out.2.1; have := HBX.out.lt; omega, by have := HY.out.2.1; have := HBX.out.lt; omega⟩
  obtain ⟨⟨zy, y0, y1⟩, _⟩ := box2 HY.out.1
  obtain ⟨⟨zx, x0, x1, x2, x3, x4, x5⟩, _⟩ := box6 (HX.out wx hbx)
  clear hbx
  by_cases hq : o1 = sn
  · have hz : z = false := by rw [hpb]; simp [hq]
    subst hz
    have HE : Hid (∀ k, Bx X g n c V (wx.drewN k) ∧ Kq X g w (wx.drewN k)) := fun k => by
      have := HV.out
      rw [if_neg (by decide)] at this
      rw [← this]
      exact ⟨HBx.out.1.below (below_drewN (Below.refl _ _) _), HBx.out.2.trans (Kq.of_below (below_drewN (Below.refl _ _) _))⟩
    have e1 : (o1 == sn) = true := by simpa using hq
    clear HV hpb hq
    go_wp2_with fail
    go_region
    go_wp2
    go_ret
    exact ⟨rfl, HE.out 1⟩
  have hz : z = true := by rw [hpb]; simp [hq]
  subst hz
  have e1 : (o1 == sn) = false := by simpa using hq
  have HV2 : Hid ((⟨if o1 = 0 then (C.set p (x, pb, false)).set (n - 1) (0, pb, true) else C.set p (x, pb, false), o1, o2, ga, gb, sn⟩ : Rg) = V) := by have := HV.out; rw [if_pos rfl] at this; exact this
  obtain ⟨cw, cb, cl, hC⟩ : ∃ cw cb cl, C[p]? = some (cw, cb, cl) := by
    have hl := HLEN.out
    exact ⟨_, _, _, List.getElem?_eq_getElem (by omega)⟩
  obtain ⟨c0, c1, c2⟩ := HBx.out.1.2.1.cells HLEN.out hC
  simp only at c0 c1 c2
  have k0 := HBx.out.1.2.1.free HLEN.out (p * 3)
  have k1 := HBx.out.1.2.1.free HLEN.out (p * 3 + 1)
  have k2 := HBx.out.1.2.1.free HLEN.out (p * 3 + 2)
  have hpi : (p : Int) < n := by omega
  clear HV hpb hq hC
  go_wp2_with fail
  go_region
  go_upto_region 4 with (fail)
  go_cut [] from 14 (fun wa => Hid (wa.heap[Y]? = some (mkO o1 o2) ∧ Bx X g n c ⟨C.set p (x, pb, false), (p : Int), pb, ga, gb, sn⟩ wa ∧ Kq X g w wa))
  case first =>
    have HR : Hid (∀ k, ((((wx.drewN k).setCell ⟨g, p * 3, none⟩ (.int .u64 x)).setCell ⟨g, p * 3 + 1, none⟩ (.int .i64 pb)).setCell ⟨g, p * 3 + 2, none⟩ (.bool false)).heap[Y]? = some (mkO o1 o2) ∧
        Bx X g n c ⟨C.set p (x, pb, false), (p : Int), pb, ga, gb, sn⟩ ((((wx.drewN k).setCell ⟨g, p * 3, none⟩ (.int .u64 x)).setCell ⟨g, p * 3 + 1, none⟩ (.int .i64 pb)).setCell ⟨g, p * 3 + 2, none⟩ (.bool false)) ∧
        Kq X g w ((((wx.drewN k).setCell ⟨g, p * 3, none⟩ (.int .u64 x)).setCell ⟨g, p * 3 + 1, none⟩ (.int .i64 pb)).setCell ⟨g, p * 3 + 2, none⟩ (.bool false))) := fun k => by
      have hd : Below wx.heap.size wx (wx.drewN k) := below_drewN (Below.refl _ _) _
      have hb := HBx.out.1.below hd
      refine ⟨?_, ⟨?_, Ces.set hb.2.1 HLEN.out p (x, pb, false) hpn2, by rw [List.length_set]; exact HLEN.out⟩, (((HBx.out.2.trans (Kq.of_below hd)).setG _ _).setG _ _).setG _ _⟩
      · rw [heap_setCell_other _ _ _ _ HYN.out.2, heap_setCell_other _ _ _ _ HYN.out.2, heap_setCell_other _ _ _ _ HYN.out.2]
        exact HY.out.1
      · rw [heap_setCell_other _ _ _ _ hne, heap_setCell_other _ _ _ _ hne, heap_setCell_other _ _ _ _ hne]
        exact hb.1
    go_wp2_with fail
    go_region
    go_wp2_with fail
    go_meet
    case rel => exact HR.out 2
  case rest =>
  rename World => wa
  have HA : Hid (wa.heap[Y]? = some (mkO o1 o2) ∧ Bx X g n c ⟨C.set p (x, pb, false), (p : Int), pb, ga, gb, sn⟩ wa ∧ Kq X g w wa) := hcut
  obtain ⟨⟨zya, ya0, ya1⟩, _⟩ := box2 HA.out.1
  clear hcut x0 x1 x2 x3 x4 x5 y0 y1 c0 c1 c2 k0 k1 k2 HBx HY
  have HEND : Hid (∀ u D, u.heap[Y]? = some (mkO o1 o2) → Bx X g n c ⟨D, (p : Int), pb, ga, gb, sn⟩ u → Kq X g w u → Bx X g n c ⟨D, o1, o2, ga, gb, sn⟩ ((u.setCell ⟨X, 1, none⟩ (.int .i64 o1)).setCell ⟨X, 2, none⟩ (.int .i64 o2)) ∧ Kq X g w ((u.setCell ⟨X, 1, none⟩ (.int .i64 o1)).setCell ⟨X, 2, none⟩ (.int .i64 o2))) := fun u D h1 h2 h3 => by
    have hnx := box_ne h2.2.1 h2.1 (by decide)
    exact ⟨⟨csetX 2 _ (csetX 1 _ h2.1 rfl) rfl, ownsRow_setCell_other (ownsRow_setCell_other h2.2.1 hnx _) hnx _, h2.2.2⟩, (h3.setX _ _).setX _ _⟩
  by_cases ho : ¬ o1 = 0
  · have e2 : (o1 == 0) = false := by simpa using ho
    have HE : Hid (Bx X g n c V ((wa.setCell ⟨X, 1, none⟩ (.int .i64 o1)).setCell ⟨X, 2, none⟩ (.int .i64 o2)) ∧ Kq X g w ((wa.setCell ⟨X, 1, none⟩ (.int .i64 o1)).setCell ⟨X, 2, none⟩ (.int .i64 o2))) := by
      have := HV2.out
      rw [if_neg ho] at this
      rw [← this]
      exact HEND.out wa _ HA.out.1 HA.out.2.1 HA.out.2.2
    obtain ⟨⟨zxa, xa0, xa1, xa2, xa3, xa4, xa5⟩, fa0, fa1, fa2, _⟩ := box6 HA.out.2.1.1
    clear HA HEND HV2 ho
    go_wp2
    go_ret
    exact ⟨rfl, HE.out⟩
  have ho : o1 = 0 := Classical.not_not.1 ho
  have e2 : (o1 == 0) = true := by simpa using ho
  go_upto_region 6 with (fail)
  go_cut [] from 41 (fun wb => Hid (wb.heap[Y]? = some (mkO o1 o2) ∧ Bx X g n c ⟨(C.set p (x, pb, false)).set (n - 1) (0, pb, true), (p : Int), pb, ga, gb, sn⟩ wb ∧ Kq X g w wb))
  case first =>
    have HXa : Hid (∀ u, Below wa.heap.size wa u → u.heap[X]? = some (rgO (.slice (some ⟨g, 0, none⟩) n c) (p : Int) pb ga gb sn)) := fun u hu => keep HA.out.2.1.1 hu
    refine wp_abs (fun a0 => a0.tmps.size = 56 ∧ (∀ h, a0.tmps[0]'h = .pointer (some ⟨X, 0, none⟩))) ⟨rfl, fun _ => rfl⟩ ?_
    rintro a0 ⟨hsz, s0⟩ ha0
    refine wp_region_held (S := fun W => W.heap[X]? = some (rgO (.slice (some ⟨g, 0, none⟩) n c) (p : Int) pb ga gb sn)) (by kernel_rfl) ?_
    have hS0 : wa.drew.heap[X]? = some (rgO (.slice (some ⟨g, 0, none⟩) n c) (p : Int) pb ga gb sn) := HA.out.2.1.1
    refine h_take (i := 0) (.pointer (some ⟨X, 0, none⟩)) rfl (by kernel_rfl) (by kernel_rfl) (by kernel_rfl) (fun _ _ _ h => h) rfl hS0 (fun W hW => by simp [execOp, go_sem, Act.put, hsz, s0]) ?_
    refine h_take (i := 1) (.pointer (some ⟨X, 0, none⟩)) rfl (by kernel_rfl) (by kernel_rfl) (by kernel_rfl) (fun _ _ _ h => h) rfl hS0 (fun W hW => by simp [execOp, go_sem, Act.put, hsz, s0]) ?_
    refine h_take (i := 2) (rgV (.slice (some ⟨g, 0, none⟩) n c) (p : Int) pb ga gb sn) rfl (by kernel_rfl) (by kernel_rfl) (by kernel_rfl) (fun _ _ _ h => h) rfl hS0 (fun W hW => by obtain ⟨⟨zb, x0, x1, x2, x3, x4, x5⟩, _⟩ := box6 (hW); simp [execOp, go_sem, Act.put, hsz, s0, x0, x1, x2, x3, x4, x5]) ?_
    refine h_take (i := 4) (.pointer (some ⟨X, 0, none⟩)) rfl (by kernel_rfl) (by kernel_rfl) (by kernel_rfl) (fun _ _ _ h => h) rfl hS0 (fun W hW => by simp [execOp, go_sem, Act.put, hsz, s0]) ?_
    refine h_take (i := 5) (.pointer (some ⟨X, 0, none⟩)) rfl (by kernel_rfl) (by kernel_rfl) (by kernel_rfl) (fun _ _ _ h => h) rfl hS0 (fun W hW => by simp [execOp, go_sem, Act.put, hsz, s0]) ?_
    refine h_take (i := 6) (.pointer (some ⟨X, 1, none⟩)) rfl (by kernel_rfl) (by kernel_rfl) (by kernel_rfl) (fun _ _ _ h => h) rfl hS0 (fun W hW => by simp [execOp, go_sem, Act.put, hsz, s0]) ?_
    refine h_take (i := 7) (.pointer (some ⟨X, 2, none⟩)) rfl (by kernel_rfl) (by kernel_rfl) (by kernel_rfl) (fun _ _ _ h => h) rfl hS0 (fun W hW => by simp [execOp, go_sem, Act.put, hsz, s0]) ?_
    refine h_take (i := 8) (.int .i64 pb) rfl (by kernel_rfl) (by kernel_rfl) (by kernel_rfl) (fun _ _ _ h => h) rfl hS0 (fun W hW => by obtain ⟨⟨zb, x0, x1, x2, x3, x4, x5⟩, _⟩ := box6 (hW); simp [execOp, go_sem, Act.put, hsz, s0, x0, x1, x2, x3, x4, x5]) ?_
    refine h_call (i := 3) 76 #[rgV (.slice (some ⟨g, 0, none⟩) n c) (p : Int) pb ga gb sn] rfl (by kernel_rfl) rfl (by simp [execOp, go_sem, Act.put, hsz, s0]) ((HLK.out _).mono ?_)
    rintro e u ⟨rfl, hb⟩
    have hbu : Below wa.heap.size wa u := bsq (Below.refl _ _).drew hb
    have hS1 := HXa.out u hbu
    refine ⟨_, rfl, hS1, ?_⟩
    refine h_take (i := 9) (.pointer (some ⟨g, (n - 1) * 3, none⟩)) rfl (by kernel_rfl) (by kernel_rfl) (by kernel_rfl) (fun _ _ _ h => h) rfl hS1 (fun W hW => by simp [execOp, go_sem, Act.put, hsz, s0]) ?_
    refine h_take (i := 10) (.pointer (some ⟨g, (n - 1) * 3 + 1, none⟩)) rfl (by kernel_rfl) (by kernel_rfl) (by kernel_rfl) (fun _ _ _ h => h) rfl hS1 (fun W hW => by simp [execOp, go_sem, Act.put, hsz, s0]) ?_
    have hBu := HA.out.2.1.below hbu
    have hlen : (C.set p (x, pb, false)).length = n := by rw [List.length_set]; exact HLEN.out
    have hD : (C.set p (x, pb, false))[n - 1]? = some (0, lb, true) := by rw [List.getElem?_set_ne (by omega)]; exact HLAST.out
    obtain ⟨c0, c1, c2⟩ := hBu.2.1.cells hlen hD
    have k1 := hBu.2.1.free hlen ((n - 1) * 3 + 1)
    have hgl := hBu.lt.2
    obtain ⟨uf, huf⟩ : ∃ uf, u.setCell ⟨g, (n - 1) * 3 + 1, none⟩ (.int .i64 pb) = uf := ⟨_, rfl⟩
    have HR : Hid (uf.heap[Y]? = some (mkO o1 o2) ∧ Bx X g n c ⟨(C.set p (x, pb, false)).set (n - 1) (0, pb, true), (p : Int), pb, ga, gb, sn⟩ uf ∧ Kq X g w uf) := by
      rw [← huf]
      refine ⟨?_, ⟨?_, Ces.setBit hBu.2.1 hlen hD pb, by rw [List.length_set]; exact hlen⟩, (HA.out.2.2.trans (Kq.of_below hbu)).setG _ _⟩
      · rw [heap_setCell_other _ _ _ _ HYN.out.2]; exact keep HA.out.1 hbu
      · rw [heap_setCell_other _ _ _ _ hne]; exact hBu.1
    refine h_skip (i := 11) (w' := uf) rfl (by kernel_rfl) rfl (by rw [← huf]; simp [execOp, go_sem, Act.put, hsz, s0, c1, k1, hgl]) HR.out.2.1.1 ?_
    refine wpAnyH_done (by kernel_rfl) ?_ _
    clear huf c0 c1 c2 k1 hBu hD hbu hb hS1 hS0 hgl
    subst ha0
    clear hsz s0
    go_simp
    go_wp2_with fail
    go_meet
    case rel => exact HR.out
  case rest =>
  rename World => wb
  have HB : Hid (wb.heap[Y]? = some (mkO o1 o2) ∧ Bx X g n c ⟨(C.set p (x, pb, false)).set (n - 1) (0, pb, true), (p : Int), pb, ga, gb, sn⟩ wb ∧ Kq X g w wb) := hcut
  have HE : Hid (Bx X g n c V ((wb.setCell ⟨X, 1, none⟩ (.int .i64 o1)).setCell ⟨X, 2, none⟩ (.int .i64 o2)) ∧ Kq X g w ((wb.setCell ⟨X, 1, none⟩ (.int .i64 o1)).setCell ⟨X, 2, none⟩ (.int .i64 o2))) := by
    have := HV2.out
    rw [if_pos ho] at this
    rw [← this]
    exact HEND.out wb _ HB.out.1 HB.out.2.1 HB.out.2.2
  obtain ⟨⟨zxa, xa0, xa1, xa2, xa3, xa4, xa5⟩, fa0, fa1, fa2, _⟩ := box6 HB.out.2.1.1
  obtain ⟨⟨zyb, yb0, yb1⟩, _⟩ := box2 HB.out.1
  clear hcut HA HEND HV2 ho HB ya0 ya1
  go_wp2
  go_ret
  exact ⟨rfl, HE.out⟩
end Go.Proofs.Ythjmcopknkemnaa.ring
