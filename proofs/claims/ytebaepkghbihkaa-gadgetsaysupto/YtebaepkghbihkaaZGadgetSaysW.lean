/- GadgetSays: the walk. -/
import Derived.Test.YtebaepkghbihkaaZBo
import Derived.Test.YtebaepkghbihkaaZAp
namespace Go.Proofs.Ytebaepkghbihkaa.gadgetSays
open Go.RowKit Go.PlainAid Go.Proofs.Ytebaepkghbihkaa.desc Go.Proofs.Ytebaepkghbihkaa.gadget
set_option linter.unusedVariables false
set_option linter.unusedSimpArgs false
set_option maxRecDepth 100000 in
set_option maxHeartbeats 8000000 in
theorem walk (d : Dv) (c : Cf) (L : FL) (v : Value) (T : List (List Int)) (tv : Value) (s a h : Int) (q : ByteArray) (hq : q.size ≤ maxLen) (_hq2 : q.size ≤ 1048576) (w : World) (hs : Shr w c L v T tv) (hb : ∀ t ∈ T, t.length ≤ 1048576) :
    Calls Try.prog 4 #[shV d c v tv, gdV s a h, .string q] w fun e w' => e = .returned (.bool true) ∧ Below w.heap.size w w' := by
  obtain ⟨w1, hw1, hS1, hb1⟩ := ShC.named w d c v tv
  obtain ⟨w2, hw2, hG2, hb2⟩ := gd_named w1 s a h
  have z1 : w.heap.size < w1.heap.size := (Array.getElem?_eq_some_iff.1 hS1).1
  have z2 : w1.heap.size < w2.heap.size := (Array.getElem?_eq_some_iff.1 hG2).1
  have HS : Hid (∀ u : World, Below w2.heap.size w2 u → u.heap[w.heap.size]? = some (shO d c v tv)) := fun u hu => keep (keep hS1 hb2) hu
  have HG : Hid (∀ u : World, Below w2.heap.size w2 u → u.heap[w1.heap.size]? = some (gdO s a h)) := fun u hu => keep hG2 hu
  have HB2 : Hid (Below w.heap.size w w2) := bsq hb1 hb2
  have HSr : Hid (∀ u : World, Below w2.heap.size w2 u → Shr u c L v T tv) := fun u hu => hs.below (bsq hb1 (bsq hb2 hu))
  obtain ⟨fa, fn, fcp, rfl⟩ : ∃ a n c, v = .slice a n c := by obtain ⟨a, c, h, _⟩ := hs.rc.fs.row; exact ⟨_, _, _, h⟩
  obtain ⟨ta, tn, tcp, rfl⟩ : ∃ a n c, tv = .slice a n c := by obtain ⟨a, c, h, _⟩ := hs.tx; exact ⟨_, _, _, h⟩
  have HC : Hid (∀ u : World, Below w2.heap.size w2 u → Calls Try.prog 11 #[shV d c (.slice fa fn fcp) (.slice ta tn tcp), gdV s a h, .string q] u fun e w' => e = .returned (ansV (ctl d c T s a h q)) ∧ Below u.heap.size u w') := fun u hu => control_any d c L _ T _ s a h q u (HSr.out u hu) hq
  have HR : Hid (∀ u : World, Below w2.heap.size w2 u → Calls Try.prog 12 #[shV d c (.slice fa fn fcp) (.slice ta tn tcp), gdV s a h, .string q] u fun e w' => e = .returned (ansV (ctl d c T s a h q)) ∧ Below u.heap.size u w') := fun u hu => rcontrol_any d c L _ T _ s a h q u (HSr.out u hu) hq (fun t ht => Nat.le_trans (hb t ht) (by omega))
  generalize ctl d c T s a h q = Y at *
  obtain ⟨Ys, Ya, Yh, Yt, Ye⟩ := Y
  have hS2 := HS.out w2 (Below.refl _ _)
  obtain ⟨⟨zg, g0, g1, g2⟩, _⟩ := gd_box (HG.out w2 (Below.refl _ _))
  clear hs hb hq _hq2 hb1 hb2 hS1 hG2 HSr
  go_enter Try.func4, Try.ntmps4
  go_upto_region 1 with (fail)
  go_cut [0, 1, 7, 8, 9] from 13 (fun _ _ pv tw cv wx => ∃ X : Nat, pv = .pointer (some ⟨X, 0, none⟩) ∧ tw = .string Yt ∧ cv = .int .i64 Ye ∧ Hid (Below w2.heap.size w2 wx ∧ wx.heap[X]? = some (gdO Ys Ya Yh)))
  case first =>
    go_wp2_with (refine wpList_sheet rfl _ rfl w.heap.size rfl hS2 ?_)
    refine (HC.out _ (Below.refl _ _)).mono ?_
    rintro e u ⟨rfl, hb⟩
    go_wp2_with fail
    go_meet
    case rel => exact ⟨u.heap.size, rfl, rfl, rfl, bsq hb (balloc _ _), (MapKept.heap_alloc u _).1⟩
  case rest =>
  obtain ⟨X, rfl, rfl, rfl, HX⟩ := hcut
  rename World => ua
  have HBa : Hid (Below w2.heap.size w2 ua) := HX.out.1
  have HXa : Hid (ua.heap[X]? = some (gdO Ys Ya Yh)) := HX.out.2
  clear HX hS2 zg g0 g1 g2 HC
  have hS2 := HS.out ua HBa.out
  obtain ⟨⟨zg, g0, g1, g2⟩, _⟩ := gd_box (HG.out ua HBa.out)
  go_upto_region 2 with (fail)
  go_cut [2, 10, 11, 12] from 13 (fun _ pv tw cv wx => ∃ Z : Nat, pv = .pointer (some ⟨Z, 0, none⟩) ∧ tw = .string Yt ∧ cv = .int .i64 Ye ∧ Hid (Below ua.heap.size ua wx ∧ wx.heap[Z]? = some (gdO Ys Ya Yh)))
  case first =>
    go_wp2_with (refine wpList_sheet rfl _ rfl w.heap.size rfl hS2 ?_)
    refine (HR.out _ HBa.out).mono ?_
    rintro e u ⟨rfl, hb⟩
    go_wp2_with fail
    go_meet
    case rel => exact ⟨u.heap.size, rfl, rfl, rfl, bsq hb (balloc _ _), (MapKept.heap_alloc u _).1⟩
  case rest =>
  obtain ⟨Z, rfl, rfl, rfl, HZ⟩ := hcut
  rename World => ub
  have HBb : Hid (Below ua.heap.size ua ub) := HZ.out.1
  clear hS2 zg g0 g1 g2 HR
  obtain ⟨⟨zx, x0, x1, x2⟩, _⟩ := gd_box (keep HXa.out HBb.out)
  obtain ⟨⟨zz, y0, y1, y2⟩, _⟩ := gd_box HZ.out.2
  have hq := eql_gd Ys Ya Yh Ys Ya Yh
  rw [same_self] at hq
  clear HZ
  go_wp2
  go_ret
  exact ⟨rfl, bsq HB2.out (bsq HBa.out HBb.out)⟩
end Go.Proofs.Ytebaepkghbihkaa.gadgetSays
