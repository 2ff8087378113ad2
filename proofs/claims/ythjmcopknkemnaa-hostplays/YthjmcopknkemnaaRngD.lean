/- ring: what areCells and Check answer. -/
import Derived.Test.YthjmcopknkemnaaRngC
namespace Go.Proofs.Ythjmcopknkemnaa.ring
open Go Go.RowKit
set_option linter.unusedVariables false
set_option linter.unusedSimpArgs false
set_option maxRecDepth 100000

theorem ce_no {n k : Nat} {c : Ce} (hk : k < n) : ceB n k c = (bitB c.2.1 && !(c.2.2 == plB n (k : Int))) := by
  unfold ceB
  congr 1
  have : plB n (k : Int) = !decide (k + 1 = n) := by
    unfold plB
    by_cases h : k + 1 = n
    · rw [decide_eq_true h, decide_eq_false (show ¬ (k : Int) < (n : Int) - 1 by omega)]; simp
    · rw [decide_eq_false h, decide_eq_true (show (k : Int) < (n : Int) - 1 by omega), decide_eq_true (show (0 : Int) ≤ (k : Int) by omega)]; rfl
  rw [this]
  cases c.2.2 <;> cases decide (k + 1 = n) <;> rfl
set_option maxHeartbeats 4000000 in
theorem areCells_any (g off n c : Nat) (L : List Ce) (pa pb ga gb sn : Int) (w : World) (hv : Rcs w (.slice (some ⟨g, off, none⟩) n c) L) (hnl : L.length = n) (hn : 3 ≤ n) (hn2 : n ≤ 64) :
    Calls Try.prog 80 #[rgV (.slice (some ⟨g, off, none⟩) n c) pa pb ga gb sn] w fun e w' => e = .returned (.bool (okC n 0 L)) ∧ Below w.heap.size w w' := by
  obtain ⟨w1, hw1, hX1, hb1⟩ := named w (rgO (.slice (some ⟨g, off, none⟩) n c) pa pb ga gb sn)
  obtain ⟨⟨hz, x0, x1, x2, x3, x4, x5⟩, _⟩ := box6 hX1
  have HB1 : Hid (Below w.heap.size w w1) := hb1
  have HR : Hid (Rcs w1 (.slice (some ⟨g, off, none⟩) n c) L) := hv.below hb1
  have HX : Hid (∀ u, Below w1.heap.size w1 u → u.heap[w.heap.size]? = some (rgO (.slice (some ⟨g, off, none⟩) n c) pa pb ga gb sn)) := fun u hu => keep hX1 hu
  have HN : Hid (L.length = n) := hnl
  obtain ⟨d, hd⟩ : ∃ d, L[n - 1]? = some d := ⟨_, List.getElem?_eq_getElem (by omega)⟩
  obtain ⟨q, hq⟩ : ∃ q, okL n 0 L = q := ⟨_, rfl⟩
  have hok : okC n 0 L = (q && (d.1 == 0)) := by rw [okC_last L 0 (by omega) (by rw [Nat.sub_zero]; exact hd), hq]
  rw [hok]
  have HQ : Hid (okL n 0 L = q) := hq
  have HD : Hid (L[n - 1]? = some d) := hd
  have HP : Hid (∀ (x : Int) u, Calls Try.prog 71 #[rgV (.slice (some ⟨g, off, none⟩) n c) pa pb ga gb sn, .int .i64 x] u fun e w' => e = .returned (.bool (plB n x)) ∧ Below u.heap.size u w') := fun x u => isPlace_any _ n c pa pb ga gb sn x u hn hn2
  have HL : Hid (∀ u, Calls Try.prog 76 #[rgV (.slice (some ⟨g, off, none⟩) n c) pa pb ga gb sn] u fun e w' => e = .returned (.pointer (some ⟨g, off + (n - 1) * 3, none⟩)) ∧ Below u.heap.size u w') := fun u => link_any g off n c pa pb ga gb sn u hn hn2
  clear hv hnl hX1 hb1 hok hq hd
  go_enter Try.func80, Try.ntmps80
  go_wp2
  go_loopw [8] (fun i wr => ∃ k : Nat, k ≤ n ∧ i = .int .i64 (k : Int) ∧ Hid (Below w1.heap.size w1 wr ∧ okL n k (L.drop k) = q)) (fun i _ => n - (intOf i).toNat)
  case atStart => exact ⟨0, Nat.zero_le _, rfl, Below.refl _ _, HQ.out⟩
  case round =>
    obtain ⟨k, hk, rfl, HA⟩ := hrel
    by_cases hlt : ¬ k < n
    · have HQ2 : Hid (true = q) := by have := HA.out.2; rw [List.drop_eq_nil_of_le (by have := HN.out; omega)] at this; exact this
      have HBr : Hid (Below w1.heap.size w1 wr) := HA.out.1
      obtain ⟨⟨hzr, x0, x1, x2, x3, x4, x5⟩, _⟩ := box6 (HX.out wr HA.out.1)
      clear HA
      go_wp2_with fail
      refine (HL.out _).mono ?_
      rintro e u ⟨rfl, hb⟩
      have HBu : Hid (Below w1.heap.size w1 u) := bsq HBr.out hb
      obtain ⟨g', off', hgo, hcell⟩ := HR.out.at (n - 1) d HD.out
      injection hgo with hgo
      injection hgo with e1 e2 _
      subst e1 e2
      obtain ⟨c0, _, _⟩ := hcell u HBu.out
      obtain ⟨d0, d1⟩ := d
      simp only at c0
      clear hcell hb
      go_wp2
      go_ret
      rw [← HQ2.out]
      exact ⟨rfl, bsq HB1.out HBu.out⟩
    have hlt : k < n := by omega
    have hkL : k < L.length := by have := HN.out; omega
    obtain ⟨x, hx⟩ : ∃ x, L[k]? = some x := ⟨L[k], List.getElem?_eq_getElem hkL⟩
    have HA2 : Hid ((bitB x.2.1 && !(x.2.2 == plB n (k : Int))) = false ∧ false = q ∨ (bitB x.2.1 && !(x.2.2 == plB n (k : Int))) = true ∧ okL n (k + 1) (L.drop (k + 1)) = q) := by
      have := HA.out.2
      rw [okL_at hx, ce_no hlt] at this
      cases hq : (bitB x.2.1 && !(x.2.2 == plB n (k : Int)))
      · rw [hq] at this; exact .inl ⟨rfl, this⟩
      · rw [hq] at this; exact .inr ⟨rfl, this⟩
    obtain ⟨g', off', hgo, hcell⟩ := HR.out.at k x hx
    injection hgo with hgo
    injection hgo with e1 e2 _
    subst e1 e2
    obtain ⟨c0, c1, c2⟩ := hcell wr HA.out.1
    obtain ⟨xw, xb, xl⟩ := x
    simp only at c0 c1 c2 HA2
    obtain ⟨u1, uf, hu1, huf, hY1, hYf, hbf⟩ := laid3 wr 91 (.int .u64 0) (.int .i64 0) (.bool false) (.int .u64 xw) (.int .i64 xb) (.bool xl)
    obtain ⟨⟨hy, y0, y1, y2⟩, g0, g1, g2⟩ := box3 hY1
    have HBf : Hid (Below w1.heap.size w1 uf) := bsq HA.out.1 hbf
    have HY : Hid (∀ u, Below uf.heap.size uf u → u.heap[wr.heap.size]? = some (ceO xw xb xl)) := fun u hu => keep hYf hu
    clear hcell hx hkL hbf hY1 hYf HA
    go_upto_region 4 with (fail)
    try rw [huf]
    clear huf hu1 y0 y1 y2 g0 g1 g2 c0 c1 c2
    go_cut [24] from 13 to 24 (fun bv wx => bv = .bool (!(bitB xb && !(xl == plB n (k : Int)))) ∧ Hid (Below w1.heap.size w1 wx))
    case first =>
      refine wp_abs (fun a0 => a0.tmps.size = 32 ∧ (∀ h, a0.tmps[1]'h = .pointer (some ⟨w.heap.size, 0, none⟩)) ∧ (∀ h, a0.tmps[4]'h = .pointer (some ⟨wr.heap.size, 0, none⟩)) ∧ (∀ h, a0.tmps[3]'h = .int .i64 (k : Int))) ⟨rfl, fun _ => rfl, fun _ => rfl, fun _ => rfl⟩ ?_
      rintro a0 ⟨hsz, s1, s4, s3⟩ ha0
      refine wp_region_held (S := fun W => Below uf.heap.size uf W) (by kernel_rfl) ?_
      have hS0 : Below uf.heap.size uf uf.drew := (Below.refl _ _).drew
      refine h_take (i := 0) (.pointer (some ⟨wr.heap.size, 1, none⟩)) rfl (by kernel_rfl) (by kernel_rfl) (by kernel_rfl) (fun _ _ _ h => h) rfl hS0 (fun W hW => by simp [execOp, go_sem, Act.put, hsz, s1, s3, s4]) ?_
      refine h_take (i := 1) (.int .i64 xb) rfl (by kernel_rfl) (by kernel_rfl) (by kernel_rfl) (fun _ _ _ h => h) rfl hS0 (fun W hW => by obtain ⟨⟨zb, x0, x1, x2⟩, _⟩ := box3 (HY.out W hW); simp [execOp, go_sem, Act.put, hsz, s1, s3, s4, x0, x1, x2]) ?_
      refine h_call (i := 2) 95 #[.int .i64 xb] rfl (by kernel_rfl) rfl (by simp [execOp, go_sem, Act.put, hsz, s1, s3, s4]) ((isBit_any xb _).mono ?_)
      rintro e u ⟨rfl, rfl⟩
      refine ⟨_, rfl, hS0, ?_⟩
      refine h_take (i := 3) (.bool (!bitB xb)) rfl (by kernel_rfl) (by kernel_rfl) (by kernel_rfl) (fun _ _ _ h => h) rfl hS0 (fun W hW => by simp [execOp, go_sem, Act.put, hsz, s1, s3, s4]) ?_
      refine h_take (i := 4) (.bool (!bitB xb)) rfl (by kernel_rfl) (by kernel_rfl) (by kernel_rfl) (fun _ _ _ h => h) rfl hS0 (fun W hW => by simp [execOp, go_sem, Act.put, hsz, s1, s3, s4]) ?_
      have hS1 : Below uf.heap.size uf uf.drew := hS0
      cases hbx : bitB xb
      · refine g_pass (i := 5) rfl (by kernel_rfl) (by kernel_rfl) (by kernel_rfl) (fun _ _ _ h => h) (by simp [Region.wanted, yielded, Act.put, hsz]) hS0 ?_
        refine g_pass (i := 6) rfl (by kernel_rfl) (by kernel_rfl) (by kernel_rfl) (fun _ _ _ h => h) (by simp [Region.wanted, yielded, Act.put, hsz]) hS0 ?_
        refine g_pass (i := 7) rfl (by kernel_rfl) (by kernel_rfl) (by kernel_rfl) (fun _ _ _ h => h) (by simp [Region.wanted, yielded, Act.put, hsz]) hS0 ?_
        refine g_pass (i := 8) rfl (by kernel_rfl) (by kernel_rfl) (by kernel_rfl) (fun _ _ _ h => h) (by simp [Region.wanted, yielded, Act.put, hsz]) hS0 ?_
        refine g_none (i := 9) rfl (by kernel_rfl) (by simp [Region.wanted, yielded, Act.put, hsz]) hS0 ?_
        refine g_pass (i := 10) rfl (by kernel_rfl) (by kernel_rfl) (by kernel_rfl) (fun _ _ _ h => h) (by simp [Region.wanted, yielded, Act.put, hsz]) hS0 ?_
        refine h_take (i := 11) (.bool true) rfl (by kernel_rfl) (by kernel_rfl) (by kernel_rfl) (fun _ _ _ h => h) rfl hS0 (fun W hW => by simp [execOp, go_sem, Act.put, hsz, s1, s3, s4]) ?_
        refine wpAnyH_done (by kernel_rfl) ?_ _
        subst ha0
        clear hsz s1 s4 s3
        go_simp
        go_wp2_with fail
        go_meet
        case rel => exact ⟨by rw [hbx]; rfl, bsq HBf.out hS0⟩
      · refine g_take (i := 5) (.pointer (some ⟨wr.heap.size, 2, none⟩)) rfl (by kernel_rfl) (by kernel_rfl) (by kernel_rfl) (fun _ _ _ h => h) (by simp [Region.wanted, yielded, Act.put, hsz]) hS0 (fun W hW => by simp [execOp, go_sem, Act.put, hsz, s1, s3, s4]) ?_
        refine g_take (i := 6) (.bool xl) rfl (by kernel_rfl) (by kernel_rfl) (by kernel_rfl) (fun _ _ _ h => h) (by simp [Region.wanted, yielded, Act.put, hsz]) hS0 (fun W hW => by obtain ⟨⟨zb, x0, x1, x2⟩, _⟩ := box3 (HY.out W hW); simp [execOp, go_sem, Act.put, hsz, s1, s3, s4, x0, x1, x2]) ?_
        refine g_take (i := 7) (rgV (.slice (some ⟨g, off, none⟩) n c) pa pb ga gb sn) rfl (by kernel_rfl) (by kernel_rfl) (by kernel_rfl) (fun _ _ _ h => h) (by simp [Region.wanted, yielded, Act.put, hsz]) hS0 (fun W hW => by obtain ⟨⟨zb, x0, x1, x2, x3, x4, x5⟩, _⟩ := box6 (HX.out W (bsq HBf.out hW)); simp [execOp, go_sem, Act.put, hsz, s1, s3, s4, x0, x1, x2, x3, x4, x5]) ?_
        refine g_take (i := 8) (.int .i64 (k : Int)) rfl (by kernel_rfl) (by kernel_rfl) (by kernel_rfl) (fun _ _ _ h => h) (by simp [Region.wanted, yielded, Act.put, hsz]) hS0 (fun W hW => by simp [execOp, go_sem, Act.put, hsz, s1, s3, s4]) ?_
        refine g_call (i := 9) 71 #[rgV (.slice (some ⟨g, off, none⟩) n c) pa pb ga gb sn, .int .i64 (k : Int)] rfl (by kernel_rfl) (by simp [Region.wanted, yielded, Act.put, hsz]) (by simp [execOp, go_sem, Act.put, hsz, s1, s3, s4]) ((HP.out _ _).mono ?_)
        rintro e u ⟨rfl, hb⟩
        have hS2 : Below uf.heap.size uf u := bsq hS0 hb
        refine ⟨_, rfl, hS2, ?_⟩
        refine g_take (i := 10) (.bool (xl == plB n (k : Int))) rfl (by kernel_rfl) (by kernel_rfl) (by kernel_rfl) (fun _ _ _ h => h) (by simp [Region.wanted, yielded, Act.put, hsz]) hS2 (fun W hW => by simp [execOp, go_sem, Act.put, hsz, s1, s3, s4]) ?_
        refine h_take (i := 11) (.bool (xl == plB n (k : Int))) rfl (by kernel_rfl) (by kernel_rfl) (by kernel_rfl) (fun _ _ _ h => h) rfl hS2 (fun W hW => by simp [execOp, go_sem, Act.put, hsz, s1, s3, s4]) ?_
        refine wpAnyH_done (by kernel_rfl) ?_ _
        subst ha0
        clear hsz s1 s4 s3
        go_simp
        go_wp2_with fail
        go_meet
        case rel => exact ⟨by rw [hbx]; simp, bsq HBf.out hS2⟩
    case rest =>
    rename World => wx
    obtain ⟨rfl, HW⟩ := hcut
    rcases HA2.out with ⟨h1, h2⟩ | ⟨h1, h2⟩
    · have HQ2 : Hid (false = q) := h2
      rw [h1]
      clear h1 h2 HA2
      go_wp2
      go_ret
      rw [← HQ2.out]
      exact ⟨rfl, bsq HB1.out HW.out⟩
    · have HQ2 : Hid (okL n (k + 1) (L.drop (k + 1)) = q) := h2
      rw [h1]
      clear h1 h2 HA2
      go_wp2
      go_roundw
      case rel => exact ⟨k + 1, by omega, by go_num, HW.out, HQ2.out⟩
      case measure => simp [intOf]; omega
end Go.Proofs.Ythjmcopknkemnaa.ring
