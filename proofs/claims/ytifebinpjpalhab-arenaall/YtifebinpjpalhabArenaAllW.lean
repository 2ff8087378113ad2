/- ArenaAll: all spans given back, in whatever order, leave an arena of which none is taken. -/
import Derived.Test.YtifebinpjpalhabAreW
import Derived.Test.YtifebinpjpalhabAreK
import Derived.Test.YtifebinpjpalhabAreJ
import Derived.Test.YtifebinpjpalhabAreO
import Derived.Deep.CutRange
namespace Go.Proofs.Ytifebinpjpalhab.arenaAll
open Go Go.RowKit Go.Proofs.Ytifebinpjpalhab.arena
set_option linter.unusedVariables false
set_option linter.unusedSimpArgs false
set_option maxRecDepth 100000

/-- the span k is given back -/
theorem gone {z : Int} {L : List Sp} {k : Nat} {x : Sp} (h : chk ⟨z, L⟩ = 0) (hx : L[k]? = some x) : ∃ A B, gvC ⟨z, L⟩ x.1 = 0 ∧ gvV ⟨z, L⟩ x.1 = ⟨z, A ++ B⟩ ∧ (A ++ B).length + 1 = L.length := by
  have hm := List.mem_of_getElem? hx
  have hi : idx L x.1 < L.length := List.findIdx_lt_length.2 ⟨x, hm, by simp⟩
  have hc : gvC ⟨z, L⟩ x.1 = 0 := gv_good h hi
  obtain ⟨A, y, B, h1, h2, h3, h4, h5⟩ := gv_facts hc
  refine ⟨A, B, hc, h4, ?_⟩
  have := congrArg List.length h1
  simp only [List.length_append, List.length_cons] at this ⊢
  omega
theorem fr_nil {z : Int} (h : chk ⟨z, []⟩ = 0) : frV ⟨z, []⟩ = z := by unfold frV; rw [if_pos h]; simp [sum_nil]
set_option maxHeartbeats 8000000 in
theorem walk (z : Int) (x : Value) (L : List Sp) (vo : Value) (ol : List Int) (w : World) (hp : Rss w x L ∧ Inr L) (ho : Ris w vo ol) :
    Calls Try.prog 4 #[arV z x, vo] w fun e w' => e = .returned (.bool true) ∧ Below w.heap.size w w' := by
  obtain ⟨hv, hI⟩ := hp
  obtain ⟨a, c, rfl, hlc, hcm⟩ := hv.form
  obtain ⟨n, hn⟩ : ∃ n, L.length = n := ⟨_, rfl⟩
  have HN : Hid (L.length = n) := hn
  have HO0 : Hid (Ris w vo ol) := ho
  obtain ⟨oa, oc, hve, ho1, ho2, ho3, _⟩ := ho
  obtain ⟨on, hon⟩ : ∃ q, ol.length = q := ⟨_, rfl⟩
  rw [hon] at hve ho1
  subst hve
  have HON : Hid (ol.length = on) := hon
  rw [hn] at hv hlc ⊢
  obtain ⟨w1, hw1, hX1, hb1⟩ := named w (arO z (.slice a n c))
  obtain ⟨⟨hz, x0, x1⟩, _⟩ := boxC hX1
  obtain ⟨k, hk⟩ : ∃ k, chk ⟨z, L⟩ = k := ⟨_, rfl⟩
  have HK : Hid (chk ⟨z, L⟩ = k) := hk
  have HLI : Hid (∀ u, Calls Try.prog 7 #[] u fun e w' => e = .returned (.bool true) ∧ Below u.heap.size u w') := lives_any
  have HW : Hid (∀ u, Below w1.heap.size w1 u → u.heap[w.heap.size]? = some (arO z (.slice a n c)) ∧ Rss u (.slice a n c) L ∧ Below w.heap.size w u) := fun u hu => ⟨keep hX1 hu, hv.below (bsq hb1 hu), bsq hb1 hu⟩
  have HC : Hid (∀ u, Below w1.heap.size w1 u → Calls Try.prog 12 #[arV z (.slice a n c)] u fun e w' => e = .returned (.int .i64 k) ∧ Below u.heap.size u w') := fun u hu => by
    have := check_any z (.slice a n c) L u (hv.below (bsq hb1 hu)) hI
    rw [hk] at this
    exact this
  unfold maxLen at hcm ho2
  clear hv hI hn hX1 hb1 hk hon
  go_enter Try.func4, Try.ntmps4
  go_wp2_with fail
  refine (HLI.out _).mono ?_
  rintro e u1 ⟨rfl, hb1⟩
  have HR1 : Hid (Below w1.heap.size w1 u1) := hb1
  have HC1 : Hid (Calls Try.prog 12 #[arV z (.slice a n c)] u1 fun e w' => e = .returned (.int .i64 k) ∧ Below u1.heap.size u1 w') := HC.out u1 hb1
  obtain ⟨⟨_, i0, i1⟩, _⟩ := boxC (HW.out u1 hb1).1
  clear hb1 HC
  go_wp2_with fail
  refine HC1.out.mono ?_
  rintro e u2 ⟨rfl, hb2⟩
  have HR2 : Hid (Below w1.heap.size w1 u2) := bsq HR1.out hb2
  clear hb2 HC1 HR1
  by_cases h0 : ¬ k = 0
  · have e1 : (k != 0) = true := by simpa using h0
    clear h0
    go_wp2_with fail
    refine (HLI.out _).mono ?_
    rintro e u3 ⟨rfl, hb3⟩
    have HR3 : Hid (Below w1.heap.size w1 u3) := bsq HR2.out hb3
    clear hb3
    go_wp2
    go_ret
    exact ⟨rfl, (HW.out _ HR3.out).2.2⟩
  have h0 : k = 0 := Classical.not_not.1 h0
  subst h0
  have e0 : ((0 : Int) != 0) = false := rfl
  have hn64 : n ≤ 64 := by rw [← HN.out]; exact (chk_ok HK.out).2.2.1
  clear x0 x1 i0 i1 hw1
  go_wp2
  go_loopw [5] (fun i wr => ∃ (k : Nat), k ≤ n ∧ i = .int .i64 (k : Int) ∧ Hid (∃ (va : Option Addr) (m vc : Nat) (La : List Sp), k + m = n ∧ wr.heap[w.heap.size]? = some (arO z (.slice va m vc)) ∧ Rss wr (.slice va m vc) La ∧ Below w.heap.size w wr ∧ La.length = m ∧ chk ⟨z, La⟩ = 0)) (fun i _ => n - (intOf i).toNat)
  case atStart =>
    obtain ⟨q1, q2, q3⟩ := HW.out u2 HR2.out
    exact ⟨0, Nat.zero_le _, rfl, a, n, c, L, by omega, q1, q2, q3, HN.out, HK.out⟩
  case round =>
    obtain ⟨k, hkn0, rfl, HREL⟩ := hrel
    obtain ⟨va, m, vc, La, hkm0, hX, hRl, hbr, hM, hCH⟩ := HREL.out
    clear HREL
    have HQr : Hid (wr.heap[w.heap.size]? = some (arO z (.slice va m vc)) ∧ Rss wr (.slice va m vc) La ∧ Below w.heap.size w wr) := ⟨hX, hRl, hbr⟩
    have HM : Hid (La.length = m) := hM
    have HCH : Hid (chk ⟨z, La⟩ = 0) := hCH
    obtain ⟨⟨_, a0, a1⟩, _⟩ := boxC hX
    have hqr : w.heap.size + 1 ≤ wr.heap.size := (Array.getElem?_eq_some_iff.1 hX).1
    clear hX hRl hM hCH
    by_cases hm : m = 0
    · have hLa : La = [] := List.eq_nil_of_length_eq_zero (by rw [HM.out]; exact hm)
      have HF : Hid (Calls Try.prog 6 #[arV z (.slice va m vc)] wr fun e w' => e = .returned (.tuple #[.int .i64 z, .int .i64 0]) ∧ Below wr.heap.size wr w') := by
        have h1 := free_any z (.slice va m vc) La wr HQr.out.2.1 (inr_chk HCH.out)
        have h2 := HCH.out
        rw [hLa] at h1 h2
        rw [h2, fr_nil h2] at h1
        exact h1
      subst hm
      clear hLa hbr
      go_wp2_with fail
      refine HF.out.mono ?_
      rintro e u3 ⟨rfl, hb3⟩
      obtain ⟨⟨_, b0, b1⟩, _⟩ := boxC (keep HQr.out.1 hb3)
      have HB3 : Hid (Below w.heap.size w u3) := bsq HQr.out.2.2 hb3
      have e1 : ((0 : Int) == 0) = true := rfl
      have e2 : (z == z) = true := by simp
      clear hb3
      go_wp2
      go_ret
      exact ⟨rfl, HB3.out⟩
    have hmp : 0 < m := by omega
    have d0 : decide ((m : Int) > 0) = true := by rw [decide_eq_true_eq]; omega
    by_cases hon : ¬ k < on
    · have d1 : decide ((k : Int) < (on : Int)) = false := by rw [decide_eq_false_iff_not]; omega
      have hle : on ≤ k := by omega
      clear hm hon hbr
      go_upto_region 9 with (fail)
      obtain ⟨kk, hkk⟩ : ∃ kk : Nat, kk = 0 := ⟨_, rfl⟩
      have hz0 : (0 : Int) = (kk : Int) := by omega
      have hkm : kk < m := by omega
      have HQ : Hid (wr.heap[w.heap.size]? = some (arO z (.slice va m vc)) ∧ Rss wr (.slice va m vc) La ∧ Below w.heap.size w wr) := HQr.out
      have hql : w.heap.size + 1 ≤ wr.heap.size := hqr
      clear HQr hz0
      obtain ⟨x, hx⟩ : ∃ x, La[kk]? = some x := ⟨_, List.getElem?_eq_getElem (by have := HM.out; omega)⟩
      obtain ⟨gi, gr, hgc, hgv, hgl⟩ := gone HCH.out hx
      obtain ⟨ga, off, hae, hcell⟩ := HQ.out.2.1.at kk x hx
      subst hae
      obtain ⟨xp, xs⟩ := x
      simp only at hcell hgc hgv
      have HCE : Hid (∀ W, Below wr.heap.size wr W → W.cell? ⟨ga, off + kk * 2, none⟩ = some (.int .i64 xp)) := fun W hW => (hcell W hW).1
      have HBX : Hid (∀ W, Below wr.heap.size wr W → W.heap[w.heap.size]? = some (arO z (.slice (some ⟨ga, off, none⟩) m vc))) := fun W hW => keep HQ.out.1 hW
      have HGU : Hid (∀ u, Below wr.heap.size wr u → Calls Try.prog 9 #[arV z (.slice (some ⟨ga, off, none⟩) m vc), .int .i64 xp] u fun e w' => ∃ v, e = .returned (.tuple #[arV z v, .int .i64 0]) ∧ Sps w' u.heap.size v (gi ++ gr) ∧ Below u.heap.size u w') := fun u hu => by
        have := give_any z (.slice (some ⟨ga, off, none⟩) m vc) La xp u (HQ.out.2.1.below hu) (inr_chk HCH.out)
        rw [hgc, hgv] at this
        exact this
      have HGC : Hid (chk ⟨z, gi ++ gr⟩ = 0 ∧ (gi ++ gr).length + 1 = m) := ⟨by rw [← hgv]; obtain ⟨_, _, _, _, _, _, _, h⟩ := gv_facts hgc; exact h, by rw [hgl]; exact HM.out⟩
      clear hx hgc hgv hgl hcell
      go_cut [7, 8] from 44 to 67 (fun bv ev wx => ∃ (Xb : Nat) (ba : Option Addr) (bn bc : Nat), bv = .pointer (some ⟨Xb, 0, none⟩) ∧ ev = .int .i64 0 ∧ wx.heap[Xb]? = some (arO z (.slice ba bn bc)) ∧ Hid (Sps wx (w.heap.size + 1) (.slice ba bn bc) (gi ++ gr)) ∧ Below wr.heap.size wr wx ∧ bn + 1 = m)
      case first =>
        refine wp_abs (fun a0 => a0.tmps.size = 81 ∧ (∀ h, a0.tmps[2]'h = .pointer (some ⟨w.heap.size, 0, none⟩)) ∧ (∀ h, a0.tmps[6]'h = .int .i64 (kk : Int))) ⟨rfl, fun _ => rfl, fun _ => by subst hkk; rfl⟩ ?_
        rintro a0 ⟨hsz, s2, s6⟩ ha0
        refine wp_region_held (S := fun W => Below wr.heap.size wr W) (by kernel_rfl) ?_
        have hS0 : Below wr.heap.size wr wr.drew := (Below.refl _ _).drew
        refine h_take (i := 0) (arV z (.slice (some ⟨ga, off, none⟩) m vc)) rfl (by kernel_rfl) (by kernel_rfl) (by kernel_rfl) (fun _ _ _ h => h) rfl hS0 (fun W hW => by obtain ⟨⟨zb, x0, x1⟩, _⟩ := boxC (HBX.out W hW); simp [execOp, go_sem, Act.put, hsz, s2, s6, x0, x1, zb]) ?_
        refine h_take (i := 1) (.pointer (some ⟨w.heap.size, 1, none⟩)) rfl (by kernel_rfl) (by kernel_rfl) (by kernel_rfl) (fun _ _ _ h => h) rfl hS0 (fun W hW => by simp [execOp, go_sem, Act.put, hsz, s2, s6]) ?_
        refine h_take (i := 2) (.slice (some ⟨ga, off, none⟩) m vc) rfl (by kernel_rfl) (by kernel_rfl) (by kernel_rfl) (fun _ _ _ h => h) rfl hS0 (fun W hW => by obtain ⟨⟨zb, x0, x1⟩, _⟩ := boxC (HBX.out W hW); simp [execOp, go_sem, Act.put, hsz, s2, s6, x0, x1, zb]) ?_
        refine h_take (i := 3) (.int .i64 (kk : Int)) rfl (by kernel_rfl) (by kernel_rfl) (by kernel_rfl) (fun _ _ _ h => h) rfl hS0 (fun W hW => by simp [execOp, go_sem, Act.put, hsz, s2, s6]) ?_
        refine h_take (i := 4) (.pointer (some ⟨ga, off + kk * 2, none⟩)) rfl (by kernel_rfl) (by kernel_rfl) (by kernel_rfl) (fun _ _ _ h => h) rfl hS0 (fun W hW => by simp [execOp, go_sem, Act.put, hsz, s2, s6, hkm]) ?_
        refine h_take (i := 5) (.pointer (some ⟨ga, off + kk * 2, none⟩)) rfl (by kernel_rfl) (by kernel_rfl) (by kernel_rfl) (fun _ _ _ h => h) rfl hS0 (fun W hW => by simp [execOp, go_sem, Act.put, hsz, s2, s6]) ?_
        refine h_take (i := 6) (.int .i64 xp) rfl (by kernel_rfl) (by kernel_rfl) (by kernel_rfl) (fun _ _ _ h => h) rfl hS0 (fun W hW => by have cc := HCE.out W hW; simp [execOp, go_sem, Act.put, hsz, s2, s6, cc]) ?_
        refine h_two 7 11 (by kernel_rfl) ?_ ?_
        · refine o_call 9 #[arV z (.slice (some ⟨ga, off, none⟩) m vc), .int .i64 xp] rfl rfl (by simp [execOp, go_sem, Act.put, hsz, s2, s6]) ((HGU.out _ hS0).mono ?_)
          rintro e u1 ⟨vC, rfl, tC, hb1⟩
          obtain ⟨ba, bc, hve, _, _⟩ := tC.form
          obtain ⟨bn, hbn⟩ : ∃ q, (gi ++ gr).length = q := ⟨_, rfl⟩
          rw [hbn] at hve
          subst hve
          have hbm : bn + 1 = m := by rw [← hbn]; exact HGC.out.2
          have hS1 : Below wr.heap.size wr u1 := bsq hS0 hb1
          refine ⟨_, rfl, hS1, ?_⟩
          refine h_take (i := 8) (.tuple #[arV z (.slice ba bn bc), .int .i64 0]) rfl (by kernel_rfl) (by kernel_rfl) (by kernel_rfl) (fun _ _ _ h => h) rfl hS1 (fun W hW => by simp [execOp, go_sem, Act.put, hsz, s2, s6]) ?_
          refine h_take (i := 9) (arV z (.slice ba bn bc)) rfl (by kernel_rfl) (by kernel_rfl) (by kernel_rfl) (fun _ _ _ h => h) rfl hS1 (fun W hW => by simp [execOp, go_sem, Act.put, hsz, s2, s6]) ?_
          refine h_take (i := 10) (.int .i64 0) rfl (by kernel_rfl) (by kernel_rfl) (by kernel_rfl) (fun _ _ _ h => h) rfl hS1 (fun W hW => by simp [execOp, go_sem, Act.put, hsz, s2, s6]) ?_
          have hX := (MapKept.heap_alloc u1 (arO 0 (.slice none 0 0))).1
          refine h_value (i := 11) (w' := u1.alloc (arO 0 (.slice none 0 0))) (.pointer (some ⟨u1.heap.size, 0, none⟩)) rfl (by kernel_rfl) rfl (by simp [execOp, go_sem, Act.put, hsz, s2, s6]) (bsq hS1 (balloc _ _)) ?_
          have tC2 := tC.below (balloc u1 (arO 0 (.slice none 0 0)))
          obtain ⟨⟨zz, q0, q1⟩, f0, f1⟩ := boxC hX
          obtain ⟨uf, huf, hXf, hBf, hkf, hsf⟩ := put2 (u1.alloc (arO 0 (.slice none 0 0))) u1.heap.size (.int .i64 z) (.slice ba bn bc) hX
          have hSf : Below wr.heap.size wr uf := hBf _ _ (by have := hS1.size; omega) (bsq hS1 (balloc _ _))
          have hne : (Value.slice ba bn bc).ownBlock ≠ some u1.heap.size := box_ne tC2 hX (by decide)
          have hRf : Hid (Sps uf (w.heap.size + 1) (.slice ba bn bc) (gi ++ gr)) := by show Sps _ _ _ _; rw [← huf]; exact Sps.mono (ownsRow_setCell_other (ownsRow_setCell_other tC2 hne _) hne _) (Nat.le_trans hql (Nat.le_refl _))
          refine h_skip (i := 12) (w' := uf) rfl (by kernel_rfl) rfl (by rw [← huf]; simp [execOp, go_sem, Act.put, hsz, s2, s6, zz, q0, q1, f0, f1]) hSf ?_
          refine h_take (i := 13) (.int .i64 0) rfl (by kernel_rfl) (by kernel_rfl) (by kernel_rfl) (fun _ _ _ h => h) rfl hSf (fun W hW => by simp [execOp, go_sem, Act.put, hsz, s2, s6]) ?_
          refine wpAnyH_done (by kernel_rfl) ?_ _
          clear huf q0 q1 f0 f1
          subst ha0
          clear hsz s2 s6
          go_simp
          go_wp2_with fail
          go_meet
          case rel => exact ⟨_, _, _, _, rfl, rfl, hXf, hRf, hSf, hbm⟩
        · refine o_value (w' := wr.drew.alloc (arO 0 (.slice none 0 0))) (.pointer (some ⟨wr.heap.size, 0, none⟩)) rfl rfl (by simp [execOp, go_sem, Act.put, hsz, s2, s6]) ?_
          have hS3 : Below wr.heap.size wr (wr.drew.alloc (arO 0 (.slice none 0 0))) := bsq hS0 (balloc _ _)
          have hql2 : w.heap.size + 1 ≤ (wr.drew.alloc (arO 0 (.slice none 0 0))).heap.size := Nat.le_trans hql hS3.size
          refine ⟨hS3, ?_⟩
          refine wpAnyH_all (rs := [7]) (by kernel_rfl) (by simp) (fun k hk => ?_)
          obtain rfl : k = 7 := by simpa using hk
          refine o_call 9 #[arV z (.slice (some ⟨ga, off, none⟩) m vc), .int .i64 xp] rfl rfl (by simp [execOp, go_sem, Act.put, hsz, s2, s6]) ((HGU.out _ hS3).mono ?_)
          rintro e u1 ⟨vC, rfl, tC, hb1⟩
          obtain ⟨ba, bc, hve, _, _⟩ := tC.form
          obtain ⟨bn, hbn⟩ : ∃ q, (gi ++ gr).length = q := ⟨_, rfl⟩
          rw [hbn] at hve
          subst hve
          have hbm : bn + 1 = m := by rw [← hbn]; exact HGC.out.2
          have hS1 : Below wr.heap.size wr u1 := bsq hS3 hb1
          refine ⟨_, rfl, hS1, ?_⟩
          refine h_take (i := 8) (.tuple #[arV z (.slice ba bn bc), .int .i64 0]) rfl (by kernel_rfl) (by kernel_rfl) (by kernel_rfl) (fun _ _ _ h => h) rfl hS1 (fun W hW => by simp [execOp, go_sem, Act.put, hsz, s2, s6]) ?_
          refine h_take (i := 9) (arV z (.slice ba bn bc)) rfl (by kernel_rfl) (by kernel_rfl) (by kernel_rfl) (fun _ _ _ h => h) rfl hS1 (fun W hW => by simp [execOp, go_sem, Act.put, hsz, s2, s6]) ?_
          refine h_take (i := 10) (.int .i64 0) rfl (by kernel_rfl) (by kernel_rfl) (by kernel_rfl) (fun _ _ _ h => h) rfl hS1 (fun W hW => by simp [execOp, go_sem, Act.put, hsz, s2, s6]) ?_
          have hX : u1.heap[wr.heap.size]? = some (arO 0 (.slice none 0 0)) := keep (MapKept.heap_alloc wr.drew (arO 0 (.slice none 0 0))).1 hb1
          have hql := hql2
          obtain ⟨⟨zz, q0, q1⟩, f0, f1⟩ := boxC hX
          obtain ⟨uf, huf, hXf, hBf, hkf, hsf⟩ := put2 u1 wr.heap.size (.int .i64 z) (.slice ba bn bc) hX
          have hSf : Below wr.heap.size wr uf := hBf _ _ (by have := hS1.size; omega) hS1
          have hne : (Value.slice ba bn bc).ownBlock ≠ some wr.heap.size := box_ne tC hX (by decide)
          have hRf : Hid (Sps uf (w.heap.size + 1) (.slice ba bn bc) (gi ++ gr)) := by show Sps _ _ _ _; rw [← huf]; exact Sps.mono (ownsRow_setCell_other (ownsRow_setCell_other tC hne _) hne _) (Nat.le_trans hql (Nat.le_refl _))
          refine h_skip (i := 12) (w' := uf) rfl (by kernel_rfl) rfl (by rw [← huf]; simp [execOp, go_sem, Act.put, hsz, s2, s6, zz, q0, q1, f0, f1]) hSf ?_
          refine h_take (i := 13) (.int .i64 0) rfl (by kernel_rfl) (by kernel_rfl) (by kernel_rfl) (fun _ _ _ h => h) rfl hSf (fun W hW => by simp [execOp, go_sem, Act.put, hsz, s2, s6]) ?_
          refine wpAnyH_done (by kernel_rfl) ?_ _
          clear huf q0 q1 f0 f1
          subst ha0
          clear hsz s2 s6
          go_simp
          go_wp2_with fail
          go_meet
          case rel => exact ⟨_, _, _, _, rfl, rfl, hXf, hRf, hSf, hbm⟩
      case rest =>
      obtain ⟨Xb, ba, bn, bc, rfl, rfl, hXb, HSb, hbx, hbm⟩ := hcut
      rename World => wx
      have hX2 := HBX.out wx hbx
      obtain ⟨⟨_, i0, i1⟩, _⟩ := boxC hXb
      obtain ⟨⟨hzx, j0, j1⟩, f0, f1⟩ := boxC hX2
      obtain ⟨uf, huf, hXf, hBf, hkf, hsf⟩ := put2 wx w.heap.size (.int .i64 z) (.slice ba bn bc) hX2
      have hne : (Value.slice ba bn bc).ownBlock ≠ some w.heap.size := box_ne HSb.out hX2 (by decide)
      have HQf : Hid (uf.heap[w.heap.size]? = some (arO z (.slice ba bn bc)) ∧ Rss uf (.slice ba bn bc) (gi ++ gr) ∧ Below w.heap.size w uf) := ⟨hXf, by rw [← huf]; exact Sps.rss (B := w.heap.size + 1) (ownsRow_setCell_other (ownsRow_setCell_other HSb.out hne _) hne _), hBf _ _ (Nat.le_refl _) (bsq HQ.out.2.2 hbx)⟩
      have e1 : ((0 : Int) != 0) = false := rfl
      have e2 : (m : Int) - 1 = (bn : Int) := by omega
      have e3 : ((bn : Int) != (bn : Int)) = false := by simp
      have hkn : k + 1 + bn = n := by omega
      have HEND : Hid (∃ (va : Option Addr) (m vc : Nat) (La : List Sp), k + 1 + m = n ∧ uf.heap[w.heap.size]? = some (arO z (.slice va m vc)) ∧ Rss uf (.slice va m vc) La ∧ Below w.heap.size w uf ∧ La.length = m ∧ chk ⟨z, La⟩ = 0) := ⟨ba, bn, bc, gi ++ gr, hkn, HQf.out.1, HQf.out.2.1, HQf.out.2.2, by have := HGC.out.2; omega, HGC.out.1⟩
      clear hXb HSb hbx hX2 hXf hBf hkf hsf hne HBX HCE HGU HQ HQf HGC
      go_wp2
      try rw [huf]
      go_roundw
      case rel => exact ⟨k + 1, by omega, by go_num, HEND.out⟩
      case measure => simp [intOf]; omega
    have hon : k < on := Classical.not_not.1 hon
    have d1 : decide ((k : Int) < (on : Int)) = true := by rw [decide_eq_true_eq]; omega
    obtain ⟨q, hq⟩ : ∃ q, ol[k]? = some q := ⟨_, List.getElem?_eq_getElem (by have := HON.out; omega)⟩
    obtain ⟨og, ooff, rfl, hocell⟩ := HO0.out.at k q hq
    have o0 := hocell wr hbr
    obtain ⟨hq1, hq2⟩ := ho3 q (List.mem_of_getElem? hq)
    by_cases hqp : ¬ q > 0
    · have d2 : decide (q > 0) = false := decide_eq_false hqp
      clear hm hbr hocell hq hqp
      go_upto_region 9 with (fail)
      obtain ⟨kk, hkk⟩ : ∃ kk : Nat, kk = 0 := ⟨_, rfl⟩
      have hkm : kk < m := by omega
      have HQ : Hid (wr.heap[w.heap.size]? = some (arO z (.slice va m vc)) ∧ Rss wr (.slice va m vc) La ∧ Below w.heap.size w wr) := HQr.out
      have hql : w.heap.size + 1 ≤ wr.heap.size := hqr
      clear HQr
      obtain ⟨x, hx⟩ : ∃ x, La[kk]? = some x := ⟨_, List.getElem?_eq_getElem (by have := HM.out; omega)⟩
      obtain ⟨gi, gr, hgc, hgv, hgl⟩ := gone HCH.out hx
      obtain ⟨ga, off, hae, hcell⟩ := HQ.out.2.1.at kk x hx
      subst hae
      obtain ⟨xp, xs⟩ := x
      simp only at hcell hgc hgv
      have HCE : Hid (∀ W, Below wr.heap.size wr W → W.cell? ⟨ga, off + kk * 2, none⟩ = some (.int .i64 xp)) := fun W hW => (hcell W hW).1
      have HBX : Hid (∀ W, Below wr.heap.size wr W → W.heap[w.heap.size]? = some (arO z (.slice (some ⟨ga, off, none⟩) m vc))) := fun W hW => keep HQ.out.1 hW
      have HGU : Hid (∀ u, Below wr.heap.size wr u → Calls Try.prog 9 #[arV z (.slice (some ⟨ga, off, none⟩) m vc), .int .i64 xp] u fun e w' => ∃ v, e = .returned (.tuple #[arV z v, .int .i64 0]) ∧ Sps w' u.heap.size v (gi ++ gr) ∧ Below u.heap.size u w') := fun u hu => by
        have := give_any z (.slice (some ⟨ga, off, none⟩) m vc) La xp u (HQ.out.2.1.below hu) (inr_chk HCH.out)
        rw [hgc, hgv] at this
        exact this
      have HGC : Hid (chk ⟨z, gi ++ gr⟩ = 0 ∧ (gi ++ gr).length + 1 = m) := ⟨by rw [← hgv]; obtain ⟨_, _, _, _, _, _, _, h⟩ := gv_facts hgc; exact h, by rw [hgl]; exact HM.out⟩
      clear hx hgc hgv hgl hcell
      go_cut [7, 8] from 44 to 67 (fun bv ev wx => ∃ (Xb : Nat) (ba : Option Addr) (bn bc : Nat), bv = .pointer (some ⟨Xb, 0, none⟩) ∧ ev = .int .i64 0 ∧ wx.heap[Xb]? = some (arO z (.slice ba bn bc)) ∧ Hid (Sps wx (w.heap.size + 1) (.slice ba bn bc) (gi ++ gr)) ∧ Below wr.heap.size wr wx ∧ bn + 1 = m)
      case first =>
        refine wp_abs (fun a0 => a0.tmps.size = 81 ∧ (∀ h, a0.tmps[2]'h = .pointer (some ⟨w.heap.size, 0, none⟩)) ∧ (∀ h, a0.tmps[6]'h = .int .i64 (kk : Int))) ⟨rfl, fun _ => rfl, fun _ => by subst hkk; rfl⟩ ?_
        rintro a0 ⟨hsz, s2, s6⟩ ha0
        refine wp_region_held (S := fun W => Below wr.heap.size wr W) (by kernel_rfl) ?_
        have hS0 : Below wr.heap.size wr wr.drew := (Below.refl _ _).drew
        refine h_take (i := 0) (arV z (.slice (some ⟨ga, off, none⟩) m vc)) rfl (by kernel_rfl) (by kernel_rfl) (by kernel_rfl) (fun _ _ _ h => h) rfl hS0 (fun W hW => by obtain ⟨⟨zb, x0, x1⟩, _⟩ := boxC (HBX.out W hW); simp [execOp, go_sem, Act.put, hsz, s2, s6, x0, x1, zb]) ?_
        refine h_take (i := 1) (.pointer (some ⟨w.heap.size, 1, none⟩)) rfl (by kernel_rfl) (by kernel_rfl) (by kernel_rfl) (fun _ _ _ h => h) rfl hS0 (fun W hW => by simp [execOp, go_sem, Act.put, hsz, s2, s6]) ?_
        refine h_take (i := 2) (.slice (some ⟨ga, off, none⟩) m vc) rfl (by kernel_rfl) (by kernel_rfl) (by kernel_rfl) (fun _ _ _ h => h) rfl hS0 (fun W hW => by obtain ⟨⟨zb, x0, x1⟩, _⟩ := boxC (HBX.out W hW); simp [execOp, go_sem, Act.put, hsz, s2, s6, x0, x1, zb]) ?_
        refine h_take (i := 3) (.int .i64 (kk : Int)) rfl (by kernel_rfl) (by kernel_rfl) (by kernel_rfl) (fun _ _ _ h => h) rfl hS0 (fun W hW => by simp [execOp, go_sem, Act.put, hsz, s2, s6]) ?_
        refine h_take (i := 4) (.pointer (some ⟨ga, off + kk * 2, none⟩)) rfl (by kernel_rfl) (by kernel_rfl) (by kernel_rfl) (fun _ _ _ h => h) rfl hS0 (fun W hW => by simp [execOp, go_sem, Act.put, hsz, s2, s6, hkm]) ?_
        refine h_take (i := 5) (.pointer (some ⟨ga, off + kk * 2, none⟩)) rfl (by kernel_rfl) (by kernel_rfl) (by kernel_rfl) (fun _ _ _ h => h) rfl hS0 (fun W hW => by simp [execOp, go_sem, Act.put, hsz, s2, s6]) ?_
        refine h_take (i := 6) (.int .i64 xp) rfl (by kernel_rfl) (by kernel_rfl) (by kernel_rfl) (fun _ _ _ h => h) rfl hS0 (fun W hW => by have cc := HCE.out W hW; simp [execOp, go_sem, Act.put, hsz, s2, s6, cc]) ?_
        refine h_two 7 11 (by kernel_rfl) ?_ ?_
        · refine o_call 9 #[arV z (.slice (some ⟨ga, off, none⟩) m vc), .int .i64 xp] rfl rfl (by simp [execOp, go_sem, Act.put, hsz, s2, s6]) ((HGU.out _ hS0).mono ?_)
          rintro e u1 ⟨vC, rfl, tC, hb1⟩
          obtain ⟨ba, bc, hve, _, _⟩ := tC.form
          obtain ⟨bn, hbn⟩ : ∃ q, (gi ++ gr).length = q := ⟨_, rfl⟩
          rw [hbn] at hve
          subst hve
          have hbm : bn + 1 = m := by rw [← hbn]; exact HGC.out.2
          have hS1 : Below wr.heap.size wr u1 := bsq hS0 hb1
          refine ⟨_, rfl, hS1, ?_⟩
          refine h_take (i := 8) (.tuple #[arV z (.slice ba bn bc), .int .i64 0]) rfl (by kernel_rfl) (by kernel_rfl) (by kernel_rfl) (fun _ _ _ h => h) rfl hS1 (fun W hW => by simp [execOp, go_sem, Act.put, hsz, s2, s6]) ?_
          refine h_take (i := 9) (arV z (.slice ba bn bc)) rfl (by kernel_rfl) (by kernel_rfl) (by kernel_rfl) (fun _ _ _ h => h) rfl hS1 (fun W hW => by simp [execOp, go_sem, Act.put, hsz, s2, s6]) ?_
          refine h_take (i := 10) (.int .i64 0) rfl (by kernel_rfl) (by kernel_rfl) (by kernel_rfl) (fun _ _ _ h => h) rfl hS1 (fun W hW => by simp [execOp, go_sem, Act.put, hsz, s2, s6]) ?_
          have hX := (MapKept.heap_alloc u1 (arO 0 (.slice none 0 0))).1
          refine h_value (i := 11) (w' := u1.alloc (arO 0 (.slice none 0 0))) (.pointer (some ⟨u1.heap.size, 0, none⟩)) rfl (by kernel_rfl) rfl (by simp [execOp, go_sem, Act.put, hsz, s2, s6]) (bsq hS1 (balloc _ _)) ?_
          have tC2 := tC.below (balloc u1 (arO 0 (.slice none 0 0)))
          obtain ⟨⟨zz, q0, q1⟩, f0, f1⟩ := boxC hX
          obtain ⟨uf, huf, hXf, hBf, hkf, hsf⟩ := put2 (u1.alloc (arO 0 (.slice none 0 0))) u1.heap.size (.int .i64 z) (.slice ba bn bc) hX
          have hSf : Below wr.heap.size wr uf := hBf _ _ (by have := hS1.size; omega) (bsq hS1 (balloc _ _))
          have hne : (Value.slice ba bn bc).ownBlock ≠ some u1.heap.size := box_ne tC2 hX (by decide)
          have hRf : Hid (Sps uf (w.heap.size + 1) (.slice ba bn bc) (gi ++ gr)) := by show Sps _ _ _ _; rw [← huf]; exact Sps.mono (ownsRow_setCell_other (ownsRow_setCell_other tC2 hne _) hne _) (Nat.le_trans hql (Nat.le_refl _))
          refine h_skip (i := 12) (w' := uf) rfl (by kernel_rfl) rfl (by rw [← huf]; simp [execOp, go_sem, Act.put, hsz, s2, s6, zz, q0, q1, f0, f1]) hSf ?_
          refine h_take (i := 13) (.int .i64 0) rfl (by kernel_rfl) (by kernel_rfl) (by kernel_rfl) (fun _ _ _ h => h) rfl hSf (fun W hW => by simp [execOp, go_sem, Act.put, hsz, s2, s6]) ?_
          refine wpAnyH_done (by kernel_rfl) ?_ _
          clear huf q0 q1 f0 f1
          subst ha0
          clear hsz s2 s6
          go_simp
          go_wp2_with fail
          go_meet
          case rel => exact ⟨_, _, _, _, rfl, rfl, hXf, hRf, hSf, hbm⟩
        · refine o_value (w' := wr.drew.alloc (arO 0 (.slice none 0 0))) (.pointer (some ⟨wr.heap.size, 0, none⟩)) rfl rfl (by simp [execOp, go_sem, Act.put, hsz, s2, s6]) ?_
          have hS3 : Below wr.heap.size wr (wr.drew.alloc (arO 0 (.slice none 0 0))) := bsq hS0 (balloc _ _)
          have hql2 : w.heap.size + 1 ≤ (wr.drew.alloc (arO 0 (.slice none 0 0))).heap.size := Nat.le_trans hql hS3.size
          refine ⟨hS3, ?_⟩
          refine wpAnyH_all (rs := [7]) (by kernel_rfl) (by simp) (fun k hk => ?_)
          obtain rfl : k = 7 := by simpa using hk
          refine o_call 9 #[arV z (.slice (some ⟨ga, off, none⟩) m vc), .int .i64 xp] rfl rfl (by simp [execOp, go_sem, Act.put, hsz, s2, s6]) ((HGU.out _ hS3).mono ?_)
          rintro e u1 ⟨vC, rfl, tC, hb1⟩
          obtain ⟨ba, bc, hve, _, _⟩ := tC.form
          obtain ⟨bn, hbn⟩ : ∃ q, (gi ++ gr).length = q := ⟨_, rfl⟩
          rw [hbn] at hve
          subst hve
          have hbm : bn + 1 = m := by rw [← hbn]; exact HGC.out.2
          have hS1 : Below wr.heap.size wr u1 := bsq hS3 hb1
          refine ⟨_, rfl, hS1, ?_⟩
          refine h_take (i := 8) (.tuple #[arV z (.slice ba bn bc), .int .i64 0]) rfl (by kernel_rfl) (by kernel_rfl) (by kernel_rfl) (fun _ _ _ h => h) rfl hS1 (fun W hW => by simp [execOp, go_sem, Act.put, hsz, s2, s6]) ?_
          refine h_take (i := 9) (arV z (.slice ba bn bc)) rfl (by kernel_rfl) (by kernel_rfl) (by kernel_rfl) (fun _ _ _ h => h) rfl hS1 (fun W hW => by simp [execOp, go_sem, Act.put, hsz, s2, s6]) ?_
          refine h_take (i := 10) (.int .i64 0) rfl (by kernel_rfl) (by kernel_rfl) (by kernel_rfl) (fun _ _ _ h => h) rfl hS1 (fun W hW => by simp [execOp, go_sem, Act.put, hsz, s2, s6]) ?_
          have hX : u1.heap[wr.heap.size]? = some (arO 0 (.slice none 0 0)) := keep (MapKept.heap_alloc wr.drew (arO 0 (.slice none 0 0))).1 hb1
          have hql := hql2
          obtain ⟨⟨zz, q0, q1⟩, f0, f1⟩ := boxC hX
          obtain ⟨uf, huf, hXf, hBf, hkf, hsf⟩ := put2 u1 wr.heap.size (.int .i64 z) (.slice ba bn bc) hX
          have hSf : Below wr.heap.size wr uf := hBf _ _ (by have := hS1.size; omega) hS1
          have hne : (Value.slice ba bn bc).ownBlock ≠ some wr.heap.size := box_ne tC hX (by decide)
          have hRf : Hid (Sps uf (w.heap.size + 1) (.slice ba bn bc) (gi ++ gr)) := by show Sps _ _ _ _; rw [← huf]; exact Sps.mono (ownsRow_setCell_other (ownsRow_setCell_other tC hne _) hne _) (Nat.le_trans hql (Nat.le_refl _))
          refine h_skip (i := 12) (w' := uf) rfl (by kernel_rfl) rfl (by rw [← huf]; simp [execOp, go_sem, Act.put, hsz, s2, s6, zz, q0, q1, f0, f1]) hSf ?_
          refine h_take (i := 13) (.int .i64 0) rfl (by kernel_rfl) (by kernel_rfl) (by kernel_rfl) (fun _ _ _ h => h) rfl hSf (fun W hW => by simp [execOp, go_sem, Act.put, hsz, s2, s6]) ?_
          refine wpAnyH_done (by kernel_rfl) ?_ _
          clear huf q0 q1 f0 f1
          subst ha0
          clear hsz s2 s6
          go_simp
          go_wp2_with fail
          go_meet
          case rel => exact ⟨_, _, _, _, rfl, rfl, hXf, hRf, hSf, hbm⟩
      case rest =>
      obtain ⟨Xb, ba, bn, bc, rfl, rfl, hXb, HSb, hbx, hbm⟩ := hcut
      rename World => wx
      have hX2 := HBX.out wx hbx
      obtain ⟨⟨_, i0, i1⟩, _⟩ := boxC hXb
      obtain ⟨⟨hzx, j0, j1⟩, f0, f1⟩ := boxC hX2
      obtain ⟨uf, huf, hXf, hBf, hkf, hsf⟩ := put2 wx w.heap.size (.int .i64 z) (.slice ba bn bc) hX2
      have hne : (Value.slice ba bn bc).ownBlock ≠ some w.heap.size := box_ne HSb.out hX2 (by decide)
      have HQf : Hid (uf.heap[w.heap.size]? = some (arO z (.slice ba bn bc)) ∧ Rss uf (.slice ba bn bc) (gi ++ gr) ∧ Below w.heap.size w uf) := ⟨hXf, by rw [← huf]; exact Sps.rss (B := w.heap.size + 1) (ownsRow_setCell_other (ownsRow_setCell_other HSb.out hne _) hne _), hBf _ _ (Nat.le_refl _) (bsq HQ.out.2.2 hbx)⟩
      have e1 : ((0 : Int) != 0) = false := rfl
      have e2 : (m : Int) - 1 = (bn : Int) := by omega
      have e3 : ((bn : Int) != (bn : Int)) = false := by simp
      have hkn : k + 1 + bn = n := by omega
      have HEND : Hid (∃ (va : Option Addr) (m vc : Nat) (La : List Sp), k + 1 + m = n ∧ uf.heap[w.heap.size]? = some (arO z (.slice va m vc)) ∧ Rss uf (.slice va m vc) La ∧ Below w.heap.size w uf ∧ La.length = m ∧ chk ⟨z, La⟩ = 0) := ⟨ba, bn, bc, gi ++ gr, hkn, HQf.out.1, HQf.out.2.1, HQf.out.2.2, by have := HGC.out.2; omega, HGC.out.1⟩
      clear hXb HSb hbx hX2 hXf hBf hkf hsf hne HBX HCE HGU HQ HQf HGC
      go_wp2
      try rw [huf]
      go_roundw
      case rel => exact ⟨k + 1, by omega, by go_num, HEND.out⟩
      case measure => simp [intOf]; omega
    have hqp : q > 0 := Classical.not_not.1 hqp
    have d2 : decide (q > 0) = true := decide_eq_true hqp
    obtain ⟨kk, hkk⟩ : ∃ kk : Nat, q.tmod (m : Int) = (kk : Int) := ⟨(q.tmod (m : Int)).toNat, by
      have := Int.tmod_nonneg (b := (m : Int)) (a := q) (by omega)
      omega⟩
    have hkm : kk < m := by
      have h1 : q.tmod (m : Int) = q % (m : Int) := Int.tmod_eq_emod_of_nonneg (by omega)
      have h2 := Int.emod_lt_of_pos q (show (0 : Int) < (m : Int) by omega)
      omega
    have hm0 : ((m : Int) == 0) = false := by rw [beq_eq_false_iff_ne]; omega
    have hwk : IntKind.i64.wrap ((kk : Int)) = (kk : Int) := by rw [IntKind.wrap_i64]; omega
    clear hm hbr hocell hq
    go_upto_region 8 with (fail)
    go_region
    go_upto_region 9 with (fail)
    obtain ⟨wq, hwq⟩ : ∃ wq, wr.drew = wq := ⟨_, rfl⟩
    have HQ : Hid (wq.heap[w.heap.size]? = some (arO z (.slice va m vc)) ∧ Rss wq (.slice va m vc) La ∧ Below w.heap.size w wq) := by rw [← hwq]; exact ⟨HQr.out.1, HQr.out.2.1.below (Below.refl _ _).drew, HQr.out.2.2.drew⟩
    have hql : w.heap.size + 1 ≤ wq.heap.size := by rw [← hwq]; exact hqr
    try rw [hwq]
    clear HQr hwq
    obtain ⟨x, hx⟩ : ∃ x, La[kk]? = some x := ⟨_, List.getElem?_eq_getElem (by have := HM.out; omega)⟩
    obtain ⟨gi, gr, hgc, hgv, hgl⟩ := gone HCH.out hx
    obtain ⟨ga, off, hae, hcell⟩ := HQ.out.2.1.at kk x hx
    subst hae
    obtain ⟨xp, xs⟩ := x
    simp only at hcell hgc hgv
    have HCE : Hid (∀ W, Below wq.heap.size wq W → W.cell? ⟨ga, off + kk * 2, none⟩ = some (.int .i64 xp)) := fun W hW => (hcell W hW).1
    have HBX : Hid (∀ W, Below wq.heap.size wq W → W.heap[w.heap.size]? = some (arO z (.slice (some ⟨ga, off, none⟩) m vc))) := fun W hW => keep HQ.out.1 hW
    have HGU : Hid (∀ u, Below wq.heap.size wq u → Calls Try.prog 9 #[arV z (.slice (some ⟨ga, off, none⟩) m vc), .int .i64 xp] u fun e w' => ∃ v, e = .returned (.tuple #[arV z v, .int .i64 0]) ∧ Sps w' u.heap.size v (gi ++ gr) ∧ Below u.heap.size u w') := fun u hu => by
      have := give_any z (.slice (some ⟨ga, off, none⟩) m vc) La xp u (HQ.out.2.1.below hu) (inr_chk HCH.out)
      rw [hgc, hgv] at this
      exact this
    have HGC : Hid (chk ⟨z, gi ++ gr⟩ = 0 ∧ (gi ++ gr).length + 1 = m) := ⟨by rw [← hgv]; obtain ⟨_, _, _, _, _, _, _, h⟩ := gv_facts hgc; exact h, by rw [hgl]; exact HM.out⟩
    clear hx hgc hgv hgl hcell
    go_cut [7, 8] from 44 to 67 (fun bv ev wx => ∃ (Xb : Nat) (ba : Option Addr) (bn bc : Nat), bv = .pointer (some ⟨Xb, 0, none⟩) ∧ ev = .int .i64 0 ∧ wx.heap[Xb]? = some (arO z (.slice ba bn bc)) ∧ Hid (Sps wx (w.heap.size + 1) (.slice ba bn bc) (gi ++ gr)) ∧ Below wq.heap.size wq wx ∧ bn + 1 = m)
    case first =>
      refine wp_abs (fun a0 => a0.tmps.size = 81 ∧ (∀ h, a0.tmps[2]'h = .pointer (some ⟨w.heap.size, 0, none⟩)) ∧ (∀ h, a0.tmps[6]'h = .int .i64 (kk : Int))) ⟨rfl, fun _ => rfl, fun _ => rfl⟩ ?_
      rintro a0 ⟨hsz, s2, s6⟩ ha0
      refine wp_region_held (S := fun W => Below wq.heap.size wq W) (by kernel_rfl) ?_
      have hS0 : Below wq.heap.size wq wq.drew := (Below.refl _ _).drew
      refine h_take (i := 0) (arV z (.slice (some ⟨ga, off, none⟩) m vc)) rfl (by kernel_rfl) (by kernel_rfl) (by kernel_rfl) (fun _ _ _ h => h) rfl hS0 (fun W hW => by obtain ⟨⟨zb, x0, x1⟩, _⟩ := boxC (HBX.out W hW); simp [execOp, go_sem, Act.put, hsz, s2, s6, x0, x1, zb]) ?_
      refine h_take (i := 1) (.pointer (some ⟨w.heap.size, 1, none⟩)) rfl (by kernel_rfl) (by kernel_rfl) (by kernel_rfl) (fun _ _ _ h => h) rfl hS0 (fun W hW => by simp [execOp, go_sem, Act.put, hsz, s2, s6]) ?_
      refine h_take (i := 2) (.slice (some ⟨ga, off, none⟩) m vc) rfl (by kernel_rfl) (by kernel_rfl) (by kernel_rfl) (fun _ _ _ h => h) rfl hS0 (fun W hW => by obtain ⟨⟨zb, x0, x1⟩, _⟩ := boxC (HBX.out W hW); simp [execOp, go_sem, Act.put, hsz, s2, s6, x0, x1, zb]) ?_
      refine h_take (i := 3) (.int .i64 (kk : Int)) rfl (by kernel_rfl) (by kernel_rfl) (by kernel_rfl) (fun _ _ _ h => h) rfl hS0 (fun W hW => by simp [execOp, go_sem, Act.put, hsz, s2, s6]) ?_
      refine h_take (i := 4) (.pointer (some ⟨ga, off + kk * 2, none⟩)) rfl (by kernel_rfl) (by kernel_rfl) (by kernel_rfl) (fun _ _ _ h => h) rfl hS0 (fun W hW => by simp [execOp, go_sem, Act.put, hsz, s2, s6, hkm]) ?_
      refine h_take (i := 5) (.pointer (some ⟨ga, off + kk * 2, none⟩)) rfl (by kernel_rfl) (by kernel_rfl) (by kernel_rfl) (fun _ _ _ h => h) rfl hS0 (fun W hW => by simp [execOp, go_sem, Act.put, hsz, s2, s6]) ?_
      refine h_take (i := 6) (.int .i64 xp) rfl (by kernel_rfl) (by kernel_rfl) (by kernel_rfl) (fun _ _ _ h => h) rfl hS0 (fun W hW => by have cc := HCE.out W hW; simp [execOp, go_sem, Act.put, hsz, s2, s6, cc]) ?_
      refine h_two 7 11 (by kernel_rfl) ?_ ?_
      · refine o_call 9 #[arV z (.slice (some ⟨ga, off, none⟩) m vc), .int .i64 xp] rfl rfl (by simp [execOp, go_sem, Act.put, hsz, s2, s6]) ((HGU.out _ hS0).mono ?_)
        rintro e u1 ⟨vC, rfl, tC, hb1⟩
        obtain ⟨ba, bc, hve, _, _⟩ := tC.form
        obtain ⟨bn, hbn⟩ : ∃ q, (gi ++ gr).length = q := ⟨_, rfl⟩
        rw [hbn] at hve
        subst hve
        have hbm : bn + 1 = m := by rw [← hbn]; exact HGC.out.2
        have hS1 : Below wq.heap.size wq u1 := bsq hS0 hb1
        refine ⟨_, rfl, hS1, ?_⟩
        refine h_take (i := 8) (.tuple #[arV z (.slice ba bn bc), .int .i64 0]) rfl (by kernel_rfl) (by kernel_rfl) (by kernel_rfl) (fun _ _ _ h => h) rfl hS1 (fun W hW => by simp [execOp, go_sem, Act.put, hsz, s2, s6]) ?_
        refine h_take (i := 9) (arV z (.slice ba bn bc)) rfl (by kernel_rfl) (by kernel_rfl) (by kernel_rfl) (fun _ _ _ h => h) rfl hS1 (fun W hW => by simp [execOp, go_sem, Act.put, hsz, s2, s6]) ?_
        refine h_take (i := 10) (.int .i64 0) rfl (by kernel_rfl) (by kernel_rfl) (by kernel_rfl) (fun _ _ _ h => h) rfl hS1 (fun W hW => by simp [execOp, go_sem, Act.put, hsz, s2, s6]) ?_
        have hX := (MapKept.heap_alloc u1 (arO 0 (.slice none 0 0))).1
        refine h_value (i := 11) (w' := u1.alloc (arO 0 (.slice none 0 0))) (.pointer (some ⟨u1.heap.size, 0, none⟩)) rfl (by kernel_rfl) rfl (by simp [execOp, go_sem, Act.put, hsz, s2, s6]) (bsq hS1 (balloc _ _)) ?_
        have tC2 := tC.below (balloc u1 (arO 0 (.slice none 0 0)))
        obtain ⟨⟨zz, q0, q1⟩, f0, f1⟩ := boxC hX
        obtain ⟨uf, huf, hXf, hBf, hkf, hsf⟩ := put2 (u1.alloc (arO 0 (.slice none 0 0))) u1.heap.size (.int .i64 z) (.slice ba bn bc) hX
        have hSf : Below wq.heap.size wq uf := hBf _ _ (by have := hS1.size; omega) (bsq hS1 (balloc _ _))
        have hne : (Value.slice ba bn bc).ownBlock ≠ some u1.heap.size := box_ne tC2 hX (by decide)
        have hRf : Hid (Sps uf (w.heap.size + 1) (.slice ba bn bc) (gi ++ gr)) := by show Sps _ _ _ _; rw [← huf]; exact Sps.mono (ownsRow_setCell_other (ownsRow_setCell_other tC2 hne _) hne _) (Nat.le_trans hql (Nat.le_refl _))
        refine h_skip (i := 12) (w' := uf) rfl (by kernel_rfl) rfl (by rw [← huf]; simp [execOp, go_sem, Act.put, hsz, s2, s6, zz, q0, q1, f0, f1]) hSf ?_
        refine h_take (i := 13) (.int .i64 0) rfl (by kernel_rfl) (by kernel_rfl) (by kernel_rfl) (fun _ _ _ h => h) rfl hSf (fun W hW => by simp [execOp, go_sem, Act.put, hsz, s2, s6]) ?_
        refine wpAnyH_done (by kernel_rfl) ?_ _
        clear huf q0 q1 f0 f1
        subst ha0
        clear hsz s2 s6
        go_simp
        go_wp2_with fail
        go_meet
        case rel => exact ⟨_, _, _, _, rfl, rfl, hXf, hRf, hSf, hbm⟩
      · refine o_value (w' := wq.drew.alloc (arO 0 (.slice none 0 0))) (.pointer (some ⟨wq.heap.size, 0, none⟩)) rfl rfl (by simp [execOp, go_sem, Act.put, hsz, s2, s6]) ?_
        have hS3 : Below wq.heap.size wq (wq.drew.alloc (arO 0 (.slice none 0 0))) := bsq hS0 (balloc _ _)
        have hql2 : w.heap.size + 1 ≤ (wq.drew.alloc (arO 0 (.slice none 0 0))).heap.size := Nat.le_trans hql hS3.size
        refine ⟨hS3, ?_⟩
        refine wpAnyH_all (rs := [7]) (by kernel_rfl) (by simp) (fun k hk => ?_)
        obtain rfl : k = 7 := by simpa using hk
        refine o_call 9 #[arV z (.slice (some ⟨ga, off, none⟩) m vc), .int .i64 xp] rfl rfl (by simp [execOp, go_sem, Act.put, hsz, s2, s6]) ((HGU.out _ hS3).mono ?_)
        rintro e u1 ⟨vC, rfl, tC, hb1⟩
        obtain ⟨ba, bc, hve, _, _⟩ := tC.form
        obtain ⟨bn, hbn⟩ : ∃ q, (gi ++ gr).length = q := ⟨_, rfl⟩
        rw [hbn] at hve
        subst hve
        have hbm : bn + 1 = m := by rw [← hbn]; exact HGC.out.2
        have hS1 : Below wq.heap.size wq u1 := bsq hS3 hb1
        refine ⟨_, rfl, hS1, ?_⟩
        refine h_take (i := 8) (.tuple #[arV z (.slice ba bn bc), .int .i64 0]) rfl (by kernel_rfl) (by kernel_rfl) (by kernel_rfl) (fun _ _ _ h => h) rfl hS1 (fun W hW => by simp [execOp, go_sem, Act.put, hsz, s2, s6]) ?_
        refine h_take (i := 9) (arV z (.slice ba bn bc)) rfl (by kernel_rfl) (by kernel_rfl) (by kernel_rfl) (fun _ _ _ h => h) rfl hS1 (fun W hW => by simp [execOp, go_sem, Act.put, hsz, s2, s6]) ?_
        refine h_take (i := 10) (.int .i64 0) rfl (by kernel_rfl) (by kernel_rfl) (by kernel_rfl) (fun _ _ _ h => h) rfl hS1 (fun W hW => by simp [execOp, go_sem, Act.put, hsz, s2, s6]) ?_
        have hX : u1.heap[wq.heap.size]? = some (arO 0 (.slice none 0 0)) := keep (MapKept.heap_alloc wq.drew (arO 0 (.slice none 0 0))).1 hb1
        have hql := hql2
        obtain ⟨⟨zz, q0, q1⟩, f0, f1⟩ := boxC hX
        obtain ⟨uf, huf, hXf, hBf, hkf, hsf⟩ := put2 u1 wq.heap.size (.int .i64 z) (.slice ba bn bc) hX
        have hSf : Below wq.heap.size wq uf := hBf _ _ (by have := hS1.size; omega) hS1
        have hne : (Value.slice ba bn bc).ownBlock ≠ some wq.heap.size := box_ne tC hX (by decide)
        have hRf : Hid (Sps uf (w.heap.size + 1) (.slice ba bn bc) (gi ++ gr)) := by show Sps _ _ _ _; rw [← huf]; exact Sps.mono (ownsRow_setCell_other (ownsRow_setCell_other tC hne _) hne _) (Nat.le_trans hql (Nat.le_refl _))
        refine h_skip (i := 12) (w' := uf) rfl (by kernel_rfl) rfl (by rw [← huf]; simp [execOp, go_sem, Act.put, hsz, s2, s6, zz, q0, q1, f0, f1]) hSf ?_
        refine h_take (i := 13) (.int .i64 0) rfl (by kernel_rfl) (by kernel_rfl) (by kernel_rfl) (fun _ _ _ h => h) rfl hSf (fun W hW => by simp [execOp, go_sem, Act.put, hsz, s2, s6]) ?_
        refine wpAnyH_done (by kernel_rfl) ?_ _
        clear huf q0 q1 f0 f1
        subst ha0
        clear hsz s2 s6
        go_simp
        go_wp2_with fail
        go_meet
        case rel => exact ⟨_, _, _, _, rfl, rfl, hXf, hRf, hSf, hbm⟩
    case rest =>
    obtain ⟨Xb, ba, bn, bc, rfl, rfl, hXb, HSb, hbx, hbm⟩ := hcut
    rename World => wx
    have hX2 := HBX.out wx hbx
    obtain ⟨⟨_, i0, i1⟩, _⟩ := boxC hXb
    obtain ⟨⟨hzx, j0, j1⟩, f0, f1⟩ := boxC hX2
    obtain ⟨uf, huf, hXf, hBf, hkf, hsf⟩ := put2 wx w.heap.size (.int .i64 z) (.slice ba bn bc) hX2
    have hne : (Value.slice ba bn bc).ownBlock ≠ some w.heap.size := box_ne HSb.out hX2 (by decide)
    have HQf : Hid (uf.heap[w.heap.size]? = some (arO z (.slice ba bn bc)) ∧ Rss uf (.slice ba bn bc) (gi ++ gr) ∧ Below w.heap.size w uf) := ⟨hXf, by rw [← huf]; exact Sps.rss (B := w.heap.size + 1) (ownsRow_setCell_other (ownsRow_setCell_other HSb.out hne _) hne _), hBf _ _ (Nat.le_refl _) (bsq HQ.out.2.2 hbx)⟩
    have e1 : ((0 : Int) != 0) = false := rfl
    have e2 : (m : Int) - 1 = (bn : Int) := by omega
    have e3 : ((bn : Int) != (bn : Int)) = false := by simp
    have hkn : k + 1 + bn = n := by omega
    have HEND : Hid (∃ (va : Option Addr) (m vc : Nat) (La : List Sp), k + 1 + m = n ∧ uf.heap[w.heap.size]? = some (arO z (.slice va m vc)) ∧ Rss uf (.slice va m vc) La ∧ Below w.heap.size w uf ∧ La.length = m ∧ chk ⟨z, La⟩ = 0) := ⟨ba, bn, bc, gi ++ gr, hkn, HQf.out.1, HQf.out.2.1, HQf.out.2.2, by have := HGC.out.2; omega, HGC.out.1⟩
    clear hXb HSb hbx hX2 hXf hBf hkf hsf hne HBX HCE HGU HQ HQf HGC
    go_wp2
    try rw [huf]
    go_roundw
    case rel => exact ⟨k + 1, by omega, by go_num, HEND.out⟩
    case measure => simp [intOf]; omega
end Go.Proofs.Ytifebinpjpalhab.arenaAll
