/- pipe: what Run answers. -/
import Derived.Test.YtgnffifohdgekaaPipE
namespace Go.Proofs.Ytgnffifohdgekaa.pipe
open Go.RowKit
set_option linter.unusedVariables false
set_option linter.unusedSimpArgs false
set_option maxRecDepth 100000

/-- a slice that reads as these numbers -/
def Ris (w : World) (v : Value) (l : List Int) : Prop :=
  ∃ a c, v = .slice a l.length c ∧ l.length ≤ c ∧ c ≤ maxLen ∧ (0 < l.length → ∃ g off, a = some ⟨g, off, none⟩ ∧ g < w.heap.size ∧ ∀ j x, l[j]? = some x → w.cell? ⟨g, off + j, none⟩ = some (.int .i64 x))
theorem Ris.below {w u : World} {v : Value} {l : List Int} (h : Ris w v l) (hb : Below w.heap.size w u) : Ris u v l := by
  obtain ⟨a, c, hv, h1, h2, h4⟩ := h
  refine ⟨a, c, hv, h1, h2, fun hn => ?_⟩
  obtain ⟨g, off, ha, hg, hc⟩ := h4 hn
  exact ⟨g, off, ha, Nat.lt_of_lt_of_le hg hb.size, fun j x hx => (hb.cell (p := ⟨g, off + j, none⟩) hg).trans (hc j x hx)⟩
/-- a number of it -/
theorem Ris.at {w : World} {a : Option Addr} {n c : Nat} {l : List Int} (h : Ris w (.slice a n c) l) (k : Nat) (x : Int) (hk : l[k]? = some x) : ∃ g off, a = some ⟨g, off, none⟩ ∧ ∀ u, Below w.heap.size w u → u.cell? ⟨g, off + k, none⟩ = some (.int .i64 x) := by
  obtain ⟨a', c', hv, h1, h2, h4⟩ := h
  have hl := (List.getElem?_eq_some_iff.1 hk).1
  obtain ⟨g, off, ha, hg, hc⟩ := h4 (by omega)
  have : a = a' := by injection hv
  exact ⟨g, off, this.trans ha, fun u hu => (hu.cell (p := ⟨g, off + k, none⟩) hg).trans (hc k x hk)⟩
theorem all_drop {F : List Int} {k : Nat} (h : k < F.length) : (F.drop k).all fateB = (fateB F[k] && (F.drop (k + 1)).all fateB) := by
  rw [List.drop_eq_getElem_cons h, List.all_cons]
theorem at_bits (T : List ByteArray) (c : Nat × Nat) : ((atP T c).s = 0 ∨ (atP T c).s = 1) ∧ ((atP T c).q = 0 ∨ (atP T c).q = 1) := by
  show (((c.1 % 2 : Nat) : Int) = 0 ∨ ((c.1 % 2 : Nat) : Int) = 1) ∧ (((c.2 % 2 : Nat) : Int) = 0 ∨ ((c.2 % 2 : Nat) : Int) = 1)
  omega
/-- what CheckFates answers -/
def ckF (F : List Int) : Int := if 1000 < F.length then 2 else if F.all fateB = false then 1 else 0
set_option maxHeartbeats 2000000 in
theorem fates_any (vF : Value) (F : List Int) (w : World) (hF : Ris w vF F) : Calls Try.prog 30 #[vF] w fun e w' => e = .returned (.int .i64 (ckF F)) ∧ w = w' := by
  obtain ⟨fa, fc, hv, _, hfm, _⟩ := id hF
  subst hv
  obtain ⟨fn, hfn⟩ : ∃ n, F.length = n := ⟨_, rfl⟩
  have HFN : Hid (F.length = fn) := hfn
  rw [hfn] at hF ⊢
  have HF : Hid (Ris w (.slice fa fn fc) F) := hF
  have HIF : Hid (∀ (x : Int) (u : World), Calls Try.prog 24 #[.int .i64 x] u fun e w' => e = .returned (.bool (fateB x)) ∧ u = w') := fun x u => isFate_any x u
  obtain ⟨z, hz⟩ : ∃ z, ckF F = z := ⟨_, rfl⟩
  have HZ : Hid ((if 1000 < fn then 2 else if F.all fateB = false then 1 else 0) = z) := by show _ = _; rw [← hz, ← hfn]; rfl
  rw [hz]
  unfold maxLen at hfm
  clear hF hfn hz
  by_cases hf : 1000 < fn
  · have HZ2 : Hid ((2 : Int) = z) := by have := HZ.out; rw [if_pos hf] at this; exact this
    have e1 : decide ((fn : Int) > 1000) = true := by rw [decide_eq_true_eq]; omega
    clear HZ hf
    go_enter Try.func30, Try.ntmps30
    go_wp2
    go_ret
    rw [← HZ2.out]
    exact ⟨rfl, rfl⟩
  have HZ2 : Hid ((if F.all fateB = false then (1 : Int) else 0) = z) := by have := HZ.out; rw [if_neg hf] at this; exact this
  have e1 : decide ((fn : Int) > 1000) = false := by rw [decide_eq_false_iff_not]; omega
  have hfn : fn ≤ 1000 := by omega
  clear hf HZ hfm
  go_enter Try.func30, Try.ntmps30
  go_wp2
  go_loopw [10] (fun i wr => ∃ k : Nat, k ≤ fn ∧ i = .int .i64 (k : Int) ∧ w = wr ∧ Hid ((F.drop k).all fateB = F.all fateB)) (fun i _ => fn - (intOf i).toNat)
  case atStart => exact ⟨0, Nat.zero_le _, rfl, rfl, rfl⟩
  case round =>
    obtain ⟨k, hk, rfl, rfl, HA⟩ := hrel
    by_cases hlt : ¬ k < fn
    · have HAll : Hid (F.all fateB = true) := by have := HA.out; rw [List.drop_eq_nil_of_le (by have := HFN.out; omega)] at this; exact this.symm
      have HZ3 : Hid ((0 : Int) = z) := by have := HZ2.out; rw [HAll.out, if_neg (by decide)] at this; exact this
      clear HA HAll HZ2
      go_wp2
      go_ret
      rw [← HZ3.out]
      exact ⟨rfl, rfl⟩
    · have hlt : k < fn := by omega
      have hkF : k < F.length := by have := HFN.out; omega
      obtain ⟨x, hx⟩ : ∃ x, F[k]? = some x := ⟨F[k], List.getElem?_eq_getElem hkF⟩
      have hxk : F[k] = x := (List.getElem?_eq_some_iff.1 hx).2
      obtain ⟨g, off, rfl, hcell⟩ := HF.out.at k x hx
      have cF := hcell w (Below.refl _ _)
      have HA2 : Hid ((fateB x && (F.drop (k + 1)).all fateB) = F.all fateB) := by have := HA.out; rw [all_drop hkF, hxk] at this; exact this
      have HI : Hid (∀ (u : World), Calls Try.prog 24 #[.int .i64 x] u fun e w' => e = .returned (.bool (fateB x)) ∧ u = w') := HIF.out x
      clear hcell hx hxk hkF HA
      cases hb : fateB x
      · rw [hb] at HI HA2
        have HZ3 : Hid ((1 : Int) = z) := by
          have h0 : F.all fateB = false := by have := HA2.out; rw [Bool.false_and] at this; exact this.symm
          have := HZ2.out; rw [if_pos h0] at this; exact this
        clear HA2 hb HZ2
        go_wp2_with fail
        refine (HI.out _).mono ?_
        rintro e u ⟨rfl, rfl⟩
        go_wp2
        go_ret
        rw [← HZ3.out]
        exact ⟨rfl, rfl⟩
      · rw [hb] at HI HA2
        have HA3 : Hid ((F.drop (k + 1)).all fateB = F.all fateB) := by have := HA2.out; rw [Bool.true_and] at this; exact this
        clear HA2 hb
        go_wp2_with fail
        refine (HI.out _).mono ?_
        rintro e u ⟨rfl, rfl⟩
        go_wp2
        go_roundw
        case rel => exact ⟨k + 1, by omega, by go_num, trivial, HA3.out⟩
        case measure => simp [intOf]; omega
/-- New's pipe in a box of Run's -/
theorem run_bx {w1 u1 : World} {T : List ByteArray} {a : Option Addr} {c : Nat} (ho : Ow (fun g => w1.heap.size ≤ g) u1 (.slice a T.length c) T) (hb : Below w1.heap.size w1 u1) :
    ∃ u2 u3, u1.alloc (ppO 0 0 (.slice none 0 0) (.slice none 0 0)) = u2 ∧ u2.heap[u1.heap.size]? = some (ppO 0 0 (.slice none 0 0) (.slice none 0 0)) ∧ (((u2.setCell ⟨u1.heap.size, 0, none⟩ (.int .i64 0)).setCell ⟨u1.heap.size, 1, none⟩ (.int .i64 0)).setCell ⟨u1.heap.size, 2, none⟩ (.slice a T.length c)).setCell ⟨u1.heap.size, 3, none⟩ (.slice none 0 0) = u3 ∧
      Bx w1.heap.size u1.heap.size (u1.heap.size + 1) u3 ⟨0, 0, T, []⟩ (.slice a T.length c) (.slice none 0 0) ∧ Below u1.heap.size u1 u3 := by
  obtain ⟨u2, hu2, hX2, hb2⟩ := pp_named u1 0 0 (.slice none 0 0) (.slice none 0 0)
  obtain ⟨u3, hu3, hX3, hB3, hk3, hs3⟩ := pp_put u2 u1.heap.size _ _ _ _ 0 0 (.slice a T.length c) (.slice none 0 0) hX2
  have hb3 := hB3 _ _ (Nat.le_refl _) hb2
  have hz := (Array.getElem?_eq_some_iff.1 hX3).1
  refine ⟨u2, u3, hu2, hX2, hu3, ⟨hX3, by omega, ?_, Txs.nil _ _⟩, hb3⟩
  exact (ho.mono (p' := fun g => w1.heap.size ≤ g ∧ g < u1.heap.size + 1 ∧ g ≠ u1.heap.size) fun g hg hlt => ⟨hg, by omega, by omega⟩).kept hb3.size fun g _ hg => hb3.block g hg
theorem rnC_large {T : List ByteArray} {F : List Int} (h : 200 < T.length ∨ 1000 < F.length) : rnC T F = 2 ∧ rnP T F = zP := by
  have h1 : rnC T F = 2 := by
    unfold rnC
    by_cases h2 : 200 < T.length
    · rw [if_pos h2]
    · rw [if_neg h2, if_pos (by omega)]
  exact ⟨h1, by unfold rnP; rw [h1]; rfl⟩
theorem rnC_arg {T : List ByteArray} {F : List Int} (h1 : T.length ≤ 200) (h2 : F.length ≤ 1000) (h : F.all fateB = false) : rnC T F = 1 ∧ rnP T F = zP := by
  have h1 : rnC T F = 1 := by unfold rnC; rw [if_neg (by omega), if_neg (by omega), if_pos h]
  exact ⟨h1, by unfold rnP; rw [h1]; rfl⟩
theorem rnC_ok {T : List ByteArray} {F : List Int} (h1 : T.length ≤ 200) (h2 : F.length ≤ 1000) (h : F.all fateB = true) : rnC T F = 0 ∧ rnP T F = runP ⟨0, 0, T, []⟩ F := by
  have h1 : rnC T F = 0 := by unfold rnC; rw [if_neg (by omega), if_neg (by omega), if_neg (by rw [h]; decide)]
  exact ⟨h1, by unfold rnP; rw [if_pos h1]⟩
theorem rnC_ck {T : List ByteArray} {F : List Int} (h1 : T.length ≤ 200) : rnC T F = ckF F := by
  unfold rnC ckF; rw [if_neg (by omega)]
set_option maxHeartbeats 4000000 in
theorem run_no (a fa : Option Addr) (n c fn fc : Nat) (w : World) (hl : 200 < n) : Calls Try.prog 14 #[.slice a n c, .slice fa fn fc] w (Ans w zP 2) := by
  obtain ⟨w1, hw1, hX1, hb1⟩ := pp_named w 0 0 (.slice none 0 0) (.slice none 0 0)
  have HN : Hid (Calls Try.prog 11 #[.slice a n c] w1 fun e w' => e = .returned (.tuple #[ppV 0 0 (.slice none 0 0) (.slice none 0 0), .int .i64 2]) ∧ Below w1.heap.size w1 w') := new_no a n c w1 hl
  have HX1 : Hid (w1.heap[w.heap.size]? = some (ppO 0 0 (.slice none 0 0) (.slice none 0 0)) ∧ Below w.heap.size w w1) := ⟨hX1, hb1⟩
  clear hX1 hb1 hl
  go_enter Try.func14, Try.ntmps14
  go_wp2_with fail
  refine HN.out.mono ?_
  rintro e u1 ⟨rfl, hb⟩
  obtain ⟨u2, hu2, hX2, hb2⟩ := pp_named u1 0 0 (.slice none 0 0) (.slice none 0 0)
  obtain ⟨u3, hu3, hX3, hB3, hk3, hs3⟩ := pp_put u2 u1.heap.size _ _ _ _ 0 0 (.slice none 0 0) (.slice none 0 0) hX2
  have hb3 := hB3 _ _ (Nat.le_refl _) hb2
  have hR3 := keep (keep HX1.out.1 hb) hb3
  obtain ⟨uf, huf, hXf, hBf, _, _⟩ := pp_put u3 w.heap.size _ _ _ _ 0 0 (.slice none 0 0) (.slice none 0 0) hR3
  obtain ⟨⟨hz, c0, c1, c2, c3⟩, f0, f1, f2, f3⟩ := box4 hX2
  obtain ⟨⟨hz', d0, d1, d2, d3⟩, g0, g1, g2, g3⟩ := box4 hR3
  obtain ⟨⟨zf, x0, x1, x2, x3⟩, _⟩ := box4 hXf
  have HB : Hid (Below w.heap.size w uf) := hBf _ _ (Nat.le_refl _) (bsq HX1.out.2 (bsq hb hb3))
  clear hb hX2 hb2 hX3 hB3 hk3 hs3 hb3 hR3 hXf hBf HX1 HN
  go_wp2
  try rw [huf]
  exact bodyPost_ret (v := .tuple #[ppV 0 0 (.slice none 0 0) (.slice none 0 0), .int .i64 2]) (by simp [results, Try.results14, go_sem, zf, x0, x1, x2, x3]) rfl (Ans.zero 2 HB.out)
set_option maxHeartbeats 8000000 in
theorem run_yes (vT : Value) (T : List ByteArray) (fa : Option Addr) (fc : Nat) (F : List Int) (w : World) (hl : T.length ≤ 200) (hT : Rts w vT T) (hF : Ris w (.slice fa F.length fc) F) : Calls Try.prog 14 #[vT, .slice fa F.length fc] w (Ans w (rnP T F) (rnC T F)) := by
  obtain ⟨w1, hw1, hX1, hb1⟩ := pp_named w 0 0 (.slice none 0 0) (.slice none 0 0)
  have HN : Hid (Calls Try.prog 11 #[vT] w1 fun e w' => ∃ a c, e = .returned (.tuple #[ppV 0 0 (.slice a T.length c) (.slice none 0 0), .int .i64 0]) ∧ Ow (fun g => w1.heap.size ≤ g) w' (.slice a T.length c) T ∧ Below w1.heap.size w1 w') := new_ok vT T w1 (hT.below hb1) hl
  have HX1 : Hid (w1.heap[w.heap.size]? = some (ppO 0 0 (.slice none 0 0) (.slice none 0 0)) ∧ Below w.heap.size w w1) := ⟨hX1, hb1⟩
  obtain ⟨ta, tc, rfl, _, _, _⟩ := hT
  have HTL : Hid (T.length ≤ 200) := hl
  obtain ⟨fn, hfn⟩ : ∃ n, F.length = n := ⟨_, rfl⟩
  have HFN : Hid (F.length = fn) := hfn
  rw [hfn] at hF ⊢
  have HF : Hid (Ris w (.slice fa fn fc) F) := hF
  obtain ⟨tn, htn⟩ : ∃ n, T.length = n := ⟨_, rfl⟩
  rw [htn] at HN ⊢
  have HTN : Hid (T.length = tn) := htn
  clear hX1 hb1 hl hF hfn htn
  obtain ⟨Z, hZ⟩ : ∃ Z, Ans w (rnP T F) (rnC T F) = Z := ⟨_, rfl⟩
  have HZ : Hid (Ans w (rnP T F) (rnC T F) = Z) := hZ
  rw [hZ]
  clear hZ
  go_enter Try.func14, Try.ntmps14
  go_wp2_with fail
  refine HN.out.mono ?_
  rintro e u1 ⟨a, c, rfl, ho, hb⟩
  rw [← HTN.out] at ho
  obtain ⟨u2, u3, hu2, hX2, hu3, hBx, hb3⟩ := run_bx ho hb
  rw [HTN.out] at hu3
  have hR3 := keep (keep HX1.out.1 hb) hb3
  have HB3 : Hid (Below w.heap.size w u3) := bsq HX1.out.2 (bsq hb hb3)
  have HR3 : Hid (u3.heap[w.heap.size]? = some (ppO 0 0 (.slice none 0 0) (.slice none 0 0))) := hR3
  have HBx : Hid (Bx w1.heap.size u1.heap.size (u1.heap.size + 1) u3 ⟨0, 0, T, []⟩ (.slice a tn c) (.slice none 0 0)) := by have := hBx; rw [HTN.out] at this; exact this
  have HSZ : Hid (w.heap.size < w1.heap.size ∧ w1.heap.size ≤ u1.heap.size) := ⟨(Array.getElem?_eq_some_iff.1 HX1.out.1).1, hb.size⟩
  obtain ⟨⟨hz, c0, c1, c2, c3⟩, f0, f1, f2, f3⟩ := box4 hX2
  obtain ⟨⟨hz', d0, d1, d2, d3⟩, g0, g1, g2, g3⟩ := box4 hR3
  clear HN ho hb hX2 hBx hb3 hR3 HX1
  obtain ⟨zc, hzc⟩ : ∃ zc, ckF F = zc := ⟨_, rfl⟩
  have HCK : Hid (Calls Try.prog 30 #[.slice fa fn fc] u3 fun e w' => e = .returned (.int .i64 zc) ∧ u3 = w') := by
    have := fates_any (.slice fa fn fc) F u3 (HF.out.below HB3.out)
    rw [hzc] at this
    exact this
  by_cases hz0 : ¬ zc = 0
  · obtain ⟨uf, huf, hXf, hBf, _, _⟩ := pp_put u3 w.heap.size _ _ _ _ 0 0 (.slice none 0 0) (.slice none 0 0) HR3.out
    obtain ⟨⟨zf, x0, x1, x2, x3⟩, _⟩ := box4 hXf
    have HB : Hid (Z (.returned (.tuple #[ppV 0 0 (.slice none 0 0) (.slice none 0 0), .int .i64 zc])) uf) := by
      show Z _ _
      have h1 := rnC_ck HTL.out (F := F)
      have h2 : rnP T F = zP := by unfold rnP; rw [if_neg (by rw [h1, hzc]; exact hz0)]
      rw [← HZ.out, h1, h2, hzc]
      exact Ans.zero zc (hBf _ _ (Nat.le_refl _) HB3.out)
    have e1 : (zc != 0) = true := by simpa using hz0
    clear hXf hBf hz0 hzc
    go_wp2_with fail
    try rw [hu3]
    refine HCK.out.mono ?_
    rintro e u ⟨rfl, rfl⟩
    go_wp2
    try rw [huf]
    exact bodyPost_ret (v := .tuple #[ppV 0 0 (.slice none 0 0) (.slice none 0 0), .int .i64 zc]) (by simp [results, Try.results14, go_sem, zf, x0, x1, x2, x3]) rfl HB.out
  have hz0 : zc = 0 := Classical.not_not.1 hz0
  subst hz0
  have HZ2 : Hid (Ans w (runP ⟨0, 0, T, []⟩ F) 0 = Z) := by
    have h1 := rnC_ck HTL.out (F := F)
    rw [hzc] at h1
    have := HZ.out
    rw [h1, rnP, if_pos h1] at this
    exact this
  have hfn : fn ≤ 1000 := by
    have := HFN.out
    unfold ckF at hzc
    by_cases h : 1000 < F.length
    · rw [if_pos h] at hzc; cases hzc
    · omega
  clear hzc HZ
  go_wp2_with fail
  try rw [hu3]
  refine HCK.out.mono ?_
  rintro e u ⟨rfl, rfl⟩
  clear hu3 hu2 c0 c1 c2 c3 f0 f1 f2 f3 HCK
  go_wp2
  go_loopw [28] (fun i wr => ∃ (k : Nat) (cc : Nat × Nat) (vL vG : Value), k ≤ fn ∧ i = .int .i64 (k : Int) ∧ Hid (okc T.length cc ∧ Bx w1.heap.size u1.heap.size (u1.heap.size + 1) wr (atP T cc) vL vG ∧ Kp u1.heap.size (u1.heap.size + 1) u3 wr ∧ runP (atP T cc) (F.drop k) = runP ⟨0, 0, T, []⟩ F)) (fun i _ => fn - (intOf i).toNat)
  case atStart => exact ⟨0, (0, 0), _, _, Nat.zero_le _, rfl, okc_zero _, HBx.out, Kp.refl _ _ _, rfl⟩
  case round =>
    obtain ⟨j, cc, vL, vG, hj, rfl, HQ⟩ := hrel
    have HBw : Hid (Below w.heap.size w wr) := HB3.out.trans (HQ.out.2.2.1.below (by have := HSZ.out; omega) (by have := HSZ.out; omega))
    by_cases hlj : ¬ j < fn
    · have hend : runP (atP T cc) [] = runP ⟨0, 0, T, []⟩ F := by have := HQ.out.2.2.2; rw [List.drop_eq_nil_of_le (by have := HFN.out; omega)] at this; exact this
      rw [runP_nil] at hend
      obtain ⟨hR4, hB4, uf, huf, hRf, hA⟩ := HQ.out.2.1.ans HQ.out.2.2.1 HB3.out HR3.out HSZ.out.1 (by have := HSZ.out; omega) (by have := HSZ.out; omega) (by have := HSZ.out; omega) (Nat.le_refl _) 0
      obtain ⟨a5, c5, h5, _⟩ := HQ.out.2.1.left
      obtain ⟨a6, c6, h6, _⟩ := HQ.out.2.1.got.form
      subst h5 h6
      obtain ⟨⟨z4, k0, k1, k2, k3⟩, o0, o1, o2, o3⟩ := box4 hB4
      obtain ⟨⟨z5, r0, r1, r2, r3⟩, m0, m1, m2, m3⟩ := box4 hR4
      obtain ⟨⟨zf, x0, x1, x2, x3⟩, _⟩ := box4 hRf
      have HAn : Hid (Z (.returned (.tuple #[ppV (atP T cc).s (atP T cc).q (.slice a5 (atP T cc).L.length c5) (.slice a6 (atP T cc).G.length c6), .int .i64 0])) uf) := by
        show Z _ _
        rw [← HZ2.out, ← hend]; exact hA
      generalize (atP T cc).L.length = n5 at *
      generalize (atP T cc).G.length = n6 at *
      generalize (atP T cc).s = s5 at *
      generalize (atP T cc).q = q5 at *
      clear hend hR4 hB4 hRf hA HQ HBw HR3 HZ2 HBx
      go_wp2
      try rw [huf]
      exact bodyPost_ret (v := .tuple #[ppV s5 q5 (.slice a5 n5 c5) (.slice a6 n6 c6), .int .i64 0]) (by simp [results, Try.results14, go_sem, zf, x0, x1, x2, x3]) rfl HAn.out
    · have hlj : j < fn := by omega
      have hjF : j < F.length := by have := HFN.out; omega
      obtain ⟨x, hx⟩ : ∃ x, F[j]? = some x := ⟨F[j], List.getElem?_eq_getElem hjF⟩
      have hxj : F[j] = x := (List.getElem?_eq_some_iff.1 hx).2
      obtain ⟨g, off, rfl, hcell⟩ := HF.out.at j x hx
      have cF := hcell wr HBw.out
      have hlG : (atP T cc).G.length ≤ 1000 := by rw [atP_got HQ.out.1]; have := HQ.out.1.2.2; have := HTL.out; omega
      have HSD : Hid (Calls Try.prog 26 #[.pointer (some ⟨u1.heap.size, 0, none⟩), .int .i64 x] wr (BxP w1.heap.size u1.heap.size (u1.heap.size + 1) wr (atP T (cs T.length cc x)))) := by
        have := send_any _ _ _ _ _ _ x wr HQ.out.2.1 hlG (at_bits T cc).1 (at_bits T cc).2
        rw [send_at HQ.out.1] at this
        exact this
      have HNX : Hid (runP (atP T (cs T.length cc x)) (F.drop (j + 1)) = runP ⟨0, 0, T, []⟩ F) := by
        have := HQ.out.2.2.2
        rw [List.drop_eq_getElem_cons hjF, hxj, runP_cons, send_at HQ.out.1] at this
        exact this
      have HOK : Hid (okc T.length (cs T.length cc x) ∧ Kp u1.heap.size (u1.heap.size + 1) u3 wr) := ⟨okc_cs HQ.out.1 x, HQ.out.2.2.1⟩
      clear hcell hx hxj hjF hlG HQ HBw
      go_wp2_with fail
      refine HSD.out.mono ?_
      rintro e u ⟨rfl, v1, v2, hBx2, hK2⟩
      have HE : Hid (okc T.length (cs T.length cc x) ∧ Bx w1.heap.size u1.heap.size (u1.heap.size + 1) u (atP T (cs T.length cc x)) v1 v2 ∧ Kp u1.heap.size (u1.heap.size + 1) u3 u ∧ runP (atP T (cs T.length cc x)) (F.drop (j + 1)) = runP ⟨0, 0, T, []⟩ F) := ⟨HOK.out.1, hBx2, HOK.out.2.trans hK2, HNX.out⟩
      clear hBx2 hK2 HOK HNX HSD
      go_wp2
      go_roundw
      case rel => exact ⟨j + 1, _, _, _, by omega, by go_num, HE.out⟩
      case measure => simp [intOf]; omega
theorem run_any (vT vF : Value) (T : List ByteArray) (F : List Int) (w : World) (hT : Rts w vT T) (hF : Ris w vF F) : Calls Try.prog 14 #[vT, vF] w (Ans w (rnP T F) (rnC T F)) := by
  have hF' := hF
  obtain ⟨fa, fc, rfl, _, _, _⟩ := hF'
  by_cases hl : 200 < T.length
  · obtain ⟨e1, e2⟩ := rnC_large (F := F) (.inl hl)
    rw [e1, e2]
    obtain ⟨a, c, rfl, _, _, _⟩ := hT
    exact run_no a fa _ c _ fc w hl
  · exact run_yes vT T fa fc F w (by omega) hT hF
end Go.Proofs.Ytgnffifohdgekaa.pipe
