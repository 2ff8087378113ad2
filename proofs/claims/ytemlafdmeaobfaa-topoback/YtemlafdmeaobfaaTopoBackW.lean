/- TopoBack: what was plugged, and is pulled, leaves the tree as it was, and is gone alone. -/
import Derived.Test.YtemlafdmeaobfaaTopK
import Derived.Test.YtemlafdmeaobfaaTopR
import Derived.Test.YtemlafdmeaobfaaTopL
namespace Go.Proofs.Ytemlafdmeaobfaa.topoBack
open Go Go.RowKit Go.Proofs.Ytemlafdmeaobfaa.route Go.Proofs.Ytemlafdmeaobfaa.topo
set_option linter.unusedVariables false
set_option linter.unusedSimpArgs false
set_option maxRecDepth 100000

set_option maxHeartbeats 4000000 in
theorem walk (v : Value) (L : NL) (x : Value) (n : Nd) (W : World) (hp : Rt W v L) (hk : L.length * 48 ≤ reachBytes ∧ ∀ q ∈ L, q.2.1.length * 8 ≤ reachBytes) (hx : Ris W x n.1) (hk1 : n.1.length * 8 ≤ reachBytes) :
    Calls Try.prog 7 #[v, agv (ncl x n)] W fun e w' => e = .returned (.bool true) ∧ Below W.heap.size W w' := by
  have HP : Hid (∀ u, Below W.heap.size W u → Calls Try.prog 14 #[v, agv (ncl x n)] u fun e u' => ∃ v' M, e = .returned (.tuple #[v', .int .i64 (plC (tr L) n)]) ∧ Tt u' u.heap.size v' M ∧ tr M = plT (tr L) n ∧ Below u.heap.size u u') := fun u hb => plug_any v x L n u (hp.below hb) (hx.below hb) (reach48 hk.2)
  have HL : Hid (∀ u, Calls Try.prog 19 #[] u fun e u' => e = .returned (.bool true) ∧ Below u.heap.size u u') := fun u => lives_any u
  have HU : Hid (plC (tr L) n = 0 → ∀ u va M, Below W.heap.size W u → Rt u va M → tr M = plT (tr L) n → Calls Try.prog 17 #[va, x] u fun e u' => ∃ v1 v2 M1 M2, e = .returned (.tuple #[v1, v2, .int .i64 0]) ∧ Tt u' u.heap.size v1 M1 ∧ Tt u' u.heap.size v2 M2 ∧ tr M1 = tr L ∧ tr M2 = [n] ∧ Below u.heap.size u u') := fun hz u va M hb hr hT => by
    obtain ⟨q1, q2⟩ := plC_ok.1 hz
    have eT : plT (tr L) n = ins n (tr L) := by unfold plT; rw [if_pos hz]
    obtain ⟨b1, b2, b3⟩ := pl_back hz
    have := unplug_any va x M n.1 u hr (hx.below hb) (ok48_of (by rw [hT, eT]; exact gd_six (q1.gdi q2)))
    rw [hT, eT] at this
    unfold unL unG at this
    rw [b1, b2, b3, if_pos rfl, if_pos rfl] at this
    exact this
  have HS1 : Hid (∀ u va M, Below W.heap.size W u → Rt u va M → tr M = tr L → Calls Try.prog 16 #[va, v] u fun e u' => e = .returned (.bool true) ∧ Below u.heap.size u u') := fun u va M hb hr hT => by
    have := sameT_any va v M L u hr (hp.below hb)
    rw [decide_eq_true hT] at this
    exact this
  have HS2 : Hid (∀ u va M g, Below W.heap.size W u → Rt u va M → tr M = [n] → u.heap[g]? = some (bv 25 (ncl x n)) → Calls Try.prog 16 #[va, .slice (some ⟨g, 0, none⟩) 1 1] u fun e u' => e = .returned (.bool true) ∧ Below u.heap.size u u') := fun u va M g hb hr hT hg => by
    have hrt : Rt u (.slice (some ⟨g, 0, none⟩) 1 1) [(x, n)] := by
      refine ⟨⟨_, 1, rfl, Nat.le_refl _, by decide, fun _ => ⟨g, 0, rfl, bx_lt hg, fun j y hy => ?_⟩⟩, fun q hq => ?_⟩
      · rw [Nat.zero_add]
        exact bv_cell hg (by simpa [ncs] using hy)
      · rw [List.mem_singleton.1 hq]
        exact hx.below hb
    have := sameT_any va _ M [(x, n)] u hr hrt
    rw [decide_eq_true (show tr M = tr [(x, n)] by rw [hT]; rfl)] at this
    exact this
  have HN : Hid (plC (tr L) n ≠ 0 → plT (tr L) n = []) := plT_no
  obtain ⟨cc, hcc⟩ : ∃ c, plC (tr L) n = c := ⟨_, rfl⟩
  obtain ⟨va, vc, rfl, _, _⟩ := hp.form
  obtain ⟨l, hl⟩ : ∃ l, L.length = l := ⟨_, rfl⟩
  simp only [hcc, hl] at HP HU HS1 HN ⊢
  have G0 : Hid ((ncl x n)[0]? = some x) := rfl
  have hM := Mm.nil W
  clear hp hk hx hk1 hcc hl
  by_cases hz : cc ≠ 0
  · have e1 : (cc != 0) = true := by simpa using hz
    have HE : Hid (plT (tr L) n = []) := HN.out hz
    clear HU HS1 HS2 HN hz
    go_enter Try.func7, Try.ntmps7
    repeat' (first | (go_big_may; first | (refine v_box rfl rfl rfl ?_; intro u xn hN; replace hM := hM.new hN; clear hN) | (refine v_load rfl rfl row_node rfl hM.at0 (Nat.le_refl 4) rfl ?_)) | go_values | go_skip | go_guarded | go_step | go_upon | (simp only [Int.not_lt, Int.not_le] at *; go_simp))
    refine (HP.out _ hM.below).mono ?_
    rintro e u1 ⟨v1, M1, rfl, ht, hT, hb⟩
    replace hM := hM.call hb
    obtain ⟨pa, pc, hv1, _, _⟩ := ht.rt.form
    have hl1 : M1.length = 0 := by rw [← tr_len, hT, HE.out]; rfl
    rw [hl1] at hv1
    subst hv1
    clear hb ht hT HP hl1
    repeat' (first | go_values | go_skip | go_guarded | go_step | go_upon | (simp only [Int.not_lt, Int.not_le] at *; go_simp))
    refine (HL.out _).mono ?_
    rintro e u2 ⟨rfl, hb⟩
    replace hM := hM.call hb
    clear hb
    repeat' (first | go_values | go_skip | go_guarded | go_step | go_upon | (simp only [Int.not_lt, Int.not_le] at *; go_simp))
    refine (HL.out _).mono ?_
    rintro e u3 ⟨rfl, hb⟩
    replace hM := hM.call hb
    clear hb
    repeat' (first | go_values | go_skip | go_guarded | go_step | go_upon | (simp only [Int.not_lt, Int.not_le] at *; go_simp))
    go_ret
    exact ⟨rfl, hM.below⟩
  have hz : cc = 0 := Classical.not_not.1 hz
  subst hz
  have HU2 := HU.out rfl
  have HU3 : Hid (∀ u va M, Below W.heap.size W u → Rt u va M → tr M = plT (tr L) n → Calls Try.prog 17 #[va, x] u fun e u' => ∃ v1 v2 M1 M2, e = .returned (.tuple #[v1, v2, .int .i64 0]) ∧ Tt u' u.heap.size v1 M1 ∧ Tt u' u.heap.size v2 M2 ∧ tr M1 = tr L ∧ tr M2 = [n] ∧ Below u.heap.size u u') := HU2
  have e1 : ((0 : Int) != 0) = false := rfl
  clear HU HU2 HN
  go_enter Try.func7, Try.ntmps7
  repeat' (first | (go_big_may; first | (refine v_box rfl rfl rfl ?_; intro u xn hN; replace hM := hM.new hN; clear hN) | (refine v_load rfl rfl row_node rfl hM.at0 (Nat.le_refl 4) rfl ?_)) | go_values | go_skip | go_guarded | go_step | go_upon | (simp only [Int.not_lt, Int.not_le] at *; go_simp))
  refine (HP.out _ hM.below).mono ?_
  rintro e u1 ⟨v1, M1, rfl, ht, hT, hb⟩
  replace hM := hM.call hb
  have HR1 : Hid (∀ u, Below u1.heap.size u1 u → Rt u v1 M1) := fun u hu => ht.rt.below hu
  have HT1 : Hid (tr M1 = plT (tr L) n) := hT
  clear hb ht hT HP
  repeat' (first | go_values | go_skip | go_guarded | go_step | go_upon | (simp only [Int.not_lt, Int.not_le] at *; go_simp))
  refine (HL.out _).mono ?_
  rintro e u2 ⟨rfl, hb⟩
  replace hM := hM.call hb
  have HR2 : Hid (Rt u2 v1 M1) := HR1.out u2 hb
  clear hb HR1
  repeat' (first | (go_big_may; first | (refine v_get rfl rfl (.inr rfl) rfl hM.at0 G0.out ?_)) | go_values | go_skip | go_guarded | go_step | go_upon | (simp only [Int.not_lt, Int.not_le] at *; go_simp))
  refine (HU3.out _ _ M1 hM.below HR2.out HT1.out).mono ?_
  rintro e u3 ⟨v3, v4, M3, M4, rfl, ht3, ht4, hT3, hT4, hb⟩
  replace hM := hM.call hb
  have HR3 : Hid (Rt u3 v3 M3) := ht3.rt
  have HR4 : Hid (∀ u, Below u3.heap.size u3 u → Rt u v4 M4) := fun u hu => ht4.rt.below hu
  have HT34 : Hid (tr M3 = tr L ∧ tr M4 = [n]) := ⟨hT3, hT4⟩
  clear hb ht3 ht4 hT3 hT4 HR2 HU3
  repeat' (first | go_values | go_skip | go_guarded | go_step | go_upon | (simp only [Int.not_lt, Int.not_le] at *; go_simp))
  refine (HS1.out _ _ M3 hM.below HR3.out HT34.out.1).mono ?_
  rintro e u4 ⟨rfl, hb⟩
  have HB34 : Hid (Below u3.heap.size u3 u4) := hb
  replace hM := hM.call hb
  clear hb
  repeat' (first | (go_big_may; first | (refine v_load rfl rfl row_node rfl hM.at0 (Nat.le_refl 4) rfl ?_) | (refine v_bsn rfl rfl rfl ?_; intro u xb hN; have HB35 : Hid (Below u3.heap.size u3 u) := bsq HB34.out hN.below; replace hM := hM.new hN; clear hN)) | go_values | go_skip | go_guarded | go_step | go_upon | (simp only [Int.not_lt, Int.not_le] at *; go_simp))
  refine (HS2.out _ _ M4 _ hM.below (HR4.out _ HB35.out) HT34.out.2 hM.at0).mono ?_
  rintro e u5 ⟨rfl, hb⟩
  replace hM := hM.call hb
  clear hb
  repeat' (first | go_values | go_skip | go_guarded | go_step | go_upon | (simp only [Int.not_lt, Int.not_le] at *; go_simp))
  go_ret
  exact ⟨rfl, hM.below⟩
end Go.Proofs.Ytemlafdmeaobfaa.topoBack
