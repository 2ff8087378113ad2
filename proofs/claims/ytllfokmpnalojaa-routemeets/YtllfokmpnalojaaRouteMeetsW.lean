/- RouteMeets: P16.4: the walk. -/
import Derived.Test.YtllfokmpnalojaaRouC
import Derived.Test.YtllfokmpnalojaaRouD
import Derived.Test.YtllfokmpnalojaaRouH
import Derived.Test.YtllfokmpnalojaaRouJ
import Derived.Test.YtllfokmpnalojaaRouO
namespace Go.Proofs.Ytllfokmpnalojaa.routeMeets
open Go Go.RowKit Go.Proofs.Ytllfokmpnalojaa.route
set_option linter.unusedVariables false
set_option linter.unusedSimpArgs false
set_option maxRecDepth 100000

theorem odr_bef (a b : List Int) : odr a b = if bef a b = true then -1 else if bef b a = true then 1 else 0 := by
  unfold bef
  have h1 := odr_range a b
  have h2 := odr_neg a b
  simp only [decide_eq_true_eq]
  split
  · omega
  · split <;> omega
theorem lens (a b : List Int) : (a.length : Int) - (com a b : Int) + b.length - com a b = hop a b := by unfold hop; omega
theorem before_b (ps qs : List Int) (v1 v2 : Value) (w : World) (h1 : Ris w v1 ps) (h2 : Ris w v2 qs) :
    Calls Try.prog 13 #[v1, v2] w fun e w' => e = .returned (.bool (bef ps qs)) ∧ Below w.heap.size w w' :=
  (before_any ps qs v1 v2 w h1 h2).mono fun e w' ⟨he, m, hw⟩ => ⟨he, by rw [hw]; exact below_drewN (Below.refl _ _) m⟩
set_option maxHeartbeats 4000000 in
theorem walk (v1 : Value) (l1 : List Int) (v2 : Value) (l2 : List Int) (w : World) (hp1 : Ris w v1 l1) (hp2 : Ris w v2 l2) :
    Calls Try.prog 4 #[v1, v2] w fun e w' => e = .returned (.bool true) ∧ Below w.heap.size w w' := by
  have HP : Hid (Ris w v1 l1) := hp1
  have HQ : Hid (Ris w v2 l2) := hp2
  obtain ⟨a, c, rfl, hlc, hcm⟩ := hp1.form
  obtain ⟨b, d, rfl, hld, hdm⟩ := hp2.form
  have hcl := com_le l1 l2
  have hml := meet_len l1 l2
  have hlens := lens l1 l2
  have hund : und l1 l2 = ((com l1 l2 : Int) == (l2.length : Int)) := by
    unfold und
    rw [Bool.eq_iff_iff, beq_iff_eq, beq_iff_eq]
    omega
  obtain ⟨p, hp⟩ : ∃ p, l1.length = p := ⟨_, rfl⟩
  obtain ⟨q, hq⟩ : ∃ q, l2.length = q := ⟨_, rfl⟩
  have HL1 : Hid (l1.length = p) := hp
  have HL2 : Hid (l2.length = q) := hq
  obtain ⟨m, hm⟩ : ∃ m, com l1 l2 = m := ⟨_, rfl⟩
  have HM : Hid ((meet l1 l2).length = m) := by rw [hm] at hml; exact hml
  rw [hp] at HP hlc ⊢
  rw [hq] at HQ hld ⊢
  rw [hp, hq, hm] at hcl hlens
  rw [hq, hm] at hund
  have HLe : Hid ((p : Int) - m + q - m = hop l1 l2) := hlens
  obtain ⟨t, ht⟩ : ∃ t, ((m : Int) == (q : Int)) = t := ⟨_, rfl⟩
  rw [ht] at hund
  have HU : Hid (und l1 l2 = t) := hund
  have htt : (t == t) = true := by simp
  unfold maxLen at hcm hdm
  clear hp1 hp2 hp hq hm hml hlens hund
  by_cases hl1 : 1000 < p
  · clear HP HQ HL1 HL2 HM HLe HU
    go_enter Try.func4, Try.ntmps4
    go_wp2
    go_ret
    exact ⟨rfl, Below.refl _ _⟩
  by_cases hl2 : 1000 < q
  · clear HP HQ HL1 HL2 HM HLe HU
    go_enter Try.func4, Try.ntmps4
    go_wp2
    go_ret
    exact ⟨rfl, Below.refl _ _⟩
  have hl1 : p ≤ 1000 := by omega
  have hl2 : q ≤ 1000 := by omega
  have HO := odr_bef l1 l2
  have HO : Hid (odr l1 l2 = if bef l1 l2 = true then -1 else if bef l2 l1 = true then 1 else 0) := HO
  go_enter Try.func4, Try.ntmps4
  go_wp2_with fail
  refine (beginning_any _ _ l1 l2 w HP.out HQ.out (by rw [HL1.out]; exact hl1) (by rw [HL2.out]; exact hl2)).mono ?_
  rintro e u1 ⟨vm, rfl, hi, hb⟩
  have H1 : Hid (Below w.heap.size w u1) := hb
  obtain ⟨am, cm, rfl, hlm, hmm⟩ := hi.form
  have HI : Hid (Ris u1 (.slice am m cm) (meet l1 l2)) := by rw [HM.out] at hi; exact hi
  rw [HM.out] at hlm ⊢
  unfold maxLen at hmm
  clear hb hi
  go_wp2_with fail
  refine (before_b l1 l2 _ _ u1 (HP.out.below H1.out) (HQ.out.below H1.out)).mono ?_
  rintro e u2 ⟨rfl, hb⟩
  have H2 : Hid (Below w.heap.size w u2) := bsq H1.out hb
  have HI2 : Hid (Ris u2 (.slice am m cm) (meet l1 l2)) := HI.out.below hb
  clear hb HI
  cases hb1 : bef l1 l2 with
  | true =>
    have HO2 : Hid (odr l1 l2 = -1) := by have := HO.out; rw [hb1, if_pos rfl] at this; exact this
    clear HO
    go_wp2_with fail
    refine (under_any _ _ l1 l2 u2 (HP.out.below H2.out) (HQ.out.below H2.out)).mono ?_
    rintro e u4 ⟨rfl, hb⟩
    have H4 : Hid (Below w.heap.size w u4) := bsq H2.out hb
    have HI4 : Hid (Ris u4 (.slice am m cm) (meet l1 l2)) := HI2.out.below hb
    clear hb
    rw [HU.out]
    go_wp2_with fail
    refine (meet_any _ _ l1 l2 u4 (HP.out.below H4.out) (HQ.out.below H4.out) (by rw [HL1.out]; omega)).mono ?_
    rintro e u5 ⟨v5, rfl, hi, hb⟩
    have H5 : Hid (Below w.heap.size w u5) := bsq H4.out hb
    have HI5 : Hid (Ris u5 (.slice am m cm) (meet l1 l2)) := HI4.out.below hb
    have HJ5 : Hid (Ris u5 v5 (meet l1 l2)) := hi.ris
    clear hi hb
    go_wp2_with fail
    refine (equalI_any _ _ _ _ u5 HJ5.out HI5.out).mono ?_
    rintro e u6 ⟨rfl, hb⟩
    have H6 : Hid (Below w.heap.size w u6) := bsq H5.out hb
    clear hb
    have ed : decide (meet l1 l2 = meet l1 l2) = true := by simp
    rw [ed]
    go_wp2_with fail
    refine (hops_any _ _ l1 l2 u6 (HP.out.below H6.out) (HQ.out.below H6.out) (by rw [HL1.out]; omega) (by rw [HL2.out]; omega)).mono ?_
    rintro e u7 ⟨rfl, hb⟩
    have H7 : Hid (Below w.heap.size w u7) := bsq H6.out hb
    clear hb
    rw [← HLe.out]
    have eh : ((p : Int) - m + q - m == (p : Int) - m + q - m) = true := by simp
    go_wp2_with fail
    refine (order_any _ _ l1 l2 u7 (HP.out.below H7.out) (HQ.out.below H7.out)).mono ?_
    rintro e u8 ⟨rfl, rfl⟩
    rw [HO2.out]
    go_wp2
    go_ret
    exact ⟨rfl, H7.out⟩
  | false =>
    go_wp2_with fail
    refine (before_b l2 l1 _ _ u2 (HQ.out.below H2.out) (HP.out.below H2.out)).mono ?_
    rintro e u3 ⟨rfl, hb⟩
    have H3 : Hid (Below w.heap.size w u3) := bsq H2.out hb
    have HI3 : Hid (Ris u3 (.slice am m cm) (meet l1 l2)) := HI2.out.below hb
    clear hb HI2 H2
    cases hb2 : bef l2 l1 with
    | true =>
      have HO2 : Hid (odr l1 l2 = 1) := by have := HO.out; rw [hb1, hb2, if_neg (by simp), if_pos rfl] at this; exact this
      clear HO
      go_wp2_with fail
      refine (under_any _ _ l1 l2 u3 (HP.out.below H3.out) (HQ.out.below H3.out)).mono ?_
      rintro e u4 ⟨rfl, hb⟩
      have H4 : Hid (Below w.heap.size w u4) := bsq H3.out hb
      have HI4 : Hid (Ris u4 (.slice am m cm) (meet l1 l2)) := HI3.out.below hb
      clear hb
      rw [HU.out]
      go_wp2_with fail
      refine (meet_any _ _ l1 l2 u4 (HP.out.below H4.out) (HQ.out.below H4.out) (by rw [HL1.out]; omega)).mono ?_
      rintro e u5 ⟨v5, rfl, hi, hb⟩
      have H5 : Hid (Below w.heap.size w u5) := bsq H4.out hb
      have HI5 : Hid (Ris u5 (.slice am m cm) (meet l1 l2)) := HI4.out.below hb
      have HJ5 : Hid (Ris u5 v5 (meet l1 l2)) := hi.ris
      clear hi hb
      go_wp2_with fail
      refine (equalI_any _ _ _ _ u5 HJ5.out HI5.out).mono ?_
      rintro e u6 ⟨rfl, hb⟩
      have H6 : Hid (Below w.heap.size w u6) := bsq H5.out hb
      clear hb
      have ed : decide (meet l1 l2 = meet l1 l2) = true := by simp
      rw [ed]
      go_wp2_with fail
      refine (hops_any _ _ l1 l2 u6 (HP.out.below H6.out) (HQ.out.below H6.out) (by rw [HL1.out]; omega) (by rw [HL2.out]; omega)).mono ?_
      rintro e u7 ⟨rfl, hb⟩
      have H7 : Hid (Below w.heap.size w u7) := bsq H6.out hb
      clear hb
      rw [← HLe.out]
      have eh : ((p : Int) - m + q - m == (p : Int) - m + q - m) = true := by simp
      go_wp2_with fail
      refine (order_any _ _ l1 l2 u7 (HP.out.below H7.out) (HQ.out.below H7.out)).mono ?_
      rintro e u8 ⟨rfl, rfl⟩
      rw [HO2.out]
      go_wp2
      go_ret
      exact ⟨rfl, H7.out⟩
    | false =>
      have HO2 : Hid (odr l1 l2 = 0) := by have := HO.out; rw [hb1, hb2, if_neg (by simp), if_neg (by simp)] at this; exact this
      clear HO
      go_wp2_with fail
      refine (under_any _ _ l1 l2 u3 (HP.out.below H3.out) (HQ.out.below H3.out)).mono ?_
      rintro e u4 ⟨rfl, hb⟩
      have H4 : Hid (Below w.heap.size w u4) := bsq H3.out hb
      have HI4 : Hid (Ris u4 (.slice am m cm) (meet l1 l2)) := HI3.out.below hb
      clear hb
      rw [HU.out]
      go_wp2_with fail
      refine (meet_any _ _ l1 l2 u4 (HP.out.below H4.out) (HQ.out.below H4.out) (by rw [HL1.out]; omega)).mono ?_
      rintro e u5 ⟨v5, rfl, hi, hb⟩
      have H5 : Hid (Below w.heap.size w u5) := bsq H4.out hb
      have HI5 : Hid (Ris u5 (.slice am m cm) (meet l1 l2)) := HI4.out.below hb
      have HJ5 : Hid (Ris u5 v5 (meet l1 l2)) := hi.ris
      clear hi hb
      go_wp2_with fail
      refine (equalI_any _ _ _ _ u5 HJ5.out HI5.out).mono ?_
      rintro e u6 ⟨rfl, hb⟩
      have H6 : Hid (Below w.heap.size w u6) := bsq H5.out hb
      clear hb
      have ed : decide (meet l1 l2 = meet l1 l2) = true := by simp
      rw [ed]
      go_wp2_with fail
      refine (hops_any _ _ l1 l2 u6 (HP.out.below H6.out) (HQ.out.below H6.out) (by rw [HL1.out]; omega) (by rw [HL2.out]; omega)).mono ?_
      rintro e u7 ⟨rfl, hb⟩
      have H7 : Hid (Below w.heap.size w u7) := bsq H6.out hb
      clear hb
      rw [← HLe.out]
      have eh : ((p : Int) - m + q - m == (p : Int) - m + q - m) = true := by simp
      go_wp2_with fail
      refine (order_any _ _ l1 l2 u7 (HP.out.below H7.out) (HQ.out.below H7.out)).mono ?_
      rintro e u8 ⟨rfl, rfl⟩
      rw [HO2.out]
      go_wp2
      go_ret
      exact ⟨rfl, H7.out⟩
end Go.Proofs.Ytllfokmpnalojaa.routeMeets
