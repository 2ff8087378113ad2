/- RouteMeet: P16.4: the walk. -/
import Derived.Test.YtllfokmpnalojabDoorRouL
import Derived.Test.YtllfokmpnalojabDoorRouO
namespace Go.Proofs.YtllfokmpnalojabDoor.routeMeet
open Go Go.RowKit Go.Proofs.YtllfokmpnalojabDoor.route
set_option linter.unusedVariables false
set_option linter.unusedSimpArgs false
set_option maxRecDepth 100000

set_option maxHeartbeats 4000000 in
theorem walk (va : Value) (a : List Int) (vb : Value) (b : List Int) (vc : Value) (c : List Int) (w : World) (ha : Ris w va a) (hka : a.length * 8 ≤ reachBytes) (hb : Ris w vb b) (hkb : b.length * 8 ≤ reachBytes) (hc : Ris w vc c) (hkc : c.length * 8 ≤ reachBytes) :
    Calls Tryd.prog 5 #[va, vb, vc] w fun e w' => e = .returned (.bool true) ∧ Below w.heap.size w w' := by
  unfold reachBytes at hka hkb hkc
  have HA : Hid (Ris w va a) := ha
  have HB : Hid (Ris w vb b) := hb
  have HC : Hid (Ris w vc c) := hc
  have LA : Hid (a.length ≤ 17592186048000) := by show a.length ≤ _; omega
  have LB : Hid (b.length ≤ 17592186048000) := by show b.length ≤ _; omega
  have LC : Hid (c.length ≤ 17592186048000) := by show c.length ≤ _; omega
  have e1 : decide (meet a b = meet b a) = true := decide_eq_true (meet_comm a b)
  have e2 := und_meet a b
  have e3 := und_meet' a b
  have E1 : Hid (decide (meet a b = meet b a) = true) := e1
  have E2 : Hid (und a (meet a b) = true) := e2
  have E3 : Hid (und b (meet a b) = true) := e3
  obtain ⟨t, ht⟩ : ∃ t, und (meet a b) c = t := ⟨_, rfl⟩
  have E4 : Hid (und (meet a b) c = t) := ht
  have E5 : Hid ((und a c && und b c) = t) := by rw [← ht]; exact und_both a b c
  have htt : (t == t) = true := by simp
  clear ha hb hc hka hkb hkc e1 e2 e3 ht
  go_enter Tryd.func5, Tryd.ntmps5
  go_wp2_with fail
  refine (meet_any _ _ a b w HA.out HB.out LA.out).mono ?_
  rintro e u1 ⟨v1, rfl, hi, hb⟩
  have H1 : Hid (Below w.heap.size w u1) := hb
  have HM : Hid (Ris u1 v1 (meet a b)) := hi.ris
  clear hb hi
  go_wp2_with fail
  refine (lives_any u1).mono ?_
  rintro e u2 ⟨rfl, hb⟩
  have H2 : Hid (Below w.heap.size w u2) := bsq H1.out hb
  have HM2 : Hid (Ris u2 v1 (meet a b)) := HM.out.below hb
  clear hb HM
  go_wp2_with fail
  refine (meet_any _ _ b a u2 (HB.out.below H2.out) (HA.out.below H2.out) LB.out).mono ?_
  rintro e u3 ⟨v3, rfl, hi, hb⟩
  have H3 : Hid (Below w.heap.size w u3) := bsq H2.out hb
  have HM3 : Hid (Ris u3 v1 (meet a b)) := HM2.out.below hb
  have HN3 : Hid (Ris u3 v3 (meet b a)) := hi.ris
  clear hb HM2 hi
  go_wp2_with fail
  refine (equalI_any _ _ _ _ u3 HM3.out HN3.out).mono ?_
  rintro e u4 ⟨rfl, hb⟩
  have H4 : Hid (Below w.heap.size w u4) := bsq H3.out hb
  have HM4 : Hid (Ris u4 v1 (meet a b)) := HM3.out.below hb
  clear hb HM3 HN3
  rw [E1.out]
  go_wp2_with fail
  refine (under_any _ _ a (meet a b) u4 (HA.out.below H4.out) HM4.out).mono ?_
  rintro e u5 ⟨rfl, hb⟩
  have H5 : Hid (Below w.heap.size w u5) := bsq H4.out hb
  have HM5 : Hid (Ris u5 v1 (meet a b)) := HM4.out.below hb
  clear hb HM4
  rw [E2.out]
  go_wp2_with fail
  refine (under_any _ _ b (meet a b) u5 (HB.out.below H5.out) HM5.out).mono ?_
  rintro e u6 ⟨rfl, hb⟩
  have H6 : Hid (Below w.heap.size w u6) := bsq H5.out hb
  have HM6 : Hid (Ris u6 v1 (meet a b)) := HM5.out.below hb
  clear hb HM5
  rw [E3.out]
  go_wp2_with fail
  refine (under_any _ _ a c u6 (HA.out.below H6.out) (HC.out.below H6.out)).mono ?_
  rintro e u7 ⟨rfl, hb⟩
  have H7 : Hid (Below w.heap.size w u7) := bsq H6.out hb
  have HM7 : Hid (Ris u7 v1 (meet a b)) := HM6.out.below hb
  clear hb HM6
  cases h1 : und a c with
  | false =>
    have ht : t = false := by have := E5.out; rw [h1] at this; exact this.symm
    subst ht
    go_wp2_with fail
    refine (under_any _ _ (meet a b) c u7 HM7.out (HC.out.below H7.out)).mono ?_
    rintro e u8 ⟨rfl, hb⟩
    have H8 : Hid (Below w.heap.size w u8) := bsq H7.out hb
    clear hb
    rw [E4.out]
    go_wp2
    go_ret
    exact ⟨rfl, H8.out⟩
  | true =>
    go_wp2_with fail
    refine (under_any _ _ b c u7 (HB.out.below H7.out) (HC.out.below H7.out)).mono ?_
    rintro e u8 ⟨rfl, hb⟩
    have H8 : Hid (Below w.heap.size w u8) := bsq H7.out hb
    have HM8 : Hid (Ris u8 v1 (meet a b)) := HM7.out.below hb
    clear hb HM7
    have h2 : und b c = t := by have := E5.out; rw [h1] at this; exact this
    rw [h2]
    go_wp2_with fail
    refine (under_any _ _ (meet a b) c u8 HM8.out (HC.out.below H8.out)).mono ?_
    rintro e u9 ⟨rfl, hb⟩
    have H9 : Hid (Below w.heap.size w u9) := bsq H8.out hb
    clear hb
    rw [E4.out]
    go_wp2
    go_ret
    exact ⟨rfl, H9.out⟩
end Go.Proofs.YtllfokmpnalojabDoor.routeMeet
