/- RouteOrder: P16.4: the walk. -/
import Derived.Test.YtllfokmpnalojabDoorRouD
import Derived.Test.YtllfokmpnalojabDoorRouL
import Derived.Test.YtllfokmpnalojabDoorRouO
namespace Go.Proofs.YtllfokmpnalojabDoor.routeOrder
open Go Go.RowKit Go.Proofs.YtllfokmpnalojabDoor.route
set_option linter.unusedVariables false
set_option linter.unusedSimpArgs false
set_option maxRecDepth 100000

theorem zero_is (a b : List Int) : (odr a b == 0) = decide (a = b) := by
  rw [Bool.eq_iff_iff, beq_iff_eq, decide_eq_true_iff]
  exact odr_zero a b
set_option maxHeartbeats 8000000 in
theorem walk (va : Value) (a : List Int) (vb : Value) (b : List Int) (vc : Value) (c : List Int) (w : World) (ha : Ris w va a) (hka : a.length * 8 ≤ reachBytes) (hb : Ris w vb b) (hkb : b.length * 8 ≤ reachBytes) (hc : Ris w vc c) (hkc : c.length * 8 ≤ reachBytes) :
    Calls Tryd.prog 4 #[va, vb, vc] w fun e w' => e = .returned (.bool true) ∧ Below w.heap.size w w' := by
  have HA : Hid (Ris w va a) := ha
  have HB : Hid (Ris w vb b) := hb
  have HC : Hid (Ris w vc c) := hc
  have q1 := odr_neg b a
  have q2 := zero_is a b
  have q3 := odr_trans a b c
  have q4 : und b a = true → odr a b ≤ 0 := fun h => odr_und a b ((und_iff b a).1 h)
  have q5 : und c a = true → odr a b < 0 → odr b c < 0 → und b a = true := fun h h1 h2 => (und_iff b a).2 (odr_between a b c ((und_iff c a).1 h) h1 h2)
  have r1 := odr_range a b
  have r2 := odr_range b c
  have r3 := odr_range a c
  obtain ⟨x, e1⟩ : ∃ x, odr a b = x := ⟨_, rfl⟩
  obtain ⟨y, e2⟩ : ∃ x, odr b c = x := ⟨_, rfl⟩
  obtain ⟨z, e3⟩ : ∃ x, odr a c = x := ⟨_, rfl⟩
  obtain ⟨X, e4⟩ : ∃ x, odr b a = x := ⟨_, rfl⟩
  obtain ⟨t, ht⟩ : ∃ t, decide (a = b) = t := ⟨_, rfl⟩
  obtain ⟨p, hp⟩ : ∃ t, und b a = t := ⟨_, rfl⟩
  obtain ⟨q, hq⟩ : ∃ t, und c a = t := ⟨_, rfl⟩
  rw [e1, e4] at q1
  rw [e1, ht] at q2
  rw [e1, e2, e3] at q3
  rw [e1, hp] at q4
  rw [e1, e2, hp, hq] at q5
  rw [e1] at r1
  rw [e2] at r2
  rw [e3] at r3
  have E1 : Hid (odr a b = x) := e1
  have E2 : Hid (odr b c = y) := e2
  have E3 : Hid (odr a c = z) := e3
  have E4 : Hid (odr b a = X) := e4
  have E5 : Hid (decide (a = b) = t) := ht
  have E6 : Hid (und b a = p) := hp
  have E7 : Hid (und c a = q) := hq
  have hxn : (x != -X) = false := by rw [q1]; simp
  have htt : (t != t) = false := by simp
  have Q3 : Hid (x < 0 → y < 0 → z < 0) := q3
  have Q4 : Hid (p = true → x ≤ 0) := q4
  have Q5 : Hid (q = true → x < 0 → y < 0 → p = true) := q5
  have hXb : -1 ≤ X ∧ X ≤ 1 := by omega
  clear ha hb hc e1 e2 e3 e4 ht hp hq q1 q3 q4 q5 hka hkb hkc
  go_enter Tryd.func4, Tryd.ntmps4
  go_wp2_with fail
  refine (lives_any w).mono ?_
  rintro e u1 ⟨rfl, hb⟩
  have H1 : Hid (Below w.heap.size w u1) := hb
  clear hb
  go_wp2_with fail
  refine (order_any _ _ a b u1 (HA.out.below H1.out) (HB.out.below H1.out)).mono ?_
  rintro e uu ⟨rfl, rfl⟩
  rw [E1.out]
  go_wp2_with fail
  refine (order_any _ _ b a u1 (HB.out.below H1.out) (HA.out.below H1.out)).mono ?_
  rintro e uu ⟨rfl, rfl⟩
  rw [E4.out]
  go_wp2_with fail
  refine (order_any _ _ a b u1 (HA.out.below H1.out) (HB.out.below H1.out)).mono ?_
  rintro e uu ⟨rfl, rfl⟩
  rw [E1.out]
  go_wp2_with fail
  refine (equalI_any _ _ a b u1 (HA.out.below H1.out) (HB.out.below H1.out)).mono ?_
  rintro e u2 ⟨rfl, hb⟩
  have H2 : Hid (Below w.heap.size w u2) := bsq H1.out hb
  clear hb
  rw [E5.out]
  go_wp2_with fail
  refine (order_any _ _ a b u2 (HA.out.below H2.out) (HB.out.below H2.out)).mono ?_
  rintro e uu ⟨rfl, rfl⟩
  rw [E1.out]
  by_cases hxx : x < 0
  · have hdx : decide (x < 0) = true := decide_eq_true hxx
    go_wp2_with fail
    refine (order_any _ _ b c u2 (HB.out.below H2.out) (HC.out.below H2.out)).mono ?_
    rintro e uu ⟨rfl, rfl⟩
    rw [E2.out]
    by_cases hyy : y < 0
    · have hdy : decide (y < 0) = true := decide_eq_true hyy
      have hdz : decide (0 ≤ z) = false := decide_eq_false (by have := Q3.out hxx hyy; omega)
      go_wp2_with fail
      refine (order_any _ _ a c u2 (HA.out.below H2.out) (HC.out.below H2.out)).mono ?_
      rintro e uu ⟨rfl, rfl⟩
      rw [E3.out]
      go_wp2_with fail
      refine (under_any _ _ b a u2 (HB.out.below H2.out) (HA.out.below H2.out)).mono ?_
      rintro e u3 ⟨rfl, hb⟩
      have H3 : Hid (Below w.heap.size w u3) := bsq H2.out hb
      clear hb
      rw [E6.out]
      cases p with
      | false =>
        go_wp2_with fail
        refine (under_any _ _ c a u3 (HC.out.below H3.out) (HA.out.below H3.out)).mono ?_
        rintro e u4 ⟨rfl, hb⟩
        have H4 : Hid (Below w.heap.size w u4) := bsq H3.out hb
        clear hb
        rw [E7.out]
        cases q with
        | false =>
          go_wp2
          go_ret
          exact ⟨rfl, H4.out⟩
        | true =>
          go_wp2_with fail
          refine (order_any _ _ a b u4 (HA.out.below H4.out) (HB.out.below H4.out)).mono ?_
          rintro e uu ⟨rfl, rfl⟩
          rw [E1.out]
          go_wp2_with fail
          refine (order_any _ _ b c u4 (HB.out.below H4.out) (HC.out.below H4.out)).mono ?_
          rintro e uu ⟨rfl, rfl⟩
          rw [E2.out]
          exact absurd (Q5.out (by first | rfl | trivial) hxx hyy) (by simp)
      | true =>
        have hx0 : decide (0 < x) = false := decide_eq_false (by omega)
        go_wp2_with fail
        refine (order_any _ _ a b u3 (HA.out.below H3.out) (HB.out.below H3.out)).mono ?_
        rintro e uu ⟨rfl, rfl⟩
        rw [E1.out]
        go_wp2_with fail
        refine (under_any _ _ c a u3 (HC.out.below H3.out) (HA.out.below H3.out)).mono ?_
        rintro e u4 ⟨rfl, hb⟩
        have H4 : Hid (Below w.heap.size w u4) := bsq H3.out hb
        clear hb
        rw [E7.out]
        cases q with
        | false =>
          go_wp2
          go_ret
          exact ⟨rfl, H4.out⟩
        | true =>
          go_wp2_with fail
          refine (order_any _ _ a b u4 (HA.out.below H4.out) (HB.out.below H4.out)).mono ?_
          rintro e uu ⟨rfl, rfl⟩
          rw [E1.out]
          go_wp2_with fail
          refine (order_any _ _ b c u4 (HB.out.below H4.out) (HC.out.below H4.out)).mono ?_
          rintro e uu ⟨rfl, rfl⟩
          rw [E2.out]
          go_wp2_with fail
          refine (under_any _ _ b a u4 (HB.out.below H4.out) (HA.out.below H4.out)).mono ?_
          rintro e u5 ⟨rfl, hb⟩
          have H5 : Hid (Below w.heap.size w u5) := bsq H4.out hb
          clear hb
          rw [E6.out]
          go_wp2
          go_ret
          exact ⟨rfl, H5.out⟩
    · have hdy : decide (y < 0) = false := decide_eq_false hyy
      go_wp2_with fail
      refine (under_any _ _ b a u2 (HB.out.below H2.out) (HA.out.below H2.out)).mono ?_
      rintro e u3 ⟨rfl, hb⟩
      have H3 : Hid (Below w.heap.size w u3) := bsq H2.out hb
      clear hb
      rw [E6.out]
      cases p with
      | false =>
        go_wp2_with fail
        refine (under_any _ _ c a u3 (HC.out.below H3.out) (HA.out.below H3.out)).mono ?_
        rintro e u4 ⟨rfl, hb⟩
        have H4 : Hid (Below w.heap.size w u4) := bsq H3.out hb
        clear hb
        rw [E7.out]
        cases q with
        | false =>
          go_wp2
          go_ret
          exact ⟨rfl, H4.out⟩
        | true =>
          go_wp2_with fail
          refine (order_any _ _ a b u4 (HA.out.below H4.out) (HB.out.below H4.out)).mono ?_
          rintro e uu ⟨rfl, rfl⟩
          rw [E1.out]
          go_wp2_with fail
          refine (order_any _ _ b c u4 (HB.out.below H4.out) (HC.out.below H4.out)).mono ?_
          rintro e uu ⟨rfl, rfl⟩
          rw [E2.out]
          go_wp2
          go_ret
          exact ⟨rfl, H4.out⟩
      | true =>
        have hx0 : decide (0 < x) = false := decide_eq_false (by omega)
        go_wp2_with fail
        refine (order_any _ _ a b u3 (HA.out.below H3.out) (HB.out.below H3.out)).mono ?_
        rintro e uu ⟨rfl, rfl⟩
        rw [E1.out]
        go_wp2_with fail
        refine (under_any _ _ c a u3 (HC.out.below H3.out) (HA.out.below H3.out)).mono ?_
        rintro e u4 ⟨rfl, hb⟩
        have H4 : Hid (Below w.heap.size w u4) := bsq H3.out hb
        clear hb
        rw [E7.out]
        cases q with
        | false =>
          go_wp2
          go_ret
          exact ⟨rfl, H4.out⟩
        | true =>
          go_wp2_with fail
          refine (order_any _ _ a b u4 (HA.out.below H4.out) (HB.out.below H4.out)).mono ?_
          rintro e uu ⟨rfl, rfl⟩
          rw [E1.out]
          go_wp2_with fail
          refine (order_any _ _ b c u4 (HB.out.below H4.out) (HC.out.below H4.out)).mono ?_
          rintro e uu ⟨rfl, rfl⟩
          rw [E2.out]
          go_wp2
          go_ret
          exact ⟨rfl, H4.out⟩
  · have hdx : decide (x < 0) = false := decide_eq_false hxx
    go_wp2_with fail
    refine (under_any _ _ b a u2 (HB.out.below H2.out) (HA.out.below H2.out)).mono ?_
    rintro e u3 ⟨rfl, hb⟩
    have H3 : Hid (Below w.heap.size w u3) := bsq H2.out hb
    clear hb
    rw [E6.out]
    cases p with
    | false =>
      go_wp2_with fail
      refine (under_any _ _ c a u3 (HC.out.below H3.out) (HA.out.below H3.out)).mono ?_
      rintro e u4 ⟨rfl, hb⟩
      have H4 : Hid (Below w.heap.size w u4) := bsq H3.out hb
      clear hb
      rw [E7.out]
      cases q with
      | false =>
        go_wp2
        go_ret
        exact ⟨rfl, H4.out⟩
      | true =>
        go_wp2_with fail
        refine (order_any _ _ a b u4 (HA.out.below H4.out) (HB.out.below H4.out)).mono ?_
        rintro e uu ⟨rfl, rfl⟩
        rw [E1.out]
        go_wp2
        go_ret
        exact ⟨rfl, H4.out⟩
    | true =>
      have hx0 : decide (0 < x) = false := decide_eq_false (by have := Q4.out rfl; omega)
      go_wp2_with fail
      refine (order_any _ _ a b u3 (HA.out.below H3.out) (HB.out.below H3.out)).mono ?_
      rintro e uu ⟨rfl, rfl⟩
      rw [E1.out]
      go_wp2_with fail
      refine (under_any _ _ c a u3 (HC.out.below H3.out) (HA.out.below H3.out)).mono ?_
      rintro e u4 ⟨rfl, hb⟩
      have H4 : Hid (Below w.heap.size w u4) := bsq H3.out hb
      clear hb
      rw [E7.out]
      cases q with
      | false =>
        go_wp2
        go_ret
        exact ⟨rfl, H4.out⟩
      | true =>
        go_wp2_with fail
        refine (order_any _ _ a b u4 (HA.out.below H4.out) (HB.out.below H4.out)).mono ?_
        rintro e uu ⟨rfl, rfl⟩
        rw [E1.out]
        go_wp2
        go_ret
        exact ⟨rfl, H4.out⟩
end Go.Proofs.YtllfokmpnalojabDoor.routeOrder
