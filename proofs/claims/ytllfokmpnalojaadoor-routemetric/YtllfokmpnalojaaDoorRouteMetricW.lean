/- RouteMetric: P16.4: the walk. -/
import Derived.Test.YtllfokmpnalojaaDoorRouL
import Derived.Test.YtllfokmpnalojaaDoorRouO
namespace Go.Proofs.YtllfokmpnalojaaDoor.routeMetric
open Go Go.RowKit Go.Proofs.YtllfokmpnalojaaDoor.route
set_option linter.unusedVariables false
set_option linter.unusedSimpArgs false
set_option maxRecDepth 100000

set_option maxHeartbeats 4000000 in
theorem walk (va : Value) (a : List Int) (vb : Value) (b : List Int) (vc : Value) (c : List Int) (w : World) (ha : Ris w va a) (hka : a.length * 8 ≤ reachBytes) (hb : Ris w vb b) (hkb : b.length * 8 ≤ reachBytes) (hc : Ris w vc c) (hkc : c.length * 8 ≤ reachBytes) :
    Calls Tryd.prog 6 #[va, vb, vc] w fun e w' => e = .returned (.bool true) ∧ Below w.heap.size w w' := by
  unfold reachBytes at hka hkb hkc
  have HA : Hid (Ris w va a) := ha
  have HB : Hid (Ris w vb b) := hb
  have HC : Hid (Ris w vc c) := hc
  have LA : Hid (a.length ≤ 17592186048000) := by show a.length ≤ _; omega
  have LB : Hid (b.length ≤ 17592186048000) := by show b.length ≤ _; omega
  have LC : Hid (c.length ≤ 17592186048000) := by show c.length ≤ _; omega
  have q1 := hop_zero a b
  have q2 := hop_comm b a
  have q3 := hop_three a b c
  have b1 := hop_bound a b
  have b2 := hop_bound b c
  have b3 := hop_bound a c
  obtain ⟨x, e1⟩ : ∃ x, hop a b = x := ⟨_, rfl⟩
  obtain ⟨y, e2⟩ : ∃ x, hop b c = x := ⟨_, rfl⟩
  obtain ⟨z, e3⟩ : ∃ x, hop a c = x := ⟨_, rfl⟩
  obtain ⟨t, ht⟩ : ∃ t, decide (a = b) = t := ⟨_, rfl⟩
  rw [e1, ht] at q1
  rw [e1] at q2
  rw [e1, e2, e3] at q3
  rw [e1] at b1
  rw [e2] at b2
  rw [e3] at b3
  have hb1 : 0 ≤ x ∧ x ≤ 35184372096000 := by omega
  have hb2 : 0 ≤ y ∧ y ≤ 35184372096000 := by omega
  have hb3 : 0 ≤ z ∧ z ≤ 35184372096000 := by omega
  have E1 : Hid (hop a b = x) := e1
  have E2 : Hid (hop b c = y) := e2
  have E3 : Hid (hop a c = z) := e3
  have E4 : Hid (hop b a = x) := q2
  have E5 : Hid (decide (a = b) = t) := ht
  have htt : (t == t) = true := by simp
  have hxx : (x == x) = true := by simp
  have hd : decide (z ≤ x + y) = true := decide_eq_true q3
  clear ha hb hc hka hkb hkc e1 e2 e3 q2 ht b1 b2 b3
  go_enter Tryd.func6, Tryd.ntmps6
  go_wp2_with fail
  refine (lives_any w).mono ?_
  rintro e u1 ⟨rfl, hb⟩
  have H1 : Hid (Below w.heap.size w u1) := hb
  clear hb
  go_wp2_with fail
  refine (hops_any _ _ a b u1 (HA.out.below H1.out) (HB.out.below H1.out) LA.out LB.out).mono ?_
  rintro e u2 ⟨rfl, hb⟩
  have H2 : Hid (Below w.heap.size w u2) := bsq H1.out hb
  clear hb
  rw [E1.out]
  go_wp2_with fail
  refine (equalI_any _ _ a b u2 (HA.out.below H2.out) (HB.out.below H2.out)).mono ?_
  rintro e u3 ⟨rfl, hb⟩
  have H3 : Hid (Below w.heap.size w u3) := bsq H2.out hb
  clear hb
  rw [E5.out]
  go_wp2_with fail
  refine (hops_any _ _ a b u3 (HA.out.below H3.out) (HB.out.below H3.out) LA.out LB.out).mono ?_
  rintro e u4 ⟨rfl, hb⟩
  have H4 : Hid (Below w.heap.size w u4) := bsq H3.out hb
  clear hb
  rw [E1.out]
  go_wp2_with fail
  refine (hops_any _ _ b a u4 (HB.out.below H4.out) (HA.out.below H4.out) LB.out LA.out).mono ?_
  rintro e u5 ⟨rfl, hb⟩
  have H5 : Hid (Below w.heap.size w u5) := bsq H4.out hb
  clear hb
  rw [E4.out]
  go_wp2_with fail
  refine (hops_any _ _ a c u5 (HA.out.below H5.out) (HC.out.below H5.out) LA.out LC.out).mono ?_
  rintro e u6 ⟨rfl, hb⟩
  have H6 : Hid (Below w.heap.size w u6) := bsq H5.out hb
  clear hb
  rw [E3.out]
  go_wp2_with fail
  refine (hops_any _ _ a b u6 (HA.out.below H6.out) (HB.out.below H6.out) LA.out LB.out).mono ?_
  rintro e u7 ⟨rfl, hb⟩
  have H7 : Hid (Below w.heap.size w u7) := bsq H6.out hb
  clear hb
  rw [E1.out]
  go_wp2_with fail
  refine (hops_any _ _ b c u7 (HB.out.below H7.out) (HC.out.below H7.out) LB.out LC.out).mono ?_
  rintro e u8 ⟨rfl, hb⟩
  have H8 : Hid (Below w.heap.size w u8) := bsq H7.out hb
  clear hb
  rw [E2.out]
  go_wp2
  go_ret
  exact ⟨rfl, H8.out⟩
end Go.Proofs.YtllfokmpnalojaaDoor.routeMetric
