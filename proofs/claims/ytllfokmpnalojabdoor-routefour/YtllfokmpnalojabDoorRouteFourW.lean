/- RouteFour: P16.4: the walk. -/
import Derived.Test.YtllfokmpnalojabDoorRouL
import Derived.Test.YtllfokmpnalojabDoorRouO
namespace Go.Proofs.YtllfokmpnalojabDoor.routeFour
open Go Go.RowKit Go.Proofs.YtllfokmpnalojabDoor.route
set_option linter.unusedVariables false
set_option linter.unusedSimpArgs false
set_option maxRecDepth 100000

set_option maxHeartbeats 4000000 in
theorem walk (va : Value) (a : List Int) (vb : Value) (b : List Int) (vc : Value) (c : List Int) (vd : Value) (d : List Int) (w : World) (ha : Ris w va a) (hka : a.length * 8 ≤ reachBytes) (hb : Ris w vb b) (hkb : b.length * 8 ≤ reachBytes) (hc : Ris w vc c) (hkc : c.length * 8 ≤ reachBytes) (hd : Ris w vd d) (hkd : d.length * 8 ≤ reachBytes) :
    Calls Tryd.prog 3 #[va, vb, vc, vd] w fun e w' => e = .returned (.bool true) ∧ Below w.heap.size w w' := by
  unfold reachBytes at hka hkb hkc hkd
  have HA : Hid (Ris w va a) := ha
  have HB : Hid (Ris w vb b) := hb
  have HC : Hid (Ris w vc c) := hc
  have HD : Hid (Ris w vd d) := hd
  have LA : Hid (a.length ≤ 17592186048000) := by show a.length ≤ _; omega
  have LB : Hid (b.length ≤ 17592186048000) := by show b.length ≤ _; omega
  have LC : Hid (c.length ≤ 17592186048000) := by show c.length ≤ _; omega
  have LD : Hid (d.length ≤ 17592186048000) := by show d.length ≤ _; omega
  have q1 := hop_four a b c d
  have q2 := hop_four a c b d
  have q3 := hop_four a d b c
  rw [hop_comm d c] at q3
  rw [hop_comm c b] at q2
  rw [hop_comm d b] at q3
  have b1 := hop_bound a b
  have b2 := hop_bound c d
  have b3 := hop_bound a c
  have b4 := hop_bound b d
  have b5 := hop_bound a d
  have b6 := hop_bound b c
  have HH : Hid True := trivial
  obtain ⟨x1, e1⟩ : ∃ x, hop a b = x := ⟨_, rfl⟩
  obtain ⟨x2, e2⟩ : ∃ x, hop c d = x := ⟨_, rfl⟩
  obtain ⟨x3, e3⟩ : ∃ x, hop a c = x := ⟨_, rfl⟩
  obtain ⟨x4, e4⟩ : ∃ x, hop b d = x := ⟨_, rfl⟩
  obtain ⟨x5, e5⟩ : ∃ x, hop a d = x := ⟨_, rfl⟩
  obtain ⟨x6, e6⟩ : ∃ x, hop b c = x := ⟨_, rfl⟩
  rw [e1, e2, e3, e4, e5, e6] at q1 q2 q3
  rw [e1] at b1
  rw [e2] at b2
  rw [e3] at b3
  rw [e4] at b4
  rw [e5] at b5
  rw [e6] at b6
  obtain ⟨X, hX⟩ : ∃ X, x1 + x2 = X := ⟨_, rfl⟩
  obtain ⟨Y, hY⟩ : ∃ Y, x3 + x4 = Y := ⟨_, rfl⟩
  obtain ⟨Z, hZ⟩ : ∃ Z, x5 + x6 = Z := ⟨_, rfl⟩
  rw [hX, hY, hZ] at q1 q2 q3
  obtain ⟨m1, g1⟩ : ∃ m : Int, max Y Z = m := ⟨_, rfl⟩
  obtain ⟨m2, g2⟩ : ∃ m : Int, max X Z = m := ⟨_, rfl⟩
  obtain ⟨m3, g3⟩ : ∃ m : Int, max X Y = m := ⟨_, rfl⟩
  have r1 : X ≤ m1 := by omega
  have r2 : Y ≤ m2 := by omega
  have r3 : Z ≤ m3 := by omega
  have hXb : 0 ≤ X ∧ X ≤ 140737488384000 := by omega
  have hYb : 0 ≤ Y ∧ Y ≤ 140737488384000 := by omega
  have hZb : 0 ≤ Z ∧ Z ≤ 140737488384000 := by omega
  have E1 : Hid (hop a b = x1) := e1
  have E2 : Hid (hop c d = x2) := e2
  have E3 : Hid (hop a c = x3) := e3
  have E4 : Hid (hop b d = x4) := e4
  have E5 : Hid (hop a d = x5) := e5
  have E6 : Hid (hop b c = x6) := e6
  clear ha hb hc hd e1 e2 e3 e4 e5 e6 b1 b2 b3 b4 b5 b6 q1 q2 q3 hka hkb hkc hkd HH
  go_enter Tryd.func3, Tryd.ntmps3
  go_wp2_with fail
  refine (hops_any _ _ a b w HA.out HB.out LA.out LB.out).mono ?_
  rintro e u1 ⟨rfl, hb⟩
  have H1 : Hid (Below w.heap.size w u1) := hb
  clear hb
  rw [E1.out]
  go_wp2_with fail
  refine (hops_any _ _ c d u1 (HC.out.below H1.out) (HD.out.below H1.out) LC.out LD.out).mono ?_
  rintro e u2 ⟨rfl, hb⟩
  have H2 : Hid (Below w.heap.size w u2) := bsq H1.out hb
  clear hb
  rw [E2.out]
  go_wp2_with fail
  refine (hops_any _ _ a c u2 (HA.out.below H2.out) (HC.out.below H2.out) LA.out LC.out).mono ?_
  rintro e u3 ⟨rfl, hb⟩
  have H3 : Hid (Below w.heap.size w u3) := bsq H2.out hb
  clear hb
  rw [E3.out]
  go_wp2_with fail
  refine (hops_any _ _ b d u3 (HB.out.below H3.out) (HD.out.below H3.out) LB.out LD.out).mono ?_
  rintro e u4 ⟨rfl, hb⟩
  have H4 : Hid (Below w.heap.size w u4) := bsq H3.out hb
  clear hb
  rw [E4.out]
  go_wp2_with fail
  refine (hops_any _ _ a d u4 (HA.out.below H4.out) (HD.out.below H4.out) LA.out LD.out).mono ?_
  rintro e u5 ⟨rfl, hb⟩
  have H5 : Hid (Below w.heap.size w u5) := bsq H4.out hb
  clear hb
  rw [E5.out]
  go_wp2_with fail
  refine (hops_any _ _ b c u5 (HB.out.below H5.out) (HC.out.below H5.out) LB.out LC.out).mono ?_
  rintro e u6 ⟨rfl, hb⟩
  have H6 : Hid (Below w.heap.size w u6) := bsq H5.out hb
  clear hb
  rw [E6.out]
  go_wp2_with fail
  refine (lives_any u6).mono ?_
  rintro e u7 ⟨rfl, hb⟩
  have H7 : Hid (Below w.heap.size w u7) := bsq H6.out hb
  clear hb
  go_wp2
  go_ret
  exact ⟨rfl, H7.out⟩
end Go.Proofs.YtllfokmpnalojabDoor.routeFour
