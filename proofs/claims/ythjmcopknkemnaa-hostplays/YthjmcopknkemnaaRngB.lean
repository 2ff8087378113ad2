/- ring: what isCount, isBit, places, isPlace, isMark and link answer. -/
import Derived.Test.YthjmcopknkemnaaRngA
namespace Go.Proofs.Ythjmcopknkemnaa.ring
open Go.RowKit
set_option linter.unusedVariables false
set_option linter.unusedSimpArgs false
set_option maxRecDepth 100000

theorem isCount_any (n : Int) (w : World) : Calls Try.prog 75 #[.int .i64 n] w fun e w' => e = .returned (.bool (cnB n)) ∧ w = w' := by
  unfold cnB
  cases h1 : decide (3 ≤ n)
  · go_enter Try.func75, Try.ntmps75; go_wp2; go_ret; exact ⟨rfl, rfl⟩
  · cases h2 : decide (n ≤ 64)
    · go_enter Try.func75, Try.ntmps75; go_wp2; go_ret; exact ⟨rfl, rfl⟩
    · go_enter Try.func75, Try.ntmps75; go_wp2; go_ret; exact ⟨rfl, rfl⟩
theorem isBit_any (n : Int) (w : World) : Calls Try.prog 95 #[.int .i64 n] w fun e w' => e = .returned (.bool (bitB n)) ∧ w = w' := by
  unfold bitB
  cases h1 : (n == 0)
  · cases h2 : (n == 1)
    · go_enter Try.func95, Try.ntmps95; go_wp2; go_ret; exact ⟨rfl, rfl⟩
    · go_enter Try.func95, Try.ntmps95; go_wp2; go_ret; exact ⟨rfl, rfl⟩
  · go_enter Try.func95, Try.ntmps95; go_wp2; go_ret; exact ⟨rfl, rfl⟩
theorem places_any (ad : Option Addr) (n c : Nat) (pa pb ga gb sn : Int) (w : World) (hn : 3 ≤ n) (hn2 : n ≤ 64) : Calls Try.prog 87 #[rgV (.slice ad n c) pa pb ga gb sn] w fun e w' => e = .returned (.int .i64 ((n : Int) - 1)) ∧ Below w.heap.size w w' := by
  obtain ⟨w1, hw1, hX1, hb1⟩ := named w (rgO (.slice ad n c) pa pb ga gb sn)
  obtain ⟨⟨hz, x0, x1, x2, x3, x4, x5⟩, _⟩ := box6 hX1
  have HB : Hid (Below w.heap.size w w1) := hb1
  clear hX1 hb1
  go_enter Try.func87, Try.ntmps87
  go_wp2
  go_ret
  exact ⟨rfl, HB.out⟩
set_option maxHeartbeats 1000000 in
theorem isPlace_any (ad : Option Addr) (n c : Nat) (pa pb ga gb sn x : Int) (w : World) (hn : 3 ≤ n) (hn2 : n ≤ 64) : Calls Try.prog 71 #[rgV (.slice ad n c) pa pb ga gb sn, .int .i64 x] w fun e w' => e = .returned (.bool (plB n x)) ∧ Below w.heap.size w w' := by
  obtain ⟨w1, hw1, hX1, hb1⟩ := named w (rgO (.slice ad n c) pa pb ga gb sn)
  obtain ⟨⟨hz, x0, x1, x2, x3, x4, x5⟩, _⟩ := box6 hX1
  have HB : Hid (Below w.heap.size w w1) := hb1
  obtain ⟨m, hm⟩ : ∃ m, (n : Int) - 1 = m := ⟨_, rfl⟩
  have HP : Hid (Calls Try.prog 87 #[rgV (.slice ad n c) pa pb ga gb sn] w1 fun e w' => e = .returned (.int .i64 m) ∧ Below w1.heap.size w1 w') := by
    have := places_any ad n c pa pb ga gb sn w1 hn hn2
    rw [hm] at this
    exact this
  unfold plB
  rw [hm]
  clear hX1 hb1 hm
  cases h1 : decide (0 ≤ x)
  · clear HP
    go_enter Try.func71, Try.ntmps71
    go_wp2
    go_ret
    exact ⟨rfl, HB.out⟩
  · go_enter Try.func71, Try.ntmps71
    go_wp2_with fail
    refine HP.out.mono ?_
    rintro e u ⟨rfl, hb⟩
    have HB2 : Hid (Below w.heap.size w u) := bsq HB.out hb
    clear hb
    go_wp2
    go_ret
    exact ⟨rfl, HB2.out⟩
set_option maxHeartbeats 1000000 in
theorem isMark_any (ad : Option Addr) (n c : Nat) (pa pb ga gb sn x y : Int) (w : World) (hn : 3 ≤ n) (hn2 : n ≤ 64) : Calls Try.prog 81 #[rgV (.slice ad n c) pa pb ga gb sn, mkV x y] w fun e w' => e = .returned (.bool (plB n x && bitB y)) ∧ Below w.heap.size w w' := by
  obtain ⟨w1, hw1, hX1, hb1⟩ := named w (rgO (.slice ad n c) pa pb ga gb sn)
  obtain ⟨w2, hw2, hX2, hb2⟩ := named w1 (mkO x y)
  obtain ⟨⟨hz, x0, x1, x2, x3, x4, x5⟩, _⟩ := box6 (keep hX1 hb2)
  obtain ⟨⟨hz', y0, y1⟩, _⟩ := box2 hX2
  have HB : Hid (Below w.heap.size w w2) := bsq hb1 hb2
  have HX2 : Hid (w2.heap[w1.heap.size]? = some (mkO x y)) := hX2
  have HP : Hid (Calls Try.prog 71 #[rgV (.slice ad n c) pa pb ga gb sn, .int .i64 x] w2 fun e w' => e = .returned (.bool (plB n x)) ∧ Below w2.heap.size w2 w') := isPlace_any ad n c pa pb ga gb sn x w2 hn hn2
  clear hX1 hb1 hX2 hb2
  cases h1 : plB n x
  · rw [h1] at HP
    clear h1
    go_enter Try.func81, Try.ntmps81
    go_wp2_with fail
    refine HP.out.mono ?_
    rintro e u ⟨rfl, hb⟩
    have HB2 : Hid (Below w.heap.size w u) := bsq HB.out hb
    clear hb
    go_wp2
    go_ret
    exact ⟨rfl, HB2.out⟩
  · rw [h1] at HP
    clear h1
    go_enter Try.func81, Try.ntmps81
    go_wp2_with fail
    refine HP.out.mono ?_
    rintro e u ⟨rfl, hb⟩
    have HB2 : Hid (Below w.heap.size w u) := bsq HB.out hb
    obtain ⟨⟨_, z0, z1⟩, _⟩ := box2 (keep HX2.out hb)
    clear hb y0 y1
    go_wp2_with fail
    refine (isBit_any y u).mono ?_
    rintro e u' ⟨rfl, rfl⟩
    go_wp2
    go_ret
    exact ⟨rfl, HB2.out⟩
end Go.Proofs.Ythjmcopknkemnaa.ring
