/- PhyHears: the walk. -/
import Derived.Test.YtbkdalgmhmaofaaDoorPhyU
import Derived.Test.YtbkdalgmhmaofaaDoorPhyG
namespace Go.Proofs.YtbkdalgmhmaofaaDoor.phyHears
open Go.RowKit Go.PlainAid Go.Proofs.YtbkdalgmhmaofaaDoor.lane

theorem kc {u u' : World} (hb : Below u.heap.size u u') {b o : Nat} {x : Value} (h : u.cell? ⟨b, o, none⟩ = some x) : u'.cell? ⟨b, o, none⟩ = some x := (hb.cell (World.block_lt_of_cell? u _ h)).trans h
theorem ear_new (u : World) (r : ByteArray) : (u.alloc (.cells #[.string r] 27)).cell? ⟨u.heap.size, 0, none⟩ = some (.string r) := by go_simp
set_option linter.unusedVariables false
set_option maxHeartbeats 2000000 in
theorem walk (a0 : ByteArray) (a1 : ByteArray) (hs : a1.size + a0.size ≤ 1048576) (w : World) (m : Int) (hm : w.cell? ⟨0, 0, none⟩ = some (.int .i64 m)) :
    Calls Tryd.prog 4 #[ear a0, .string a1] w fun e w' => e = .returned (.bool true) ∧ Below w.heap.size w w' := by
  have hlow : 0 < w.heap.size := World.block_lt_of_cell? w _ hm
  have HM : Hid (∀ u : World, Below w.heap.size w u → u.cell? ⟨0, 0, none⟩ = some (.int .i64 m)) := fun u hb => (hb.cell (p := ⟨0, 0, none⟩) hlow).trans hm
  clear hm hlow
  cases hsg : sigB (nums a1) && sigB (nums a0)
  · have HH : Hid (∀ w, Calls Tryd.prog 7 #[ear a0, .string a1] w fun e w' => e = .returned (.tuple #[ear a0, .slice none 0 0, .int .i64 1]) ∧ Below w.heap.size w w') := fun w => hear_no a0 a1 w (by unfold maxLen; omega) (by unfold maxLen; omega) (Bool.and_eq_false_iff.1 hsg)
    have HI : Hid (∀ w, Calls Tryd.prog 8 #[ear a0, .string a1] w fun e w' => e = .returned (.tuple #[ear a0, .slice none 0 0, .int .i64 1]) ∧ Below w.heap.size w w') := fun w => rhear_no a0 a1 w hs (Bool.and_eq_false_iff.1 hsg)
    have hq := eql_ear a0
    have HE : Hid (∀ w, Calls Tryd.prog 9 #[.slice none 0 0, .slice none 0 0] w fun e w' => e = .returned (.bool true) ∧ Below w.heap.size w w') := fun w =>
      equal_any none none 0 0 [] w (fun j p h => by simp at h) (fun j p h => by simp at h) (Nat.zero_le _) (Nat.zero_le _) (Nat.zero_le _) (Nat.zero_le _)
    clear hsg
    go_enter Tryd.func4, Tryd.ntmps4
    go_wp2_with fail
    refine (HH.out _).mono ?_
    rintro e u ⟨rfl, hb⟩
    have HC0 : Hid _ := kc (balloc u (.cells #[.string a0] 27)) (kc hb (ear_new w a0))
    have HC1 : Hid _ := ear_new u a0
    have HB : Hid (Below w.heap.size w (u.alloc (.cells #[.string a0] 27))) := bsq (bsq (balloc w _) hb) (balloc u _)
    have c0 := HC0.out
    clear hb
    go_wp2_with fail
    refine (HI.out _).mono ?_
    rintro e u1 ⟨rfl, hb⟩
    have d1 := kc (balloc u1 (.cells #[.string a0] 27)) (kc hb HC1.out)
    have d2 := ear_new u1 a0
    have HB1 : Hid (Below w.heap.size w (u1.alloc (.cells #[.string a0] 27))) := bsq (bsq HB.out hb) (balloc u1 _)
    clear hb HB HC0 HC1 c0
    go_wp2_with fail
    refine (HE.out _).mono ?_
    rintro e u2 ⟨rfl, hb⟩
    have HB2 : Hid (Below w.heap.size w u2) := bsq HB1.out hb
    clear hb HB1
    go_wp2
    go_ret
    exact ⟨rfl, HB2.out⟩
  · rw [Bool.and_eq_true] at hsg
    obtain ⟨q1, hq1⟩ : ∃ q, strOfNums (hearL (nums a0) (nums a1)).2 = q := ⟨_, rfl⟩
    obtain ⟨L1, hL1⟩ : ∃ L, (hearL (nums a0) (nums a1)).1 = L := ⟨_, rfl⟩
    have HH : Hid (∀ w, Calls Tryd.prog 7 #[ear a0, .string a1] w fun e w' => ∃ v, e = .returned (.tuple #[ear q1, v, .int .i64 0]) ∧ Hrs w' w.heap.size v L1 ∧ Below w.heap.size w w') := fun w => by
      have := hear_ok a0 a1 w (by omega) (by omega) hsg.1 hsg.2
      rw [hq1, hL1] at this
      exact this
    have HI : Hid (∀ u, Below w.heap.size w u → Calls Tryd.prog 8 #[ear a0, .string a1] u fun e w' => ∃ v, e = .returned (.tuple #[ear q1, v, .int .i64 0]) ∧ Hrs w' u.heap.size v L1 ∧ Below u.heap.size u w') := fun u hu => by
      have := rhear_ok a0 a1 u m (HM.out u hu) hs hsg.1 hsg.2
      rw [hq1, hL1] at this
      exact this
    have hq := eql_ear q1
    clear hsg hq1 hL1
    go_enter Tryd.func4, Tryd.ntmps4
    go_wp2_with fail
    refine (HH.out _).mono ?_
    rintro e u ⟨v1, rfl, hr, hb⟩
    have c0 := kc (balloc u (.cells #[.string q1] 27)) (kc hb (ear_new w a0))
    have HC1 : Hid _ := ear_new u q1
    have HR1 : Hid _ := Hrs.below hr (balloc u (.cells #[.string q1] 27))
    have HB : Hid (Below w.heap.size w (u.alloc (.cells #[.string q1] 27))) := bsq (bsq (balloc w _) hb) (balloc u _)
    clear hb hr
    go_wp2_with fail
    refine (HI.out _ HB.out).mono ?_
    rintro e u1 ⟨v2, rfl, hr, hb⟩
    have d1 := kc (balloc u1 (.cells #[.string q1] 27)) (kc hb HC1.out)
    have d2 := ear_new u1 q1
    have hr1 := Hrs.below (Hrs.below HR1.out hb) (balloc u1 (.cells #[.string q1] 27))
    have hr2 := Hrs.below hr (balloc u1 (.cells #[.string q1] 27))
    have HB1 : Hid (Below w.heap.size w (u1.alloc (.cells #[.string q1] 27))) := bsq (bsq HB.out hb) (balloc u1 _)
    obtain ⟨b3, c3, rfl, m3, l3, f3⟩ := Hrs.form hr1
    obtain ⟨b6, c6, rfl, m6, l6, f6⟩ := Hrs.form hr2
    have HE : Hid (Calls Tryd.prog 9 #[.slice b3 L1.length c3, .slice b6 L1.length c6] (u1.alloc (.cells #[.string q1] 27)) fun e w' => e = .returned (.bool true) ∧ Below (u1.alloc (.cells #[.string q1] 27)).heap.size (u1.alloc (.cells #[.string q1] 27)) w') := equal_any b3 b6 c3 c6 L1 _ f3 f6 m3 m6 l3 l6
    clear hb HB HC1 c0 HR1 hr hr1 hr2 f3 f6 l3 l6 m3 m6
    go_wp2_with fail
    refine HE.out.mono ?_
    rintro e u2 ⟨rfl, hb⟩
    have HB2 : Hid (Below w.heap.size w u2) := bsq HB1.out hb
    clear hb HB1 HE
    go_wp2
    go_ret
    exact ⟨rfl, HB2.out⟩
end Go.Proofs.YtbkdalgmhmaofaaDoor.phyHears
