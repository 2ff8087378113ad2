/- PhyCuts: the walk. -/
import Derived.Test.YtbkdalgmhmaofaaPhyJ
import Derived.Test.YtbkdalgmhmaofaaPhyG
namespace Go.Proofs.Ytbkdalgmhmaofaa.phyCuts
open Go.RowKit Go.PlainAid Go.Proofs.Ytbkdalgmhmaofaa.lane

set_option linter.unusedVariables false
set_option maxHeartbeats 2000000 in
theorem walk (a0 : ByteArray) (a1 : ByteArray) (a2 : ByteArray) (w0 : a0.size ≤ maxLen) (w1 : a1.size ≤ maxLen) (w2 : a2.size ≤ maxLen) (hs0 : a0.size ≤ 1048576) (hs1 : a1.size ≤ 1048576) (hs2 : a2.size ≤ 1048576) (w : World) :
    Calls Try.prog 5 #[ear a0, .string a1, .string a2] w fun e w' => e = .returned (.bool true) ∧ Below w.heap.size w w' := by
  have HL : Hid (∀ w : World, Calls Try.prog 11 #[] w fun r w' => r = .returned (.bool true) ∧ Below w.heap.size w w') := phyLives_any
  cases hsg : sigB (nums a1) && sigB (nums a0)
  · have HH : Hid (∀ w, Calls Try.prog 12 #[ear a0, .string a1] w fun e w' => e = .returned (.tuple #[ear a0, .slice none 0 0, .int .i64 1]) ∧ Below w.heap.size w w') := fun w => hear_no a0 a1 w w1 w0 (Bool.and_eq_false_iff.1 hsg)
    have hq := eql_ear a0
    clear hsg w0 w1 w2
    go_enter Try.func5, Try.ntmps5
    go_wp2_with fail
    refine (HH.out _).mono ?_
    rintro e u ⟨rfl, hb⟩
    have HC0 : Hid _ := kc (balloc u (.cells #[.string a0] 30)) (kc hb (ear_new w a0))
    have HC1 : Hid _ := ear_new u a0
    have HB : Hid (Below w.heap.size w (u.alloc (.cells #[.string a0] 30))) := bsq (bsq (balloc w _) hb) (balloc u _)
    clear hb
    go_wp2_with fail
    refine (HL.out _).mono ?_
    rintro e u1 ⟨rfl, hb⟩
    have HD0 : Hid _ := kc hb HC0.out
    have HD1 : Hid _ := kc hb HC1.out
    have HB1 : Hid (Below w.heap.size w u1) := bsq HB.out hb
    clear hb HB HC0 HC1
    go_wp2_with fail
    refine (HL.out _).mono ?_
    rintro e u2 ⟨rfl, hb⟩
    have c0 := kc hb HD0.out
    have c1 := kc hb HD1.out
    have HB2 : Hid (Below w.heap.size w u2) := bsq HB1.out hb
    clear hb HB1 HD0 HD1
    go_wp2
    go_ret
    exact ⟨rfl, HB2.out⟩
  · rw [Bool.and_eq_true] at hsg
    obtain ⟨q1, hq1⟩ : ∃ q, strOfNums (hearL (nums a0) (nums a1)).2 = q := ⟨_, rfl⟩
    obtain ⟨L1, hL1⟩ : ∃ L, (hearL (nums a0) (nums a1)).1 = L := ⟨_, rfl⟩
    have HH : Hid (∀ w, Calls Try.prog 12 #[ear a0, .string a1] w fun e w' => ∃ v, e = .returned (.tuple #[ear q1, v, .int .i64 0]) ∧ Hrs w' w.heap.size v L1 ∧ Below w.heap.size w w') := fun w => by
      have := hear_ok a0 a1 w (by omega) (by omega) hsg.1 hsg.2
      rw [hq1, hL1] at this
      exact this
    have hs3 := hear_sig (nums a1) (nums a0) hsg.2 hsg.1
    have enq : nums q1 = (hearL (nums a0) (nums a1)).2 := by rw [← hq1]; exact nums_str _ (byt_sig hs3)
    have hlen := hear_length (nums a1) (nums a0)
    have hq1z : q1.size ≤ 2097152 := by rw [← nums_length, enq]; have := hlen.1; rw [nums_length, nums_length] at this; omega
    have hL1z : L1.length ≤ 1048576 := by rw [← hL1]; have := hlen.2; rw [nums_length] at this; omega
    cases hsb : sigB (nums a2)
    · have HI : Hid (∀ w, Calls Try.prog 12 #[ear q1, .string a2] w fun e w' => e = .returned (.tuple #[ear q1, .slice none 0 0, .int .i64 1]) ∧ Below w.heap.size w w') := fun w => hear_no q1 a2 w w2 (by unfold maxLen; omega) (.inl hsb)
      have hq := eql_ear q1
      clear hsb hsg hs3 enq hlen w0 w1 w2 hq1 hL1
      go_enter Try.func5, Try.ntmps5
      go_wp2_with fail
      refine (HH.out _).mono ?_
      rintro e u ⟨v, rfl, hr, hb⟩
      have HC1 : Hid _ := ear_new u q1
      have HB : Hid (Below w.heap.size w (u.alloc (.cells #[.string q1] 30))) := bsq (bsq (balloc w _) hb) (balloc u _)
      clear hb hr
      go_wp2_with fail
      refine (HL.out _).mono ?_
      rintro e u1 ⟨rfl, hb⟩
      have c1 := kc hb HC1.out
      have HB1 : Hid (Below w.heap.size w u1) := bsq HB.out hb
      clear hb HB HC1
      go_wp2_with fail
      refine (HI.out _).mono ?_
      rintro e u2 ⟨rfl, hb⟩
      have d1 := kc (balloc u2 (.cells #[.string q1] 30)) (kc hb c1)
      have d2 := ear_new u2 q1
      have HB2 : Hid (Below w.heap.size w (u2.alloc (.cells #[.string q1] 30))) := bsq (bsq HB1.out hb) (balloc u2 _)
      clear hb HB1 c1
      go_wp2
      go_ret
      exact ⟨rfl, HB2.out⟩
    · obtain ⟨q2, hq2⟩ : ∃ q, strOfNums (hearL (nums q1) (nums a2)).2 = q := ⟨_, rfl⟩
      obtain ⟨L2, hL2⟩ : ∃ L, (hearL (nums q1) (nums a2)).1 = L := ⟨_, rfl⟩
      have HI : Hid (∀ w, Calls Try.prog 12 #[ear q1, .string a2] w fun e w' => ∃ v, e = .returned (.tuple #[ear q2, v, .int .i64 0]) ∧ Hrs w' w.heap.size v L2 ∧ Below w.heap.size w w') := fun w => by
        have := hear_ok q1 a2 w (by omega) (by omega) hsb (by rw [enq]; exact hs3)
        rw [hq2, hL2] at this
        exact this
      have hL2z : L2.length ≤ 1048576 := by rw [← hL2]; have := (hear_length (nums a2) (nums q1)).2; rw [nums_length] at this; omega
      have ez : (a1 ++ a2).size = a1.size + a2.size := ByteArray.size_append
      have hcut := hear_cut (nums a1) (nums a2) (nums a0)
      rw [← enq, hL1, hL2, ← nums_append] at hcut
      have HJ : Hid (∀ w, Calls Try.prog 12 #[ear a0, .string (a1 ++ a2)] w fun e w' => ∃ v, e = .returned (.tuple #[ear q2, v, .int .i64 0]) ∧ Hrs w' w.heap.size v (L1 ++ L2) ∧ Below w.heap.size w w') := fun w => by
        have := hear_ok a0 (a1 ++ a2) w (by omega) (by omega) (by rw [nums_append, sigB_append, hsg.1, hsb]; rfl) hsg.2
        rw [hcut] at this
        simp only [] at this
        rw [hq2] at this
        exact this
      have hq := eql_ear q2
      clear hsb hsg hs3 enq hlen w0 w1 w2 hq1 hL1 hq2 hL2 hcut
      go_enter Try.func5, Try.ntmps5
      go_wp2_with fail
      refine (HH.out _).mono ?_
      rintro e u ⟨v1, rfl, hr, hb⟩
      have HC0 : Hid _ := kc (balloc u (.cells #[.string q1] 30)) (kc hb (ear_new w a0))
      have HC1 : Hid _ := ear_new u q1
      have HR1 : Hid _ := Hrs.below hr (balloc u (.cells #[.string q1] 30))
      have HB : Hid (Below w.heap.size w (u.alloc (.cells #[.string q1] 30))) := bsq (bsq (balloc w _) hb) (balloc u _)
      clear hb hr
      go_wp2_with fail
      refine (HL.out _).mono ?_
      rintro e u1 ⟨rfl, hb⟩
      have HD0 : Hid _ := kc hb HC0.out
      have c1 := kc hb HC1.out
      have HR2 : Hid _ := Hrs.below HR1.out hb
      have HB1 : Hid (Below w.heap.size w u1) := bsq HB.out hb
      clear hb HB HC1 HC0 HR1
      go_wp2_with fail
      refine (HI.out _).mono ?_
      rintro e u2 ⟨v2, rfl, hr, hb⟩
      have d0 := kc (balloc u2 (.cells #[.string q2] 30)) (kc hb HD0.out)
      have HE2 : Hid _ := ear_new u2 q2
      have HR3 : Hid _ := Hrs.below (Hrs.below HR2.out hb) (balloc u2 (.cells #[.string q2] 30))
      have HS3 : Hid _ := Hrs.below hr (balloc u2 (.cells #[.string q2] 30))
      have HB2 : Hid (Below w.heap.size w (u2.alloc (.cells #[.string q2] 30))) := bsq (bsq HB1.out hb) (balloc u2 _)
      clear hb HB1 c1 hr HD0 HR2
      go_wp2_with fail
      refine (HJ.out _).mono ?_
      rintro e u3 ⟨v3, rfl, hr, hb⟩
      have d1 := kc (balloc u3 (.cells #[.string q2] 30)) (kc hb HE2.out)
      have d2 := ear_new u3 q2
      have HR4 : Hid _ := Hrs.below (Hrs.below HR3.out hb) (balloc u3 (.cells #[.string q2] 30))
      have HS4 : Hid _ := Hrs.below (Hrs.below HS3.out hb) (balloc u3 (.cells #[.string q2] 30))
      have HT4 : Hid _ := Hrs.below hr (balloc u3 (.cells #[.string q2] 30))
      have HB3 : Hid (Below w.heap.size w (u3.alloc (.cells #[.string q2] 30))) := bsq (bsq HB2.out hb) (balloc u3 _)
      clear hb HB2 d0 hr HR3 HS3 HE2
      obtain ⟨u4, hu4⟩ : ∃ u4, u3.alloc (.cells #[.string q2] 30) = u4 := ⟨_, rfl⟩
      rw [hu4] at d1 d2 HR4 HS4 HT4 HB3
      go_wp2_with fail
      refine (clone_any _ v1 L1 u4 HR4.out (by omega)).mono ?_
      rintro e u5 ⟨v5, rfl, hr, hb⟩
      have hs5 := Hrs.below HS4.out hb
      have ht5 := Hrs.below HT4.out hb
      have HF : Hid (Hrs u5 u4.heap.size v5 L1 ∧ Below u4.heap.size u4 u5 ∧ Hrs u5 _ v2 L2 ∧ Hrs u5 _ v3 (L1 ++ L2)) := ⟨hr, hb, hs5, ht5⟩
      clear hr hb hs5 ht5 HR4 d1 d2
      go_wp2_with (at_builtin; (refine wpList_hrs _ rfl _ _ rfl _ _ v5 v2 L1 L2 rfl rfl HF.out.1 HF.out.2.2.1 (by omega) HF.out.2.1.size ?_); intro v6 u6 hr6 hg6)
      obtain ⟨hr, hb, hs5, ht5⟩ := HF.out
      have HB6 : Hid (Below w.heap.size w u6) := by
        have h4 := HB3.out.size
        exact (bsq HB3.out hb).grown hg6 (Nat.le_trans h4 hb.size) (fun k hk => Nat.le_trans h4 (hr.lt k hk).1)
      have ht6 : Hrs u6 _ v3 (L1 ++ L2) := ht5.grown hg6 (by
        cases hv : v3.ownBlock with
        | none => exact .inl rfl
        | some k =>
          right
          intro c
          have q1 := (Hrs.lt HT4.out k hv).2
          have q2 := (hr.lt k c.symm).1
          omega)
      obtain ⟨b3, c3, rfl, m3, l3, f3⟩ := ht6.form
      obtain ⟨b6, c6, rfl, m6, l6, f6⟩ := hr6.form
      have he := equal_any b3 b6 c3 c6 (L1 ++ L2) u6 f3 f6 m3 m6 l3 l6
      rw [List.length_append]
      rw [List.length_append] at he
      have HE : Hid (Calls Try.prog 13 #[.slice b3 (L1.length + L2.length) c3, .slice b6 (L1.length + L2.length) c6] u6 fun e w' => e = .returned (.bool true) ∧ Below u6.heap.size u6 w') := he
      clear he
      clear HF hs5 ht5 hr6 hg6 ht6 f3 f6 hr hb HS4 HT4 l3 l6 m3 m6
      go_wp2_with fail
      refine HE.out.mono ?_
      rintro e u7 ⟨rfl, hb⟩
      have HB7 : Hid (Below w.heap.size w u7) := bsq HB6.out hb
      clear hb
      go_wp2
      go_ret
      exact ⟨rfl, HB7.out⟩
end Go.Proofs.Ytbkdalgmhmaofaa.phyCuts
