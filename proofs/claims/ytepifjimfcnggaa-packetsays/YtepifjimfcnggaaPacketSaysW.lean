/- PacketSays: the walk. -/
import Derived.Test.YtepifjimfcnggaaPackS
import Derived.Test.YtepifjimfcnggaaPackV
namespace Go.Proofs.Ytepifjimfcnggaa.packetSays
open Go.RowKit Go.PlainAid Go.Proofs.Ytepifjimfcnggaa.lane Go.Proofs.Ytepifjimfcnggaa.crc Go.Proofs.Ytepifjimfcnggaa.pack

theorem rtext_any {k a e f : Int} {d : ByteArray} (hg : good k a e f (nums d)) (w : World) :
    Calls Try.prog 10 #[pk k a e f d] w fun r w' => r = .returned (.string (strOfNums (wtext k a e f (nums d)))) ∧ Below w.heap.size w w' := by
  obtain ⟨g0, gp, gw, gl⟩ := hg
  have hr := shp_range g0
  rw [nums_length] at gl
  unfold wth at gw
  obtain ⟨a, rfl⟩ := Int.eq_ofNat_of_zero_le gw.1
  obtain ⟨e, rfl⟩ := Int.eq_ofNat_of_zero_le gw.2.2.1
  obtain ⟨f, rfl⟩ := Int.eq_ofNat_of_zero_le gw.2.2.2.2.1
  obtain ⟨k, rfl⟩ := Int.eq_ofNat_of_zero_le (show 0 ≤ k by omega)
  have hT := isB_tok k
  have hD := isB_dat k
  rw [wtext_cons]
  rcases shp_cases g0 with ⟨s, hk⟩ | ⟨s, hk⟩ | ⟨s, hk⟩ | ⟨s, hk⟩
  · rw [wrest_tok (.inl s)]
    have hf := gp.1 s
    exact rtext_tok k a e f _ d _ (by omega) (by omega) (by omega) (by omega) (by omega) (by omega) rfl (.inl (by rw [hT, s]; rfl)) w
  · rw [wrest_tok (.inr s)]
    have hf := gp.2.1 s
    exact rtext_tok k a e f _ d _ (by omega) (by omega) (by omega) (by omega) (by omega) (by omega) rfl (.inr ⟨by rw [hT, s]; rfl, by simp; omega⟩) w
  · rw [wrest_dat s]
    have hf := gp.2.2.1 s
    exact rtext_dat k a e f d _ (by omega) (by omega) (by omega) (by omega) rfl (by simp; omega) (by rw [hT, s]; rfl) (by rw [hD, s]; rfl) gl w
  · rw [wrest_bare s]
    have hf := gp.2.2.2 s
    exact rtext_bare k a e f d _ (by omega) (by omega) (by omega) (by omega) rfl (by simp; omega) (by rw [hT, s]; rfl) (by rw [hD, s]; rfl) w
set_option linter.unusedVariables false
set_option maxHeartbeats 2000000 in
theorem walk (a0k a0a a0e a0f : Int) (a0d : ByteArray)
    (w0k : (Lit.int .i64 a0k).wf = true) (w0a : (Lit.int .i64 a0a).wf = true) (w0e : (Lit.int .i64 a0e).wf = true) (w0f : (Lit.int .i64 a0f).wf = true) (w0d : a0d.size ≤ maxLen) (w : World) :
    Calls Try.prog 3 #[pk a0k a0a a0e a0f a0d] w fun e w' => e = .returned (.bool true) ∧ Below w.heap.size w w' := by
  clear w0k w0a w0e w0f w0d
  obtain ⟨c, s, hc, h1, h2, HC, HW⟩ := write_any a0k a0a a0e a0f a0d
  have HP : Hid (∀ w : World, Calls Try.prog 9 #[pk a0k a0a a0e a0f a0d] w fun r w' => r = .returned (.int .i64 c) ∧ Below w.heap.size w w') := rpacket_any a0k a0a a0e a0f a0d c hc
  replace HC : Hid _ := HC
  replace HW : Hid _ := HW
  have P1 : Hid _ := pk_alloc w a0k a0a a0e a0f a0d
  by_cases z : c = 0
  · have HT : Hid (∀ w : World, Calls Try.prog 10 #[pk a0k a0a a0e a0f a0d] w fun r w' => r = .returned (.string s) ∧ Below w.heap.size w w') := by
      intro w; rw [h1 z]; exact rtext_any ((code_zero hc).1 z) w
    subst z
    clear h1 h2 hc
    go_enter Try.func3, Try.ntmps3
    go_wp2_with fail
    refine (HP.out _).mono ?_
    rintro r u1 ⟨rfl, hb1⟩
    have HB : Hid (Below w.heap.size w u1) := bsq (balloc w _) hb1
    have Q1 := P1.out.below hb1
    have Q1' : Hid _ := Q1
    obtain ⟨z0, z1, z2, z3, z4, z5⟩ := Q1
    clear hb1 P1
    go_wp2_with fail
    refine (HT.out _).mono ?_
    rintro r u2 ⟨rfl, hb2⟩
    have HB2 : Hid (Below w.heap.size w u2) := bsq HB.out hb2
    clear z0 z1 z2 z3 z4 z5
    have Q2 := Q1'.out.below hb2
    have Q2' : Hid _ := Q2
    obtain ⟨z0, z1, z2, z3, z4, z5⟩ := Q2
    clear hb2 Q1' HB
    go_wp2_with fail
    refine (HW.out _).mono ?_
    rintro r u3 ⟨rfl, hb3⟩
    have HB3 : Hid (Below w.heap.size w u3) := bsq HB2.out hb3
    clear z0 z1 z2 z3 z4 z5
    obtain ⟨z0, z1, z2, z3, z4, z5⟩ := Q2'.out.below hb3
    clear hb3 Q2' HB2
    go_wp2_with fail
    refine (HC.out _).mono ?_
    rintro r u4 ⟨rfl, hb4⟩
    have HB4 : Hid (Below w.heap.size w u4) := bsq HB3.out hb4
    clear hb4 HB3 z0 z1 z2 z3 z4 z5
    go_wp2
    go_ret
    exact ⟨rfl, HB4.out⟩
  · have hs := h2 z
    subst hs
    have z' : (c == 0) = false := by simp [z]
    clear h1 h2 hc z
    go_enter Try.func3, Try.ntmps3
    go_wp2_with fail
    refine (HP.out _).mono ?_
    rintro r u1 ⟨rfl, hb1⟩
    have HB : Hid (Below w.heap.size w u1) := bsq (balloc w _) hb1
    have Q1 := P1.out.below hb1
    have Q1' : Hid _ := Q1
    obtain ⟨z0, z1, z2, z3, z4, z5⟩ := Q1
    clear hb1 P1
    go_wp2_with fail
    refine (HW.out _).mono ?_
    rintro r u3 ⟨rfl, hb3⟩
    have HB3 : Hid (Below w.heap.size w u3) := bsq HB.out hb3
    clear z0 z1 z2 z3 z4 z5
    obtain ⟨z0, z1, z2, z3, z4, z5⟩ := Q1'.out.below hb3
    clear hb3 Q1' HB
    go_wp2_with fail
    refine (HC.out _).mono ?_
    rintro r u4 ⟨rfl, hb4⟩
    have HB4 : Hid (Below w.heap.size w u4) := bsq HB3.out hb4
    clear hb4 HB3 z0 z1 z2 z3 z4 z5
    go_wp2
    go_ret
    exact ⟨rfl, HB4.out⟩
end Go.Proofs.Ytepifjimfcnggaa.packetSays
