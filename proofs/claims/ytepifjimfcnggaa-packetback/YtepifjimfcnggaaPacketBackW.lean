/- PacketBack: the walk. -/
import Derived.Test.YtepifjimfcnggaaPackL
namespace Go.Proofs.Ytepifjimfcnggaa.packetBack
open Go.RowKit Go.PlainAid Go.Proofs.Ytepifjimfcnggaa.lane Go.Proofs.Ytepifjimfcnggaa.crc Go.Proofs.Ytepifjimfcnggaa.pack

theorem wtext_len {k a e f : Int} {d : List Int} (h : good k a e f d) : (wtext k a e f d).length ≤ 67 := by
  unfold wtext
  have := h.2.2.2
  split
  · simp only [List.length_cons, List.length_append, two_len]; omega
  · split <;> simp [sealw, two]
/-- what is written is read as it was -/
theorem read_back {k a e f : Int} {d s : ByteArray} (hg : good k a e f (nums d)) (hs : s = strOfNums (wtext k a e f (nums d))) :
    ∃ d', nums d' = nums d ∧ RD s k a e f d' 0 := by
  have hn : nums s = wtext k a e f (nums d) := by rw [hs, nums_str _ (wtext_byt hg.1 (nums_byt _))]
  have hm : s.size ≤ maxLen := by rw [← nums_length, hn]; have := wtext_len hg; unfold maxLen; omega
  obtain ⟨k', a', e', f', d', c', HR, hc, hgot⟩ := read_any s hm
  rw [hn, (back hg).1] at hc
  subst hc
  rcases hgot with ⟨h, _⟩ | ⟨_, h0, r, hl, _, _, e1, e2, e3, e4⟩
  · exact absurd rfl h
  obtain ⟨_, b1, b2, b3, b4⟩ := back hg
  have hr := shp_range hg.1
  have hr' := shp_range h0
  rw [hn, wtext_cons] at hl
  have hk : k = k' := by
    have := congrArg (· % 16) (List.cons.inj hl).1
    simp only [fb_mod (k := k) ⟨by omega, by omega⟩, fb_mod (k := k') ⟨by omega, by omega⟩] at this
    exact this
  subst hk
  rw [← (List.cons.inj hl).2] at e1 e2 e3 e4
  rw [b1] at e1
  rw [b2] at e2
  rw [b3] at e3
  rw [b4] at e4
  subst e1 e2 e3
  exact ⟨d', e4, HR⟩
set_option linter.unusedVariables false
set_option maxHeartbeats 2000000 in
theorem walk (a0k a0a a0e a0f : Int) (a0d : ByteArray)
    (w0k : (Lit.int .i64 a0k).wf = true) (w0a : (Lit.int .i64 a0a).wf = true) (w0e : (Lit.int .i64 a0e).wf = true) (w0f : (Lit.int .i64 a0f).wf = true) (w0d : a0d.size ≤ maxLen) (w : World) :
    Calls Try.prog 5 #[pk a0k a0a a0e a0f a0d] w fun e w' => e = .returned (.bool true) ∧ Below w.heap.size w w' := by
  clear w0k w0a w0e w0f w0d
  obtain ⟨c, s, hc, h1, h2, HC, HW⟩ := write_any a0k a0a a0e a0f a0d
  have HC : Hid _ := HC
  have HW : Hid _ := HW
  have HL : Hid (∀ w : World, Calls Try.prog 15 #[] w fun r w' => r = .returned (.bool true) ∧ Below w.heap.size w w') := lives_any
  have P1 : Hid _ := pk_alloc w a0k a0a a0e a0f a0d
  by_cases z : c = 0
  · obtain ⟨d', hd, HR⟩ := read_back ((code_zero hc).1 z) (h1 z)
    have heq := eql_pk a0k a0a a0e a0f d' a0k a0a a0e a0f a0d
    rw [(same_iff ..).2 ⟨rfl, rfl, rfl, rfl, hd⟩] at heq
    have HR : Hid _ := HR
    subst z
    clear h1 h2 hc hd
    go_enter Try.func5, Try.ntmps5
    go_wp2_with fail
    refine (HW.out _).mono ?_
    rintro r u1 ⟨rfl, hb1⟩
    have HB : Hid (Below w.heap.size w u1) := bsq (balloc w _) hb1
    have Q1 : Hid _ := P1.out.below hb1
    clear hb1 P1
    go_wp2_with fail
    refine (HL.out _).mono ?_
    rintro r u2 ⟨rfl, hb2⟩
    have HB2 : Hid (Below w.heap.size w u2) := bsq HB.out hb2
    have Q2 : Hid _ := Q1.out.below hb2
    clear hb2 Q1 HB
    go_wp2_with fail
    refine (HR.out _).mono ?_
    rintro r u3 ⟨rfl, hb3⟩
    have HB3 : Hid (Below w.heap.size w u3) := bsq HB2.out hb3
    obtain ⟨z0, z1, z2, z3, z4, z5⟩ := Q2.out.below hb3
    clear hb3 Q2 HB2
    go_wp2
    go_ret
    exact ⟨rfl, bsq HB3.out (balloc _ _)⟩
  · have hs := h2 z
    subst hs
    have z' : (c != 0) = true := by simp [z]
    clear h1 h2 hc z
    go_enter Try.func5, Try.ntmps5
    go_wp2_with fail
    refine (HW.out _).mono ?_
    rintro r u1 ⟨rfl, hb1⟩
    have HB : Hid (Below w.heap.size w u1) := bsq (balloc w _) hb1
    have Q1 : Hid _ := P1.out.below hb1
    clear hb1 P1
    go_wp2_with fail
    refine (HL.out _).mono ?_
    rintro r u2 ⟨rfl, hb2⟩
    have HB2 : Hid (Below w.heap.size w u2) := bsq HB.out hb2
    have Q2 : Hid _ := Q1.out.below hb2
    clear hb2 Q1 HB
    go_wp2_with fail
    refine (HL.out _).mono ?_
    rintro r u3 ⟨rfl, hb3⟩
    have HB3 : Hid (Below w.heap.size w u3) := bsq HB2.out hb3
    obtain ⟨z0, z1, z2, z3, z4, z5⟩ := Q2.out.below hb3
    clear hb3 Q2 HB2
    go_wp2_with fail
    refine (HC.out _).mono ?_
    rintro r u4 ⟨rfl, hb4⟩
    have HB4 : Hid (Below w.heap.size w u4) := bsq HB3.out hb4
    clear hb4 HB3
    go_wp2
    go_ret
    exact ⟨rfl, HB4.out⟩
end Go.Proofs.Ytepifjimfcnggaa.packetBack
