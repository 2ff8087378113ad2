/- PacketApart: the walk. -/
import Derived.Test.YtepifjimfcnggaaPackL
namespace Go.Proofs.Ytepifjimfcnggaa.packetApart
open Go.RowKit Go.PlainAid Go.Proofs.Ytepifjimfcnggaa.lane Go.Proofs.Ytepifjimfcnggaa.crc Go.Proofs.Ytepifjimfcnggaa.pack

theorem apart {k a e f k' a' e' f' : Int} {d d' : List Int} (h : good k a e f d) (h' : good k' a' e' f' d') (hw : wtext k a e f d = wtext k' a' e' f' d') : k = k' ∧ a = a' ∧ e = e' ∧ f = f' ∧ d = d' := by
  obtain ⟨_, b1, b2, b3, b4⟩ := back h
  obtain ⟨_, b1', b2', b3', b4'⟩ := back h'
  have hr := shp_range h.1
  have hr' := shp_range h'.1
  rw [wtext_cons, wtext_cons] at hw
  have e1 := (List.cons.inj hw).1
  have e2 := (List.cons.inj hw).2
  have hk : k = k' := by
    have := congrArg (· % 16) e1
    simp only [fb_mod (k := k) ⟨by omega, by omega⟩, fb_mod (k := k') ⟨by omega, by omega⟩] at this
    exact this
  subst hk
  rw [e2] at b1 b2 b3 b4
  exact ⟨rfl, b1.symm.trans b1', b2.symm.trans b2', b3.symm.trans b3', b4.symm.trans b4'⟩
set_option linter.unusedVariables false
set_option maxHeartbeats 2000000 in
theorem walk (a0k a0a a0e a0f : Int) (a0d : ByteArray) (a1k a1a a1e a1f : Int) (a1d : ByteArray)
    (w0k : (Lit.int .i64 a0k).wf = true) (w0a : (Lit.int .i64 a0a).wf = true) (w0e : (Lit.int .i64 a0e).wf = true) (w0f : (Lit.int .i64 a0f).wf = true) (w0d : a0d.size ≤ maxLen)
    (w1k : (Lit.int .i64 a1k).wf = true) (w1a : (Lit.int .i64 a1a).wf = true) (w1e : (Lit.int .i64 a1e).wf = true) (w1f : (Lit.int .i64 a1f).wf = true) (w1d : a1d.size ≤ maxLen) (w : World) :
    Calls Try.prog 7 #[pk a0k a0a a0e a0f a0d, pk a1k a1a a1e a1f a1d] w fun e w' => e = .returned (.bool true) ∧ Below w.heap.size w w' := by
  clear w0k w0a w0e w0f w0d w1k w1a w1e w1f w1d
  obtain ⟨c, s, hc, h1, _, _, HW⟩ := write_any a0k a0a a0e a0f a0d
  obtain ⟨c', s', hc', h1', _, _, HW'⟩ := write_any a1k a1a a1e a1f a1d
  have HW : Hid _ := HW
  have HW' : Hid _ := HW'
  have heq := eql_pk a0k a0a a0e a0f a0d a1k a1a a1e a1f a1d
  have hfin : c = 0 → c' = 0 → (s.toList == s'.toList) = same a0k a0a a0e a0f a0d a1k a1a a1e a1f a1d := by
    intro z z'
    have g := (code_zero hc).1 z
    have g' := (code_zero hc').1 z'
    rw [Bool.eq_iff_iff, same_iff, h1 z, h1' z', beq_iff_eq, toList_inj, nums_str _ (wtext_byt g.1 (nums_byt _)), nums_str _ (wtext_byt g'.1 (nums_byt _))]
    constructor
    · intro h; exact apart g g' h
    · rintro ⟨e1, e2, e3, e4, e5⟩; rw [e1, e2, e3, e4, e5]
  clear hc h1 hc' h1'
  generalize same a0k a0a a0e a0f a0d a1k a1a a1e a1f a1d = b at *
  have HL : Hid (∀ w : World, Calls Try.prog 15 #[] w fun r w' => r = .returned (.bool true) ∧ Below w.heap.size w w') := lives_any
  have HP := pk_two w a0k a0a a0e a0f a1k a1a a1e a1f a0d a1d
  obtain ⟨P1, P2⟩ := HP
  have P1 : Hid _ := P1
  have P2 : Hid _ := P2
  have hfn : (c != 0) = true ∨ ((c != 0) = false ∧ ((c' != 0) = true ∨ ((c' != 0) = false ∧ (s.toList == s'.toList) = b))) := by
    by_cases z : c = 0
    · by_cases z' : c' = 0
      · exact .inr ⟨by simp [z], .inr ⟨by simp [z'], hfin z z'⟩⟩
      · exact .inr ⟨by simp [z], .inl (by simp [z'])⟩
    · exact .inl (by simp [z])
  clear hfin
  rcases hfn with z | ⟨z, z' | ⟨z', hfin⟩⟩
  all_goals go_enter Try.func7, Try.ntmps7
  all_goals go_wp2_with fail
  all_goals refine (HW.out _).mono ?_
  all_goals rintro r u1 ⟨rfl, hb1⟩
  all_goals have HB : Hid (Below w.heap.size w u1) := bsq (bsq (balloc w _) (balloc _ _)) hb1
  all_goals have Q1 : Hid _ := P1.out.below hb1
  all_goals have Q2 := P2.out.below hb1
  all_goals have R2 : Hid _ := Q2
  all_goals obtain ⟨z0, z1, z2, z3, z4, z5⟩ := Q2
  all_goals clear P1 P2 hb1
  all_goals go_wp2_with fail
  all_goals refine (HW'.out _).mono ?_
  all_goals rintro r u2 ⟨rfl, hb2⟩
  all_goals have HB2 : Hid (Below w.heap.size w u2) := bsq HB.out hb2
  all_goals have Q1' : Hid _ := Q1.out.below hb2
  all_goals have Q2' : Hid _ := R2.out.below hb2
  all_goals clear z0 z1 z2 z3 z4 z5 hb2 HB Q1 R2
  all_goals go_wp2_with fail
  all_goals refine (HL.out _).mono ?_
  all_goals rintro r u3 ⟨rfl, hb3⟩
  all_goals have HB3 : Hid (Below w.heap.size w u3) := bsq HB2.out hb3
  all_goals obtain ⟨y0, y1, y2, y3, y4, y5⟩ := Q1'.out.below hb3
  all_goals obtain ⟨z0, z1, z2, z3, z4, z5⟩ := Q2'.out.below hb3
  all_goals clear hb3 Q1' Q2' HB2
  all_goals go_wp2
  all_goals go_ret
  all_goals exact ⟨rfl, HB3.out⟩
end Go.Proofs.Ytepifjimfcnggaa.packetApart
