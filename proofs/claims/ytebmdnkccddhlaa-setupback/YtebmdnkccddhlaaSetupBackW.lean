/- SetupBack: the walk. -/
import Derived.Test.YtebmdnkccddhlaaSetG
import Derived.Handy
namespace Go.Proofs.Ytebmdnkccddhlaa.setupBack
open Go.RowKit Go.PlainAid Go.Proofs.Ytebmdnkccddhlaa.lane Go.Proofs.Ytebmdnkccddhlaa.setup
set_option linter.unusedVariables false

abbrev WrOk (k v i l : Int) (T : ByteArray) (c : Int) : Prop := ∀ w : World, Calls Try.prog 8 #[setup.ask k v i l] w fun r w' => r = .returned (.tuple #[.string T, .int .i64 c]) ∧ Below w.heap.size w w'
abbrev RdOk (s : ByteArray) (k v i l c : Int) : Prop := ∀ w : World, Calls Try.prog 10 #[.string s] w fun r w' => r = .returned (.tuple #[setup.ask k v i l, .int .i64 c]) ∧ Below w.heap.size w w'
set_option maxHeartbeats 4000000 in
theorem walk (a0k a0v a0i a0l : Int) (a1 : ByteArray)
    (w0k : (Lit.int .i64 a0k).wf = true) (w0v : (Lit.int .i64 a0v).wf = true) (w0i : (Lit.int .i64 a0i).wf = true) (w0l : (Lit.int .i64 a0l).wf = true) (w1 : a1.size ≤ maxLen) (w : World) :
    Calls Try.prog 5 #[setup.ask a0k a0v a0i a0l, .string a1] w fun e w' => e = .returned (.bool true) ∧ Below w.heap.size w w' := by
  have b0 := bounds_i64 w0i
  clear w0k w0v w0i w0l
  have HL : Hid (∀ w : World, Calls Try.prog 12 #[] w fun r w' => r = .returned (.bool true) ∧ Below w.heap.size w w') := lives_any
  have HP : Hid (∀ u, Below (w.alloc (askc a0k a0v a0i a0l)).heap.size (w.alloc (askc a0k a0v a0i a0l)) u → Ak u w.heap.size a0k a0v a0i a0l ∧ Below w.heap.size w u) :=
    fun u hu => ⟨(ak_alloc w a0k a0v a0i a0l).below (by simp) hu, bsq (balloc _ _) hu⟩
  have hR : (∃ c : Int, c ≠ 0 ∧ RdOk a1 0 0 0 0 c) ∨ (∃ k v i l : Int, RdOk a1 k v i l 0 ∧ WrOk k v i l a1 0) := by
    have hr : RdOk a1 (rK a1) (rN a1 2) (rN a1 4) (rN a1 6) (rC a1) := read_any a1 w1
    by_cases h : rC a1 = 0
    · right
      rw [h] at hr
      refine ⟨_, _, _, _, hr, ?_⟩
      obtain ⟨e1, e2⟩ := read_write h
      have hi : -9223372036854775808 ≤ rN a1 4 ∧ rN a1 4 ≤ 9223372036854775807 := by
        unfold rN
        have := wat_range a1 4
        split <;> omega
      have := write_any (rK a1) (rN a1 2) (rN a1 4) (rN a1 6) hi
      rw [e1, e2] at this
      exact this
    · left
      have h0 := rC_bad h
      have hz : ∀ j, rN a1 j = 0 := by intro j; unfold rN; rw [if_pos h0]
      rw [h0, hz, hz, hz] at hr
      exact ⟨_, h, hr⟩
  have hW : (∃ T, WrOk a0k a0v a0i a0l T 1) ∨ (∃ T : ByteArray, WrOk a0k a0v a0i a0l T 0 ∧ RdOk T a0k a0v a0i a0l 0 ∧ T.size = 8) := by
    cases hg : good a0k a0v a0i a0l
    · exact .inl ⟨_, (write_of shape_any a0k a0v a0i a0l b0).2 hg⟩
    · right
      have h1 : WrOk a0k a0v a0i a0l (wrT a0k a0v a0i a0l) 0 := by
        have := write_any a0k a0v a0i a0l b0
        unfold wrC at this
        rw [if_pos hg] at this
        exact this
      obtain ⟨e1, e2, e3, e4, e5, e6⟩ := write_read hg
      have hr : RdOk (wrT a0k a0v a0i a0l) (rK (wrT a0k a0v a0i a0l)) (rN (wrT a0k a0v a0i a0l) 2) (rN (wrT a0k a0v a0i a0l) 4) (rN (wrT a0k a0v a0i a0l) 6) (rC (wrT a0k a0v a0i a0l)) := read_any _ (by rw [e6]; unfold maxLen; omega)
      rw [e1, e2, e3, e4, e5] at hr
      exact ⟨_, h1, hr, e6⟩
  clear b0 w1
  have heq := neq_ask a0k a0v a0i a0l a0k a0v a0i a0l
  rw [same_self] at heq
  have heq0 := eql_ask 0 0 0 0 0 0 0 0
  rw [same_self] at heq0
  have HR : Hid ((∃ c : Int, c ≠ 0 ∧ RdOk a1 0 0 0 0 c) ∨ (∃ k v i l : Int, RdOk a1 k v i l 0 ∧ WrOk k v i l a1 0)) := hR
  clear hR
  have HFin : Hid (∀ u : World, Below w.heap.size w u → True) := fun _ _ => trivial
  rcases hW with ⟨T, hw⟩ | ⟨T, hw, hr, hs⟩
  · have HW : Hid (WrOk a0k a0v a0i a0l T 1) := hw
    clear hw
    go_enter Try.func5, Try.ntmps5
    go_wp2_with fail
    refine (HW.out _).mono ?_
    rintro r u1 ⟨rfl, hb1⟩
    have HB1 : Hid (Below w.heap.size w u1) := (HP.out u1 hb1).2
    clear hb1
    rcases HR.out with ⟨c, hc, hr⟩ | ⟨k, v, i, l, hr, hww⟩
    · have HRd : Hid (RdOk a1 0 0 0 0 c) := hr
      have hcb : (c != 0) = true := by simpa using hc
      clear hr hc
      go_wp2_with fail
      refine (HRd.out _).mono ?_
      rintro r u2 ⟨rfl, hb2⟩
      have HB2 : Hid (Below w.heap.size w u2) := bsq HB1.out hb2
      clear hb2
      go_wp2_with fail
      refine (HL.out _).mono ?_
      rintro r u3 ⟨rfl, hb3⟩
      have HB3 : Hid (Below w.heap.size w u3) := bsq (bsq HB2.out (balloc _ _)) hb3
      obtain ⟨hz, c0, c1, c2, c3⟩ := (ak_alloc u2 0 0 0 0).below (by simp) hb3
      clear hb3
      go_wp2
      go_ret
      exact ⟨rfl, HB3.out⟩
    · have HRd : Hid (RdOk a1 k v i l 0) := hr
      have HWw : Hid (WrOk k v i l a1 0) := hww
      clear hr hww
      go_wp2_with fail
      refine (HRd.out _).mono ?_
      rintro r u2 ⟨rfl, hb2⟩
      have HB2 : Hid (Below w.heap.size w u2) := bsq HB1.out hb2
      clear hb2
      go_wp2_with fail
      refine (HWw.out _).mono ?_
      rintro r u3 ⟨rfl, hb3⟩
      have HB3 : Hid (Below w.heap.size w u3) := bsq (bsq HB2.out (balloc _ _)) hb3
      clear hb3
      go_wp2_with fail
      refine (HL.out _).mono ?_
      rintro r u4 ⟨rfl, hb4⟩
      have HB4 : Hid (Below w.heap.size w u4) := bsq HB3.out hb4
      clear hb4
      go_wp2
      go_ret
      exact ⟨rfl, HB4.out⟩
  · have HW : Hid (WrOk a0k a0v a0i a0l T 0) := hw
    have HRt : Hid (RdOk T a0k a0v a0i a0l 0) := hr
    clear hw hr
    go_enter Try.func5, Try.ntmps5
    go_wp2_with fail
    refine (HW.out _).mono ?_
    rintro r u0 ⟨rfl, hb0⟩
    have HB0 : Hid (Below (w.alloc (askc a0k a0v a0i a0l)).heap.size (w.alloc (askc a0k a0v a0i a0l)) u0) := hb0
    clear hb0
    go_wp2_with fail
    refine (HRt.out _).mono ?_
    rintro r u1 ⟨rfl, hb1⟩
    obtain ⟨⟨hz, c0, c1, c2, c3⟩, hB⟩ := HP.out u1 (bsq HB0.out hb1)
    have HB1 : Hid (Below w.heap.size w u1) := hB
    clear hb1 hB
    rcases HR.out with ⟨c, hc, hr⟩ | ⟨k, v, i, l, hr, hww⟩
    · have HRd : Hid (RdOk a1 0 0 0 0 c) := hr
      have hcb : (c != 0) = true := by simpa using hc
      clear hr hc
      go_wp2_with fail
      refine (HRd.out _).mono ?_
      rintro r u2 ⟨rfl, hb2⟩
      have HB2 : Hid (Below w.heap.size w u2) := bsq (bsq HB1.out (balloc _ _)) hb2
      clear hb2 hz c0 c1 c2 c3
      go_wp2_with fail
      refine (HL.out _).mono ?_
      rintro r u3 ⟨rfl, hb3⟩
      have HB3 : Hid (Below w.heap.size w u3) := bsq (bsq HB2.out (balloc _ _)) hb3
      obtain ⟨hz, c0, c1, c2, c3⟩ := (ak_alloc u2 0 0 0 0).below (by simp) hb3
      clear hb3
      go_wp2
      go_ret
      exact ⟨rfl, HB3.out⟩
    · have HRd : Hid (RdOk a1 k v i l 0) := hr
      have HWw : Hid (WrOk k v i l a1 0) := hww
      clear hr hww
      go_wp2_with fail
      refine (HRd.out _).mono ?_
      rintro r u2 ⟨rfl, hb2⟩
      have HB2 : Hid (Below w.heap.size w u2) := bsq (bsq HB1.out (balloc _ _)) hb2
      clear hb2 hz c0 c1 c2 c3
      go_wp2_with fail
      refine (HWw.out _).mono ?_
      rintro r u3 ⟨rfl, hb3⟩
      have HB3 : Hid (Below w.heap.size w u3) := bsq (bsq HB2.out (balloc _ _)) hb3
      clear hb3
      go_wp2_with fail
      refine (HL.out _).mono ?_
      rintro r u4 ⟨rfl, hb4⟩
      have HB4 : Hid (Below w.heap.size w u4) := bsq HB3.out hb4
      clear hb4
      go_wp2
      go_ret
      exact ⟨rfl, HB4.out⟩
end Go.Proofs.Ytebmdnkccddhlaa.setupBack
