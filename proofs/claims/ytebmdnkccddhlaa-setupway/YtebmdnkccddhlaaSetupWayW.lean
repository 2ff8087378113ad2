/- SetupWay: the walk. -/
import Derived.Test.YtebmdnkccddhlaaSetG
import Derived.Handy
namespace Go.Proofs.Ytebmdnkccddhlaa.setupWay
open Go.RowKit Go.PlainAid Go.Proofs.Ytebmdnkccddhlaa.lane Go.Proofs.Ytebmdnkccddhlaa.setup
set_option linter.unusedVariables false

/-- which kinds answer with bytes -/
def inB (k : Int) : Bool := k == 1 || k == 5 || k == 7 || k == 8 || k == 12
theorem run_ix (s : ByteArray) (k : Nat) (h : k < s.size) (W : World) : (Instr.index 9 (.string s) (.int .i64 (k : Int))).run Try.prog W = .ok (.int .u8 (bt s k)) W := by
  have e : bt s k = ((s[k]'h).toNat : Int) := by unfold bt; rw [dif_pos h]
  rw [e]
  simp [Instr.index, asIntOf, run_underlying Try.underlying9, h, Result.andThen]
theorem way {k v i l : Int} (h : good k v i l = true) : decide (128 ≤ col k 0) = inB k ∧ (inB k = true ∨ l = 0 ∨ k = 14) := by
  unfold good at h
  rw [Bool.and_eq_true] at h
  obtain ⟨hk, hf⟩ := h
  unfold fitB at hf
  rw [Bool.and_eq_true, Bool.and_eq_true, inS_iff, inS_iff] at hf
  obtain ⟨_, h3⟩ := hf
  rcases isK_cases hk with rfl | rfl | rfl | rfl | rfl | rfl | rfl | rfl | rfl | rfl | rfl | rfl | rfl | rfl
  all_goals
    simp [col, row] at h3
    refine ⟨by decide, ?_⟩
    first | exact .inl (by decide) | exact .inr (.inr rfl) | exact .inr (.inl (by omega))
set_option maxHeartbeats 4000000 in
theorem walk (a0k a0v a0i a0l : Int)
    (w0k : (Lit.int .i64 a0k).wf = true) (w0v : (Lit.int .i64 a0v).wf = true) (w0i : (Lit.int .i64 a0i).wf = true) (w0l : (Lit.int .i64 a0l).wf = true) (w : World) :
    Calls Try.prog 7 #[setup.ask a0k a0v a0i a0l] w fun e w' => e = .returned (.bool true) ∧ Below w.heap.size w w' := by
  have b0 := bounds_i64 w0i
  clear w0k w0v w0i w0l
  have HL : Hid (∀ w : World, Calls Try.prog 12 #[] w fun r w' => r = .returned (.bool true) ∧ Below w.heap.size w w') := lives_any
  have HP : Hid (∀ u, Below (w.alloc (askc a0k a0v a0i a0l)).heap.size (w.alloc (askc a0k a0v a0i a0l)) u → Ak u w.heap.size a0k a0v a0i a0l ∧ Below w.heap.size w u) :=
    fun u hu => ⟨(ak_alloc w a0k a0v a0i a0l).below (by simp) hu, bsq (balloc _ _) hu⟩
  cases hg : good a0k a0v a0i a0l
  · have HW : Hid (∀ w : World, Calls Try.prog 8 #[setup.ask a0k a0v a0i a0l] w fun r w' => r = .returned (.tuple #[.string ⟨#[]⟩, .int .i64 1]) ∧ Below w.heap.size w w') := (write_of shape_any a0k a0v a0i a0l b0).2 hg
    clear hg b0
    go_enter Try.func7, Try.ntmps7
    go_wp2_with fail
    refine (HW.out _).mono ?_
    rintro r u1 ⟨rfl, hb1⟩
    have HB1 : Hid (Below w.heap.size w u1) := bsq (balloc _ _) hb1
    clear hb1
    go_wp2_with fail
    refine (HL.out _).mono ?_
    rintro r u2 ⟨rfl, hb2⟩
    have HB2 : Hid (Below w.heap.size w u2) := bsq HB1.out hb2
    clear hb2
    go_wp2_with fail
    refine (HL.out _).mono ?_
    rintro r u3 ⟨rfl, hb3⟩
    have HB3 : Hid (Below w.heap.size w u3) := bsq HB2.out hb3
    clear hb3
    go_wp2
    go_ret
    exact ⟨rfl, HB3.out⟩
  · have HW : Hid (∀ w : World, Calls Try.prog 8 #[setup.ask a0k a0v a0i a0l] w fun r w' => r = .returned (.tuple #[.string (strOfNums (txt a0k a0v a0i a0l)), .int .i64 0]) ∧ Below w.heap.size w w') := (write_of shape_any a0k a0v a0i a0l b0).1 hg
    have hsz : (strOfNums (txt a0k a0v a0i a0l)).size = 8 := by rw [str_size]; rfl
    have hix : ∀ W : World, (Instr.index 9 (.string (strOfNums (txt a0k a0v a0i a0l))) (.int .i64 0)).run Try.prog W = .ok (.int .u8 (col a0k 0)) W := by
      intro W
      have := run_ix (strOfNums (txt a0k a0v a0i a0l)) 0 (by omega) W
      rw [bt_nums _ 0 (by omega), nums_str _ (txt_byt hg)] at this
      exact this
    obtain ⟨hw1, hw2⟩ := way hg
    have hkk : (1 ≤ a0k ∧ a0k ≤ 14) := (good_words hg).1
    have hi8 : ((8 : Int) == 8) = true := rfl
    clear hg b0
    generalize strOfNums (txt a0k a0v a0i a0l) = T at *
    generalize col a0k 0 = x at *
    have hcase : (a0k = 1 ∨ a0k = 5 ∨ a0k = 7 ∨ a0k = 8 ∨ a0k = 12) ∧ 128 ≤ x ∨ ((a0k == 1) = false ∧ (a0k == 5) = false ∧ (a0k == 7) = false ∧ (a0k == 8) = false ∧ (a0k == 12) = false) ∧ x < 128 ∧ (a0l = 0 ∨ a0k = 14) := by
      have hin : inB a0k = true ↔ (a0k = 1 ∨ a0k = 5 ∨ a0k = 7 ∨ a0k = 8 ∨ a0k = 12) := by simp [inB, or_assoc]
      by_cases h : inB a0k = true
      · rw [h, decide_eq_true_iff] at hw1
        exact .inl ⟨hin.1 h, hw1⟩
      · have hn := fun q => h (hin.2 q)
        simp only [Bool.not_eq_true] at h
        rw [h, decide_eq_false_iff_not] at hw1
        rw [h] at hw2
        refine .inr ⟨?_, by omega, by simpa using hw2⟩
        simp only [beq_eq_false_iff_ne, ne_eq]
        exact ⟨fun q => hn (.inl q), fun q => hn (.inr (.inl q)), fun q => hn (.inr (.inr (.inl q))), fun q => hn (.inr (.inr (.inr (.inl q)))), fun q => hn (.inr (.inr (.inr (.inr q))))⟩
    clear hw1 hw2
    have HCS : Hid ((a0k = 1 ∨ a0k = 5 ∨ a0k = 7 ∨ a0k = 8 ∨ a0k = 12) ∧ 128 ≤ x ∨ ((a0k == 1) = false ∧ (a0k == 5) = false ∧ (a0k == 7) = false ∧ (a0k == 8) = false ∧ (a0k == 12) = false) ∧ x < 128 ∧ (a0l = 0 ∨ a0k = 14)) := hcase
    clear hcase
    go_enter Try.func7, Try.ntmps7
    go_wp2_with fail
    refine (HW.out _).mono ?_
    rintro r u1 ⟨rfl, hb1⟩
    have HB1 : Hid (Below (w.alloc (askc a0k a0v a0i a0l)).heap.size (w.alloc (askc a0k a0v a0i a0l)) u1) := hb1
    clear hb1
    go_wp2_with fail
    refine (HL.out _).mono ?_
    rintro r u2 ⟨rfl, hb2⟩
    obtain ⟨⟨hz, c0, c1, c2, c3⟩, hB⟩ := HP.out u2 (bsq HB1.out hb2)
    have HB2 : Hid (Below w.heap.size w u2) := hB
    clear hb2 hB
    rcases HCS.out with ⟨hk, hx⟩ | ⟨⟨n1, n5, n7, n8, n12⟩, hx, hl⟩
    · rcases hk with rfl | rfl | rfl | rfl | rfl
      all_goals go_wp2
      all_goals go_ret
      all_goals exact ⟨rfl, HB2.out⟩
    · have hx2 : decide (128 ≤ x) = false := by simp; omega
      clear hx
      rcases hl with rfl | rfl
      all_goals go_wp2
      all_goals go_ret
      all_goals exact ⟨rfl, HB2.out⟩
end Go.Proofs.Ytebmdnkccddhlaa.setupWay
