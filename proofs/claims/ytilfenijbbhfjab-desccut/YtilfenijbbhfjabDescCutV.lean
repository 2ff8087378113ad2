/- DescCut: the walk, once configOf answers as it should. -/
import Derived.Test.YtilfenijbbhfjabDescZ
namespace Go.Proofs.Ytilfenijbbhfjab.descCut
open Go.RowKit Go.PlainAid Go.Proofs.Ytilfenijbbhfjab.lane Go.Proofs.Ytilfenijbbhfjab.desc
set_option linter.unusedVariables false

theorem code_splitF (k : Nat) : ∀ l : List Int, (splitF k l).1 = 0 ∨ (splitF k l).1 = 3 ∨ (splitF k l).1 = 4 := by
  induction k with
  | zero => intro l; cases l with
    | nil => exact .inl rfl
    | cons a r => exact .inr (.inr rfl)
  | succ k ih =>
    intro l
    cases l with
    | nil => exact .inl rfl
    | cons n r =>
      rw [splitF]
      split
      · exact .inr (.inr rfl)
      · split
        · exact .inr (.inl rfl)
        · split
          · exact .inl rfl
          · exact ih _
theorem len_conf {c : Cf} (h : COk c) : (confL c).getD 2 0 + 256 * (confL c).getD 3 0 = ((confL c).length : Int) ∧ 9 ≤ (confL c).length := by
  have hl := confL_le h
  rw [confL_length] at hl ⊢
  refine ⟨?_, by omega⟩
  have hcf : confL c = [9, 2] ++ wrd (9 + ((facesL 0 c.fs).length : Int)) ++ [(c.fs.length : Int), c.va, c.na, c.atr, c.po] ++ facesL 0 c.fs := rfl
  rw [hcf]
  simp only [wrd, List.cons_append, List.nil_append, List.getD, List.getElem?_cons_succ, List.getElem?_cons_zero, Option.getD_some]
  omega
/-- no shorter front of a configuration's text is such a text -/
theorem cut_not {c c' : Cf} {n : Nat} (h : chkC c = 0) (hn : n < (confL c).length) : ¬ isT ((confL c).take n) c' := by
  intro ⟨h1, h2⟩
  obtain ⟨e1, e2⟩ := len_conf (chkC_ok h)
  obtain ⟨f1, f2⟩ := len_conf (chkC_ok h1)
  have hl : (confL c').length = n := by rw [h2, List.length_take]; omega
  have g2 : (confL c').getD 2 0 = (confL c).getD 2 0 := by rw [h2, List.getD_eq_getElem?_getD, List.getElem?_take_of_lt (by omega), ← List.getD_eq_getElem?_getD]
  have g3 : (confL c').getD 3 0 = (confL c).getD 3 0 := by rw [h2, List.getD_eq_getElem?_getD, List.getElem?_take_of_lt (by omega), ← List.getD_eq_getElem?_getD]
  rw [g2, g3, e1] at f1
  omega
set_option maxRecDepth 100000 in
set_option maxHeartbeats 4000000 in
theorem walk_of (hco : CoAll) (a0 : Cf) (c0 : Value) (L0 : FL) (a1 : Int) (w1 : (Lit.int .i64 a1).wf = true) (w : World) (hc0 : Rc w c0 a0 L0) :
    Calls Try.prog 5 #[cfV a0 c0, .int .i64 a1] w fun e w' => e = .returned (.bool true) ∧ Below w.heap.size w w' := by
  have HL : Hid (∀ w : World, Calls Try.prog 12 #[] w fun e w' => e = .returned (.bool true) ∧ Below w.heap.size w w') := descLives_any
  obtain ⟨w0, hw0⟩ : ∃ w0, w.alloc (.cells #[.int .i64 a0.va, .int .i64 a0.na, .int .i64 a0.atr, .int .i64 a0.po, c0] 26) = w0 := ⟨_, rfl⟩
  have hb0 : Below w.heap.size w w0 := by rw [← hw0]; exact balloc _ _
  obtain ⟨x0, x1, x2, x3, x4⟩ := box5 (show w0.heap[w.heap.size]? = some (.cells #[.int .i64 a0.va, .int .i64 a0.na, .int .i64 a0.atr, .int .i64 a0.po, c0] 26) by rw [← hw0]; exact (MapKept.heap_alloc w _).1)
  have HC0 : Hid (Rc w0 c0 a0 L0) := hc0.below hb0
  have HW : Hid (Calls Try.prog 11 #[cfV a0 c0] w0 fun e w' => e = .returned (.tuple #[.string (wcT a0), .int .i64 (chkC a0)]) ∧ Below w0.heap.size w0 w') := writeConfig_any a0 c0 L0 w0 HC0.out
  have HB0 : Hid (Below w.heap.size w w0) := hb0
  obtain ⟨a, n0, cap, rfl⟩ : ∃ a n c, c0 = .slice a n c := by obtain ⟨a, c, h, _⟩ := hc0.fs.row; exact ⟨_, _, _, h⟩
  by_cases hz : chkC a0 = 0
  · have hok := chkC_ok hz
    have hbb : ∀ f ∈ a0.fs, BB f.ex := fun f hf => by
      rw [← hc0.eq] at hf
      obtain ⟨q, hq, rfl⟩ := List.mem_map.1 hf
      exact (hc0.fs.all q hq).bb
    have hbt := byt_confL hok hbb
    have hcl := confL_le hok
    have hT : wcT a0 = strOfNums (confL a0) := by unfold wcT; rw [if_pos hz]
    rw [hz, hT] at HW
    have hns := nums_str _ hbt
    have hss := str_size (confL a0)
    have hTz : (strOfNums (confL a0)).size ≤ 413 := by omega
    by_cases hin : 0 ≤ a1 ∧ a1 < ((strOfNums (confL a0)).size : Int)
    · obtain ⟨i0, i1⟩ := hin
      have hnum : nums ((strOfNums (confL a0)).extract 0 a1.toNat) = (confL a0).take a1.toNat := by rw [nums_extract, hns, List.drop_zero]
      have hxs : ((strOfNums (confL a0)).extract 0 a1.toNat).size ≤ 413 := by rw [ByteArray.size_extract]; omega
      have HR : Hid (∀ w : World, Calls Try.prog 13 #[.string ((strOfNums (confL a0)).extract 0 a1.toNat)] w fun e w' => ∃ v z, e = .returned (.tuple #[v, .int .i64 z]) ∧ (z = 3 ∨ z = 4) ∧ Below w.heap.size w w') := fun w => by
        refine (readConfig_of hco _ w (by unfold maxLen; omega)).mono ?_
        intro e w' hr
        rcases hr with ⟨h1, rfl, h2⟩ | ⟨h1, h2, rfl, h3⟩ | ⟨c, vf, L, X, h1, h2, _⟩
        · refine ⟨_, _, rfl, ?_, h2⟩
          have hl : ¬ 512 < (nums ((strOfNums (confL a0)).extract 0 a1.toNat)).length := by rw [nums_length]; omega
          unfold splC at h1 ⊢
          rw [if_neg hl] at h1 ⊢
          rcases code_splitF (nums ((strOfNums (confL a0)).extract 0 a1.toNat)).length (nums ((strOfNums (confL a0)).extract 0 a1.toNat)) with k | k | k
          · exact absurd k h1
          · exact .inl k
          · exact .inr k
        · exact ⟨_, _, rfl, .inr rfl, h3⟩
        · rw [hnum] at h2
          exact absurd h2 (cut_not hz (by omega))
      have hsl : ∀ W : World, (Instr.slice 9 (.string (strOfNums (confL a0))) none (some (.int .i64 a1)) none).run Try.prog W = .ok (.string ((strOfNums (confL a0)).extract 0 a1.toNat)) W := fun W =>
        run_slice_string_h (P := Try.prog) (w := W) 9 (strOfNums (confL a0)) Try.underlying9 .i64 a1 i0 (by omega)
      generalize (strOfNums (confL a0)).extract 0 a1.toNat = S at *
      generalize strOfNums (confL a0) = T at *
      obtain ⟨va, na, atr, po, fs⟩ := a0
      simp only at *
      clear hz hb0 hok hbb hbt hT hns hss hcl hc0 HC0 hnum hxs
      go_enter Try.func5, Try.ntmps5
      go_wp2_with fail
      refine HW.out.mono ?_
      rintro e wa ⟨rfl, ha⟩
      have HBa : Hid (Below w.heap.size w wa) := bsq HB0.out ha
      clear ha
      go_wp2_with fail
      refine (HL.out _).mono ?_
      rintro e wb ⟨rfl, hb⟩
      have HBb : Hid (Below w.heap.size w wb) := bsq HBa.out hb
      clear hb
      go_wp2_with fail
      refine (HR.out _).mono ?_
      rintro e wc ⟨v, z, rfl, hzz, hb⟩
      have HBc : Hid (Below w.heap.size w wc) := bsq HBb.out hb
      clear hb
      rcases hzz with rfl | rfl
      · go_wp2
        go_ret
        exact ⟨rfl, HBc.out⟩
      · go_wp2
        go_ret
        exact ⟨rfl, HBc.out⟩
    · have hout : a1 < 0 ∨ ((strOfNums (confL a0)).size : Int) ≤ a1 := by omega
      generalize strOfNums (confL a0) = T at *
      obtain ⟨va, na, atr, po, fs⟩ := a0
      simp only at *
      clear hz hb0 hok hbb hbt hT hns hss hcl hc0 HC0 hin
      go_enter Try.func5, Try.ntmps5
      go_wp2_with fail
      refine HW.out.mono ?_
      rintro e wa ⟨rfl, ha⟩
      have HBa : Hid (Below w.heap.size w wa) := bsq HB0.out ha
      clear ha
      go_wp2_with fail
      refine (HL.out _).mono ?_
      rintro e wb ⟨rfl, hb⟩
      have HBb : Hid (Below w.heap.size w wb) := bsq HBa.out hb
      clear hb
      rcases hout with ho | ho
      · go_wp2_with fail
        refine (HL.out _).mono ?_
        rintro e wc ⟨rfl, hb⟩
        have HBc : Hid (Below w.heap.size w wc) := bsq HBb.out hb
        go_wp2
        go_ret
        exact ⟨rfl, HBc.out⟩
      · by_cases ho2 : a1 < 0
        · go_wp2_with fail
          refine (HL.out _).mono ?_
          rintro e wc ⟨rfl, hb⟩
          have HBc : Hid (Below w.heap.size w wc) := bsq HBb.out hb
          go_wp2
          go_ret
          exact ⟨rfl, HBc.out⟩
        · go_wp2_with fail
          refine (HL.out _).mono ?_
          rintro e wc ⟨rfl, hb⟩
          have HBc : Hid (Below w.heap.size w wc) := bsq HBb.out hb
          go_wp2
          go_ret
          exact ⟨rfl, HBc.out⟩
  · have hzz : (chkC a0 != 0) = true := by simpa using hz
    generalize chkC a0 = z at *
    generalize wcT a0 = T at *
    obtain ⟨va, na, atr, po, fs⟩ := a0
    simp only at *
    clear hz hc0 HC0 hb0
    go_enter Try.func5, Try.ntmps5
    go_wp2_with fail
    refine HW.out.mono ?_
    rintro e wa ⟨rfl, ha⟩
    have HBa : Hid (Below w.heap.size w wa) := bsq HB0.out ha
    clear ha
    go_wp2_with fail
    refine (HL.out _).mono ?_
    rintro e wb ⟨rfl, hb⟩
    have HBb : Hid (Below w.heap.size w wb) := bsq HBa.out hb
    clear hb
    go_wp2_with fail
    refine (HL.out _).mono ?_
    rintro e wc ⟨rfl, hb⟩
    have HBc : Hid (Below w.heap.size w wc) := bsq HBb.out hb
    go_wp2
    go_ret
    exact ⟨rfl, HBc.out⟩
end Go.Proofs.Ytilfenijbbhfjab.descCut
