/- slots, the document's answer: the plain mathematics of Configured. No program is named here. -/
import Derived.Test.YtfhlbndilkidhaaSltS
namespace Go.Proofs.Ytfhlbndilkidhaa.slots
set_option linter.unusedVariables false

/-- is a bit from 2 on below k in the set? -/
def anyB (a : Int) : Nat → Bool
  | 0 => false
  | k + 1 => anyB a k || (decide (2 ≤ k) && bit a k == 1)
def rfN (s : List Int) (a : Int) (k j : Nat) : Int :=
  if j = 0 then (if anyB a k = true then 3 else 2)
  else if j = 1 ∨ j = 3 ∨ j = 35 then cl s j
  else if 4 ≤ j ∧ j < 34 ∧ j < k + 2 then (if bit a (j - 2) = 1 then (if 1 < cl s j then cl s j else 1) else 0)
  else if 36 ≤ j ∧ j < k + 34 then (if bit a (j - 34) = 1 then cl s j else 0) else 0
def rfL (s : List Int) (a : Int) (k : Nat) : List Int := (List.range 66).map (rfN s a k)
theorem rfL_length (s : List Int) (a : Int) (k : Nat) : (rfL s a k).length = 66 := by simp [rfL]
theorem cl_rfL {s : List Int} {a : Int} {k j : Nat} (h : j < 66) : cl (rfL s a k) j = rfN s a k j := cl_map h
def two66 (x : Int) : List Int := 2 :: x :: List.replicate 64 0
theorem two_len (x : Int) : (two66 x).length = 66 := by simp [two66]
theorem cl_two {x : Int} {j : Nat} : cl (two66 x) j = if j = 0 then 2 else if j = 1 then x else 0 := by
  unfold cl two66
  match j with
  | 0 => rfl
  | 1 => rfl
  | j + 2 =>
    rw [if_neg (by omega), if_neg (by omega), List.getD_eq_getElem?_getD, List.getElem?_cons_succ, List.getElem?_cons_succ, List.getElem?_replicate]
    split <;> rfl
theorem rf_start {s : List Int} {a : Int} : ((two66 (cl s 1)).set 3 (cl s 3)).set 35 (cl s 35) = rfL s a 2 := by
  refine cl_ext (n := 66) (by simp [two_len]) (rfL_length _ _ _) fun j hj => ?_
  rw [cl_set, cl_set, cl_two, cl_rfL hj]
  simp only [List.length_set, two_len]
  unfold rfN
  by_cases j0 : j = 0
  · subst j0; rfl
  by_cases j1 : j = 1
  · subst j1; rfl
  by_cases j3 : j = 3
  · subst j3; rfl
  by_cases j35 : j = 35
  · subst j35; rfl
  rw [if_neg (by omega), if_neg (by omega), if_neg j0, if_neg j1, if_neg j0, if_neg (by omega), if_neg (by omega), if_neg (by omega)]
theorem anyB_step {a : Int} {k : Nat} (h2 : 2 ≤ k) : anyB a (k + 1) = (anyB a k || bit a k == 1) := by
  show (anyB a k || (decide (2 ≤ k) && bit a k == 1)) = _
  rw [decide_eq_true h2, Bool.true_and]
theorem rfN_same {s : List Int} {a : Int} {k j : Nat} (h2 : 2 ≤ k) (j0 : j ≠ 0) (j1 : j ≠ 2 + k) (j2 : j ≠ 34 + k) : rfN s a k j = rfN s a (k + 1) j := by
  unfold rfN
  rw [if_neg j0, if_neg j0]
  by_cases q : j = 1 ∨ j = 3 ∨ j = 35
  · rw [if_pos q, if_pos q]
  rw [if_neg q, if_neg q]
  by_cases lo : 4 ≤ j ∧ j < 34 ∧ j < k + 2
  · rw [if_pos lo, if_pos (show 4 ≤ j ∧ j < 34 ∧ j < k + 1 + 2 by omega)]
  rw [if_neg lo, if_neg (show ¬ (4 ≤ j ∧ j < 34 ∧ j < k + 1 + 2) by omega)]
  by_cases hi : 36 ≤ j ∧ j < k + 34
  · rw [if_pos hi, if_pos (show 36 ≤ j ∧ j < k + 1 + 34 by omega)]
  rw [if_neg hi, if_neg (show ¬ (36 ≤ j ∧ j < k + 1 + 34) by omega)]
theorem rfN_lo {s : List Int} {a : Int} {k j : Nat} (lo : 4 ≤ j ∧ j < 34 ∧ j < k + 2) : rfN s a k j = if bit a (j - 2) = 1 then (if 1 < cl s j then cl s j else 1) else 0 := by
  unfold rfN
  rw [if_neg (show ¬ j = 0 by omega), if_neg (show ¬ (j = 1 ∨ j = 3 ∨ j = 35) by omega), if_pos lo]
theorem rfN_hi {s : List Int} {a : Int} {k j : Nat} (hi : 36 ≤ j ∧ j < k + 34) : rfN s a k j = if bit a (j - 34) = 1 then cl s j else 0 := by
  unfold rfN
  rw [if_neg (show ¬ j = 0 by omega), if_neg (show ¬ (j = 1 ∨ j = 3 ∨ j = 35) by omega), if_neg (show ¬ (4 ≤ j ∧ j < 34 ∧ j < k + 2) by omega), if_pos hi]
theorem rfN_z {s : List Int} {a : Int} {k j : Nat} (j0 : ¬ j = 0) (q : ¬ (j = 1 ∨ j = 3 ∨ j = 35)) (lo : ¬ (4 ≤ j ∧ j < 34 ∧ j < k + 2)) (hi : ¬ (36 ≤ j ∧ j < k + 34)) : rfN s a k j = 0 := by
  unfold rfN
  rw [if_neg j0, if_neg q, if_neg lo, if_neg hi]
theorem rf_out {s : List Int} {a : Int} {k : Nat} (h2 : 2 ≤ k) (hk : k < 32) (hb : ¬ bit a k = 1) : rfL s a k = rfL s a (k + 1) := by
  refine cl_ext (n := 66) (rfL_length _ _ _) (rfL_length _ _ _) fun j hj => ?_
  rw [cl_rfL hj, cl_rfL hj]
  by_cases j0 : j = 0
  · subst j0
    unfold rfN
    rw [if_pos rfl, if_pos rfl, anyB_step h2]
    have : (bit a k == 1) = false := by simpa using hb
    rw [this, Bool.or_false]
  by_cases j1 : j = 2 + k
  · rw [rfN_z j0 (by omega) (by omega) (by omega), rfN_lo (by omega), show j - 2 = k by omega, if_neg hb]
  by_cases j2 : j = 34 + k
  · rw [rfN_z j0 (by omega) (by omega) (by omega), rfN_hi (by omega), show j - 34 = k by omega, if_neg hb]
  exact rfN_same h2 j0 j1 j2
theorem rf_in {s : List Int} {a : Int} {k : Nat} (h2 : 2 ≤ k) (hk : k < 32) (hb : bit a k = 1) : (((rfL s a k).set 0 3).set (2 + k) (if 1 < cl s (2 + k) then cl s (2 + k) else 1)).set (34 + k) (cl s (34 + k)) = rfL s a (k + 1) := by
  refine cl_ext (n := 66) (by simp [rfL_length]) (rfL_length _ _ _) fun j hj => ?_
  rw [cl_set, cl_set, cl_set, cl_rfL hj, cl_rfL hj]
  simp only [List.length_set, rfL_length]
  by_cases j2 : j = 34 + k
  · rw [if_pos ⟨j2, by omega⟩, rfN_hi (by omega), show j - 34 = k by omega, if_pos hb, j2]
  rw [if_neg (fun h => j2 h.1)]
  by_cases j1 : j = 2 + k
  · rw [if_pos ⟨j1, by omega⟩, rfN_lo (by omega), show j - 2 = k by omega, if_pos hb, j1]
  rw [if_neg (fun h => j1 h.1)]
  by_cases j0 : j = 0
  · rw [if_pos ⟨j0, by omega⟩]
    subst j0
    unfold rfN
    rw [if_pos rfl, anyB_step h2]
    have : (bit a k == 1) = true := by simpa using hb
    rw [this, Bool.or_true, if_pos rfl]
  rw [if_neg (fun h => j0 h.1)]
  exact rfN_same h2 j0 j1 j2
theorem anyB_iff {a : Int} : ∀ {k : Nat}, anyB a k = true ↔ ∃ i, 2 ≤ i ∧ i < k ∧ bit a i = 1
  | 0 => ⟨fun h => absurd h (by simp [anyB]), fun ⟨i, _, h, _⟩ => absurd h (by omega)⟩
  | k + 1 => by
    show (anyB a k || (decide (2 ≤ k) && bit a k == 1)) = true ↔ _
    rw [Bool.or_eq_true, anyB_iff, Bool.and_eq_true, decide_eq_true_eq, beq_iff_eq]
    constructor
    · rintro (⟨i, h1, h2, h3⟩ | ⟨h1, h2⟩)
      · exact ⟨i, h1, by omega, h3⟩
      · exact ⟨k, h1, by omega, h2⟩
    · rintro ⟨i, h1, h2, h3⟩
      by_cases q : i = k
      · subst q; exact .inr ⟨h1, h3⟩
      · exact .inl ⟨i, h1, by omega, h3⟩
theorem rf_end {s : List Int} {a : Int} (hs : s.length = 66) (hb : Big s) (ha : stB a = true) : rfL s a 32 = cfgd s a := by
  have hr := fun (k : Nat) (hk : k < 32) => right_en (right_iff.2 (.inr (.inr hb))) (k := k) hk
  refine cl_ext (n := 66) (rfL_length _ _ _) (by unfold cfgd; rw [List.length_set, cfL_length]) fun j hj => ?_
  rw [cl_rfL hj, cl_cfgd hs hj]
  by_cases j0 : j = 0
  · rw [if_pos j0, j0]
    unfold rfN
    rw [if_pos rfl]
    by_cases z : a = 0
    · rw [if_pos z, if_neg]
      intro h
      obtain ⟨i, _, _, h3⟩ := anyB_iff.1 h
      rw [z, bit_zero] at h3
      omega
    · rw [if_neg z, if_pos]
      refine anyB_iff.2 ?_
      by_cases q : ∃ i, 2 ≤ i ∧ i < 32 ∧ bit a i = 1
      · exact q
      · exact absurd (bits_zero ha fun i h1 h2 => by
          rcases bit_01 a i with b | b
          · exact b
          · exact absurd ⟨i, h1, h2, b⟩ q) z
  rw [if_neg j0]
  by_cases q : j = 1 ∨ j = 3 ∨ j = 35
  · rw [cfN_no (by omega) (by omega)]
    unfold rfN
    rw [if_neg j0, if_pos q]
  by_cases lo : 4 ≤ j ∧ j < 34 ∧ j < 32 + 2
  · rw [rfN_lo lo, cfN_lo lo]
    have := hr (j - 2) (by omega)
    unfold en at this
    rw [show 2 + (j - 2) = j by omega] at this
    rcases bit_01 a (j - 2) with b | b
    · rw [if_neg (by omega), if_pos b]
    · have b0 : ¬ bit a (j - 2) = 0 := by omega
      rw [if_pos b, if_neg b0]
      by_cases c : cl s j = 0
      · rw [if_pos c, if_neg (by omega)]
      · rw [if_neg c]
        by_cases c1 : 1 < cl s j
        · rw [if_pos c1]
        · rw [if_neg c1]; omega
  by_cases hi : 36 ≤ j ∧ j < 32 + 34
  · rw [rfN_hi hi, cfN_hi hi]
    rcases bit_01 a (j - 34) with b | b
    · rw [if_neg (by omega), if_pos b]
    · rw [if_pos b, if_neg (by omega)]
  rw [rfN_z j0 q lo hi, cfN_no lo hi]
  have hj2 : j = 2 ∨ j = 34 := by omega
  have h0 := hr 0 (by omega)
  have he := hb.e0
  rcases hj2 with z | z
  · subst z; exact he.symm
  · subst z; exact (h0.2.2.2.2 he).symm
end Go.Proofs.Ytfhlbndilkidhaa.slots
