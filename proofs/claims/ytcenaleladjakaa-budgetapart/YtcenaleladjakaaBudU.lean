/- budget: a plan that is told is right. -/
import Derived.Test.YtcenaleladjakaaBudT
namespace Go.Proofs.Ytcenaleladjakaa.budget
open Go Go.RowKit
set_option linter.unusedVariables false
set_option linter.unusedSimpArgs false
set_option maxRecDepth 100000

theorem ens_at {P : List Int} {B : List Bt} {i : Nat} {p ln ph : Nat} (hi : i < P.length) (h : (ens P B)[i]? = some (p, ln, ph)) (hB : i < B.length) : pN P i = p ∧ (toI B)[i]? = some ((ln : Int), (ph : Int)) := by
  unfold ens sOf at h
  rw [List.getElem?_map, List.getElem?_range hi] at h
  simp only [Option.map_some, Option.some.injEq, Prod.mk.injEq] at h
  obtain ⟨h1, h2⟩ := h
  refine ⟨h1, ?_⟩
  unfold toI
  rw [List.getElem?_map, List.getElem?_eq_getElem hB]
  rw [List.getD_eq_getElem?_getD, List.getElem?_eq_getElem hB] at h2
  simp only [Option.getD_some] at h2
  simp [h2]
theorem ens_toI {P : List Int} {B : List Bt} (hP : okP P) (hB : B.length = P.length) : ensI P (toI B) = ens P B := by
  apply List.ext_getElem?
  intro j
  by_cases hj : j < P.length
  · unfold ensI ens sOf
    rw [List.getElem?_map, List.getElem?_map, List.getElem?_range hj]
    have e2 : (toI B)[j]? = some (((B.getD j (0, 0)).1 : Int), ((B.getD j (0, 0)).2 : Int)) := by
      unfold toI
      rw [List.getElem?_map, List.getElem?_eq_getElem (by omega), List.getD_eq_getElem?_getD, List.getElem?_eq_getElem (by omega)]
      rfl
    rw [zip_at (List.getElem?_eq_getElem hj) e2]
    simp [enI, pN, hj]
  · rw [List.getElem?_eq_none (by unfold ensI; simp; omega), List.getElem?_eq_none (by unfold ens sOf; simp; omega)]
theorem plan_right {P : List Int} {M : Nat} (hP : okP P) (hl : P.length ≤ 64) (hM1 : 1 ≤ M) (hM8 : M ≤ 8) {B : List Bt} (h : plan P M = some B) : chkP P (toI B) (M : Int) = 0 := by
  have hen := plan_ens hP h
  have h0 : chk P (M : Int) = 0 := by
    unfold chk
    rw [if_neg (by omega), if_neg (by omega), if_neg]
    intro q
    obtain ⟨p, hp, hq⟩ := List.any_eq_true.1 q
    have := nop_iff.2 (hP p hp)
    rw [hq] at this
    exact absurd this (by simp)
  have h1 : (toI B).length = P.length := by rw [toI_len, hen.1]
  have h2 : areB P (toI B) (M : Int) = true := by
    unfold areB
    rw [List.all_eq_true]
    intro x hx
    obtain ⟨j, hj, e⟩ := List.mem_iff_getElem.1 hx
    have hj' : j < P.length := by simp at hj; omega
    obtain ⟨⟨p, ln, ph⟩, hx2⟩ : ∃ y, (ens P B)[j]? = some y := ⟨_, List.getElem?_eq_getElem (by unfold ens sOf; simpa using hj')⟩
    have hv := hen.2.1 _ (List.mem_of_getElem? hx2)
    have h3 := ens_at hj' hx2 (by rw [hen.1]; exact hj')
    have e1 : P[j]? = some (p : Int) := by rw [List.getElem?_eq_getElem hj', ← getD_at hj', (hP.at hj').2, h3.1]
    have e3 := zip_at e1 h3.2
    rw [List.getElem?_eq_getElem hj, e] at e3
    injection e3 with e3
    rw [e3]
    have hph : ph < p := hv.ph
    have hln : ln < M := hv.ln
    refine goodB_iff.2 ⟨?_, ?_, ?_, ?_⟩ <;> simp only <;> omega
  have h3 : dcl [] (ensI P (toI B)) = false := by
    rw [ens_toI hP hen.1]
    refine (dcl_iff (ens P B) [] List.Pairwise.nil).2 ?_
    simpa using hen.2.2
  unfold chkP
  rw [if_pos h0, if_pos h1, if_pos h2, h3]
  rfl
end Go.Proofs.Ytcenaleladjakaa.budget
