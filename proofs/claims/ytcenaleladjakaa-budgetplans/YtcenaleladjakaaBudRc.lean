/- budget, the document's answer: the order in which Planned goes, plainly. No program is named here. -/
import Derived.Test.YtcenaleladjakaaBudK
namespace Go.Proofs.Ytcenaleladjakaa.budget
set_option linter.unusedVariables false
set_option linter.unusedSimpArgs false

def grp (P : List Int) (p i : Nat) : List Nat := (List.range i).filter fun t => pN P t == p
def prs : List Nat := [1, 2, 4, 8, 16, 32]
def pre (P : List Int) (j : Nat) : List Nat := (prs.take j).flatMap fun p => grp P p P.length
/-- the tasks that have their berths ahead of task i of the j-th period -/
def hd (P : List Int) (j i : Nat) : List Nat := pre P j ++ grp P (2 ^ j) i
theorem prs_at {j : Nat} (h : j < 6) : prs[j]? = some (2 ^ j) := by
  rcases (by omega : j = 0 ∨ j = 1 ∨ j = 2 ∨ j = 3 ∨ j = 4 ∨ j = 5) with rfl | rfl | rfl | rfl | rfl | rfl <;> rfl
theorem pre_next {P : List Int} {j : Nat} (h : j < 6) : pre P (j + 1) = pre P j ++ grp P (2 ^ j) P.length := by
  unfold pre
  have hl : j < prs.length := h
  have : prs[j] = 2 ^ j := by
    have := prs_at h
    rw [List.getElem?_eq_getElem hl] at this
    injection this
  rw [List.take_succ_eq_append_getElem hl, this, List.flatMap_append]
  simp
theorem hd_turn {P : List Int} {j : Nat} (h : j < 6) : hd P j P.length = hd P (j + 1) 0 := by
  unfold hd
  rw [pre_next h]
  simp [grp]
theorem hd_zero (P : List Int) : hd P 0 0 = [] := by simp [hd, pre, grp]
theorem hd_end (P : List Int) : hd P 6 0 = ord P := by
  unfold hd pre ord grp
  simp [prs]
theorem grp_next (P : List Int) (p i : Nat) : grp P p (i + 1) = if pN P i = p then grp P p i ++ [i] else grp P p i := by
  unfold grp
  rw [List.range_succ, List.filter_append]
  by_cases h : pN P i = p
  · rw [if_pos h, List.filter_cons_of_pos (by simpa using h)]
    rfl
  · rw [if_neg h, List.filter_cons_of_neg (by simpa using h)]
    simp
theorem hd_yes {P : List Int} {j i : Nat} (h : pN P i = 2 ^ j) : hd P j (i + 1) = hd P j i ++ [i] := by
  unfold hd
  rw [grp_next, if_pos h, List.append_assoc]
theorem hd_no {P : List Int} {j i : Nat} (h : ¬ pN P i = 2 ^ j) : hd P j (i + 1) = hd P j i := by
  unfold hd
  rw [grp_next, if_neg h]
theorem pre_all {P : List Int} : ∀ {j : Nat}, j ≤ 6 → ∃ R, ord P = pre P j ++ R := fun {j} hj => by
  refine ⟨(prs.drop j).flatMap fun p => grp P p P.length, ?_⟩
  unfold pre
  rw [← List.flatMap_append, List.take_append_drop]
  rfl
theorem grp_front (P : List Int) (p i d : Nat) : ∃ R, grp P p (i + d) = grp P p i ++ R := by
  induction d with
  | zero => exact ⟨[], by simp⟩
  | succ d ih =>
    obtain ⟨R, hR⟩ := ih
    rw [← Nat.add_assoc, grp_next]
    split
    · exact ⟨R ++ [i + d], by rw [hR, List.append_assoc]⟩
    · exact ⟨R, hR⟩
theorem hd_front {P : List Int} {j i : Nat} (hj : j < 6) (hi : i ≤ P.length) : ∃ R, ord P = hd P j i ++ R := by
  obtain ⟨R, hR⟩ := pre_all (P := P) (j := j + 1) (by omega)
  obtain ⟨Q, hQ⟩ := grp_front P (2 ^ j) i (P.length - i)
  rw [show i + (P.length - i) = P.length by omega] at hQ
  refine ⟨Q ++ R, ?_⟩
  rw [hR, pre_next hj, hQ]
  simp [hd]
/-- a plan that is being made, its tasks H done -/
structure Pk (P : List Int) (M : Nat) (H : List Nat) (B : List Bt) : Prop where
  mm : Mk P M H B
  pl : ∃ R, ord P = H ++ R ∧ plan P M = pln P M R H B
theorem Pk.zero (P : List Int) (M : Nat) : Pk P M [] (zB P.length) := ⟨mk0 P M, ord P, by simp, rfl⟩
section
variable {P : List Int} {M : Nat} {H : List Nat} {B : List Bt} {i : Nat}
theorem Pk.head (h : Pk P M H B) (hf : ∃ R, ord P = (H ++ [i]) ++ R) : ∃ R, ord P = H ++ i :: R ∧ plan P M = pln P M (i :: R) H B ∧ i ∉ H := by
  obtain ⟨R, h1, h2⟩ := h.pl
  obtain ⟨Q, hQ⟩ := hf
  rw [List.append_assoc, h1] at hQ
  have e : R = i :: Q := by simpa using List.append_cancel_left hQ
  subst e
  refine ⟨Q, h1, h2, fun q => ?_⟩
  have hn := ord_nodup P
  rw [h1, List.nodup_append] at hn
  exact hn.2.2 i q i (by simp) rfl
theorem Pk.none (h : Pk P M H B) (hf : ∃ R, ord P = (H ++ [i]) ++ R) (hn : fit (sOf P H B) (pN P i) M = none) : plan P M = none := by
  obtain ⟨R, _, h2, _⟩ := h.head hf
  rw [h2]
  unfold pln
  rw [hn]
theorem Pk.next (h : Pk P M H B) (hP : okP P) (hi : i < P.length) (hf : ∃ R, ord P = (H ++ [i]) ++ R) {k : Nat} (hk : fit (sOf P H B) (pN P i) M = some k) : Pk P M (H ++ [i]) (B.set i (k / pN P i, k % pN P i)) := by
  obtain ⟨R, h1, h2, h3⟩ := h.head hf
  refine ⟨h.mm.next hP h3 hi hk, R, by rw [h1, List.append_assoc]; rfl, ?_⟩
  rw [h2]
  conv => lhs; unfold pln
  rw [hk]
theorem Pk.done (h : Pk P M (ord P) B) : plan P M = some B := by
  obtain ⟨R, h1, h2⟩ := h.pl
  have : R = [] := by simpa using List.append_cancel_left (as := ord P) (bs := R) (cs := []) (by rw [← h1]; simp)
  subst this
  rw [h2]
  rfl
end
end Go.Proofs.Ytcenaleladjakaa.budget
