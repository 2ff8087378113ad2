/- runs of equal signs: plain mathematics; and when a text has no run. -/
import Derived.Test.YtbkdalgmhmaofaaDoorLaneN
import Derived.Lib.IndexMore
namespace Go.Proofs.YtbkdalgmhmaofaaDoor.lane
open Go.PlainAid

/-- no run of lim signs c, where o of them stand ahead -/
def okRun (c : Int) (lim : Nat) : Nat → List Int → Bool
  | _, [] => true
  | o, x :: r => if x = c then decide (o + 1 < lim) && okRun c lim (o + 1) r else okRun c lim 0 r
theorem okRun_same (c : Int) (lim o : Nat) (r : List Int) : okRun c lim o (c :: r) = (decide (o + 1 < lim) && okRun c lim (o + 1) r) := by simp [okRun]
theorem okRun_other {c x : Int} (lim o : Nat) (r : List Int) (h : ¬ x = c) : okRun c lim o (x :: r) = okRun c lim 0 r := by simp [okRun, h]
theorem okRun_front (c : Int) (lim n o : Nat) (l t : List Int) (h : okRun c lim o l = true) (e : l = List.replicate n c ++ t) (hn : 1 ≤ n) : o + n < lim := by
  induction n generalizing o l with
  | zero => omega
  | succ n ih =>
    rw [List.replicate_succ, List.cons_append] at e
    subst e
    rw [okRun_same, Bool.and_eq_true, decide_eq_true_eq] at h
    by_cases hz : n = 0
    · omega
    · have := ih (o + 1) _ h.2 rfl (by omega)
      omega
theorem okRun_drop (c : Int) (lim o j : Nat) (l : List Int) (h : okRun c lim o l = true) : ∃ o', okRun c lim o' (l.drop j) = true := by
  induction l generalizing o j with
  | nil => exact ⟨0, by simp [okRun]⟩
  | cons x r ih =>
    cases j with
    | zero => exact ⟨o, h⟩
    | succ j =>
      by_cases e : x = c
      · subst e
        rw [okRun_same, Bool.and_eq_true] at h
        exact ih (o + 1) j h.2
      · rw [okRun_other _ _ _ e] at h
        exact ih 0 j h
/-- a text without such a run does not contain it -/
theorem not_contains (s : ByteArray) (u : UInt8) (n o : Nat) (hn : 1 ≤ n) (h : okRun (u.toNat : Int) n o (nums s) = true) : Lib.contains s.data.toList (List.replicate n u) = false := by
  unfold Lib.contains
  rw [Lib.index_none]
  · rfl
  intro j _
  unfold Lib.occAt
  cases hp : (List.replicate n u).isPrefixOf (s.data.toList.drop j) with
  | false => rfl
  | true =>
    obtain ⟨t, ht⟩ := List.isPrefixOf_iff_prefix.1 hp
    obtain ⟨o', ho'⟩ := okRun_drop _ _ _ j _ h
    have e : (nums s).drop j = List.replicate n (u.toNat : Int) ++ t.map fun b => (b.toNat : Int) := by
      unfold nums
      rw [← List.map_drop, ← ht, List.map_append, List.map_replicate]
    have := okRun_front _ n n o' _ _ ho' e hn
    omega
theorem okRun_stuff (o : Nat) (l : List Int) (ho : o ≤ 5) : okRun 49 7 o (stuffL o l) = true := by
  induction l generalizing o with
  | nil => rfl
  | cons x r ih =>
    by_cases h : x = 49
    · subst h
      by_cases h5 : o = 5
      · subst h5
        rw [stuffL_six, okRun_same, okRun_other _ _ _ (by omega), ih 0 (by omega)]; rfl
      · rw [stuffL_one _ _ h5, okRun_same, ih (o + 1) (by omega)]
        simp; omega
    · rw [stuffL_not _ _ _ h, okRun_other _ _ _ h, ih 0 (by omega)]
theorem okRun_turn (d c : Int) (o : Nat) (a : List Int) (hr : rowB a = true) (h : okRun 49 7 o a = true) : okRun d 8 (if d = c then o + 1 else 0) (turnL c a) = true := by
  induction a generalizing c o with
  | nil => rfl
  | cons x r ih =>
    obtain ⟨hx, hr2⟩ := row_cases hr
    rcases hx with rfl | rfl
    · rw [okRun_other _ _ _ (by omega)] at h
      have e : turnL c (48 :: r) = oth c :: turnL (oth c) r := by simp [turnL]
      rw [e]
      have hi := ih (oth c) 0 hr2 h
      by_cases e1 : oth c = d
      · rw [if_pos e1.symm] at hi
        have hne : ¬ d = c := by
          intro e2
          rw [← e1] at e2
          unfold oth at e2
          split at e2 <;> omega
        rw [if_neg hne, ← e1, okRun_same]
        rw [← e1] at hi
        simpa using hi
      · rw [okRun_other _ _ _ e1]
        rw [if_neg (fun q => e1 q.symm)] at hi
        exact hi
    · rw [okRun_same, Bool.and_eq_true, decide_eq_true_eq] at h
      have e : turnL c (49 :: r) = c :: turnL c r := by simp [turnL]
      rw [e]
      have hi := ih c (o + 1) hr2 h.2
      by_cases e1 : d = c
      · subst e1
        rw [if_pos rfl] at hi ⊢
        rw [okRun_same, hi]
        simp; omega
      · rw [if_neg e1] at hi ⊢
        rw [okRun_other _ _ _ (fun q => e1 q.symm)]
        exact hi
theorem okRun_levels (d c : Int) (a : List Int) (hr : rowB a = true) (h : okRun 49 7 0 a = true) : okRun d 8 0 (c :: turnL c a) = true := by
  have hi := okRun_turn d c 0 a hr h
  by_cases e1 : d = c
  · subst e1
    rw [if_pos rfl] at hi
    rw [okRun_same]
    simpa using hi
  · rw [if_neg e1] at hi
    rw [okRun_other _ _ _ (fun q => e1 q.symm)]
    exact hi
end Go.Proofs.YtbkdalgmhmaofaaDoor.lane
