/- budget: how often each task comes in 32 frames, plainly. -/
import Derived.Test.YtcenaleladjakaaBudRb
namespace Go.Proofs.Ytcenaleladjakaa.budget
open Go Go.RowKit
set_option linter.unusedVariables false
set_option linter.unusedSimpArgs false
set_option maxRecDepth 100000

theorem shift_tbl : ([1, 2, 4, 8, 16, 32].all fun p => (List.range p).all fun s => (List.range p).all fun g => sumN 32 (fun q => if (s + q) % p == g then 1 else 0) == 32 / p) = true := by decide +kernel
theorem shift_one {p g F : Nat} (hp : okp p = true) (hg : g < p) : sumN 32 (fun q => if (F + q) % p == g then 1 else 0) = 32 / p := by
  have hp' : p ∈ [1, 2, 4, 8, 16, 32] := by simpa using okp_iff.1 hp
  have hp0 : 0 < p := by omega
  have h := List.all_eq_true.1 (List.all_eq_true.1 (List.all_eq_true.1 shift_tbl p hp') (F % p) (List.mem_range.2 (Nat.mod_lt _ hp0))) g (List.mem_range.2 hg)
  rw [← beq_iff_eq.1 h]
  exact sumN_congr fun q _ => by rw [Nat.mod_add_mod]
/-- the frames of the first r, from F on, in which a berth comes -/
def tm (F r : Nat) (x : En) : Nat := sumN r fun q => if (F + q) % x.1 == x.2.2 then 1 else 0
theorem tm_next (F r : Nat) (x : En) : tm F (r + 1) x = tm F r x + (if (F + r) % x.1 == x.2.2 then 1 else 0) := sumN_succ _ _
theorem tm_le (F r : Nat) (x : En) : tm F r x ≤ r := by
  have := sumN_le (n := r) (c := 1) (g := fun q => if (F + q) % x.1 == x.2.2 then 1 else 0) (fun q _ => by split <;> omega)
  unfold tm
  omega
section
variable {E : List En} {G M : Nat}
theorem cntR {i : Nat} (l : Nat) : ∀ k, (ldR E G l k).count (i : Int) = if i < k ∧ has l G (E.getD i (0, 0, 0)) = true then 1 else 0
  | 0 => by simp [ldR]
  | k + 1 => by
    rw [ldR_next, List.count_append, cntR l k]
    by_cases e : i = k
    · subst e
      by_cases h : has l G (E.getD i (0, 0, 0)) = true
      · rw [if_pos h, if_neg (by omega), if_pos ⟨by omega, h⟩]
        simp
      · rw [if_neg h, if_neg (by omega), if_neg (fun q => h q.2)]
        simp
    · have h0 : (if has l G (E.getD k (0, 0, 0)) = true then [(k : Int)] else []).count (i : Int) = 0 := by
        split
        · rw [List.count_cons, List.count_nil, if_neg (by simp; omega)]
        · rfl
      rw [h0, Nat.add_zero]
      by_cases h : i < k ∧ has l G (E.getD i (0, 0, 0)) = true
      · rw [if_pos h, if_pos ⟨by omega, h.2⟩]
      · rw [if_neg h, if_neg (fun q => h ⟨by omega, q.2⟩)]
theorem cntA {i : Nat} {x : En} (hx : E[i]? = some x) : ∀ l, (ldA E G l).count (i : Int) = if x.2.1 < l ∧ G % x.1 = x.2.2 then 1 else 0
  | 0 => by simp [ldA]
  | l + 1 => by
    have hi := (List.getElem?_eq_some_iff.1 hx).1
    rw [ldA_next, List.count_append, cntA hx l, cntR l, getD_E hx]
    have hh : (has l G x = true) ↔ (x.2.1 = l ∧ G % x.1 = x.2.2) := by simp [has]
    by_cases hg : G % x.1 = x.2.2
    · by_cases h1 : x.2.1 < l
      · rw [if_pos ⟨h1, hg⟩, if_neg (fun q => by have := (hh.1 q.2).1; omega), if_pos ⟨by omega, hg⟩]
      · rw [if_neg (fun q => h1 q.1)]
        by_cases h2 : x.2.1 = l
        · rw [if_pos ⟨hi, hh.2 ⟨h2, hg⟩⟩, if_pos ⟨by omega, hg⟩]
        · rw [if_neg (fun q => h2 (hh.1 q.2).1), if_neg (fun q => by have := q.1; omega)]
    · rw [if_neg (fun q => hg q.2), if_neg (fun q => hg (hh.1 q.2).2), if_neg (fun q => hg q.2)]
theorem ldR_one (hv : ∀ y ∈ E, Ve M y) (ha : Apart E) (l : Nat) : ∀ k, k ≤ E.length → (ldR E G l k).length ≤ 1
  | 0, _ => by simp [ldR]
  | k + 1, hk => by
    have ek := List.getElem?_eq_getElem (l := E) (i := k) (by omega)
    rw [ldR_next, getD_E ek]
    by_cases h : has l G E[k] = true
    · rw [if_pos h, ldR_nil hv ha ek h]
      simp
    · rw [if_neg h, List.append_nil]
      exact ldR_one hv ha l k (by omega)
theorem ldA_le (hv : ∀ y ∈ E, Ve M y) (ha : Apart E) : ∀ l, (ldA E G l).length ≤ l
  | 0 => by simp [ldA]
  | l + 1 => by
    rw [ldA_next, List.length_append]
    have := ldA_le hv ha l
    have := ldR_one (G := G) hv ha l E.length (Nat.le_refl _)
    omega
theorem ldR_mem {l k : Nat} {y : Int} (h : y ∈ ldR E G l k) : ∃ t, t < k ∧ y = (t : Int) := by
  unfold ldR at h
  obtain ⟨t, ht, rfl⟩ := List.mem_map.1 h
  exact ⟨t, List.mem_range.1 (List.mem_filter.1 ht).1, rfl⟩
theorem ldA_mem {l : Nat} {y : Int} (h : y ∈ ldA E G l) : ∃ t, t < E.length ∧ y = (t : Int) := by
  unfold ldA at h
  obtain ⟨j, _, hj⟩ := List.mem_flatMap.1 h
  exact ldR_mem hj
end
/-- each index of l is counted up -/
def bump (A : List Int) (l : List Int) : List Int := l.foldl (fun A y => A.set y.toNat (A.getD y.toNat 0 + 1)) A
theorem bump_len (l : List Int) : ∀ A, (bump A l).length = A.length := by
  induction l with
  | nil => intro A; rfl
  | cons y l ih => intro A; unfold bump at ih ⊢; rw [List.foldl_cons, ih, List.length_set]
theorem bump_snoc (A l : List Int) (y : Int) : bump A (l ++ [y]) = (bump A l).set y.toNat ((bump A l).getD y.toNat 0 + 1) := by simp [bump, List.foldl_append]
theorem bump_at {n i : Nat} (hi : i < n) : ∀ (l : List Int) (A : List Int), A.length = n → (∀ y ∈ l, ∃ t, t < n ∧ y = ((t : Nat) : Int)) → (bump A l).getD i 0 = A.getD i 0 + (l.count (i : Int) : Int) := by
  intro l
  induction l with
  | nil => intro A hA h; simp [bump]
  | cons y l ih =>
    intro A hA h
    obtain ⟨t, ht, rfl⟩ := h y (by simp)
    have e : bump A ((t : Int) :: l) = bump (A.set t (A.getD t 0 + 1)) l := by simp [bump]
    rw [e, ih _ (by rw [List.length_set, hA]) (fun z hz => h z (by simp [hz])), List.count_cons]
    by_cases q : t = i
    · subst q
      rw [List.getD_eq_getElem?_getD, List.getElem?_set_self (by omega)]
      simp
      omega
    · rw [List.getD_eq_getElem?_getD, List.getElem?_set_ne q, ← List.getD_eq_getElem?_getD, if_neg (by simp; omega)]
      simp
/-- how often each came -/
def tms (E : List En) (F r : Nat) : List Int := E.map fun x => (tm F r x : Int)
theorem tms_zero (E : List En) (F : Nat) : tms E F 0 = List.replicate E.length 0 := by
  unfold tms tm
  simp [sumN_zero, List.map_const']
theorem tms_at {E : List En} {F r i : Nat} {x : En} (hx : E[i]? = some x) : (tms E F r).getD i 0 = (tm F r x : Int) := by
  unfold tms
  rw [List.getD_eq_getElem?_getD, List.getElem?_map, hx]
  rfl
theorem tms_next {E : List En} {M F r : Nat} (hv : ∀ y ∈ E, Ve M y) : bump (tms E F r) (ldA E (F + r) M) = tms E F (r + 1) := by
  apply List.ext_getElem?
  intro i
  have hl : (tms E F r).length = E.length := by simp [tms]
  by_cases hi : i < E.length
  · have hx := List.getElem?_eq_getElem hi
    have h1 := bump_at hi (ldA E (F + r) M) (tms E F r) hl (fun y hy => ldA_mem hy)
    rw [cntA hx M, tms_at hx] at h1
    have h2 := tms_at (F := F) (r := r + 1) hx
    rw [tm_next] at h2
    have h3 : (bump (tms E F r) (ldA E (F + r) M)).getD i 0 = (tms E F (r + 1)).getD i 0 := by
      rw [h1, h2]
      have hln := (hv _ (List.getElem_mem hi)).ln
      by_cases g : (F + r) % E[i].1 = E[i].2.2
      · rw [if_pos ⟨hln, g⟩, if_pos (by simpa using g)]
        simp
      · rw [if_neg (fun q => g q.2), if_neg (by simpa using g)]
        simp
    rw [getD_at (by rw [bump_len, hl]; exact hi), getD_at (by simp [tms]; exact hi)] at h3
    rw [List.getElem?_eq_getElem (by rw [bump_len, hl]; exact hi), List.getElem?_eq_getElem (by simp [tms]; exact hi), h3]
  · rw [List.getElem?_eq_none (by rw [bump_len, hl]; omega), List.getElem?_eq_none (by simp [tms]; omega)]
end Go.Proofs.Ytcenaleladjakaa.budget
