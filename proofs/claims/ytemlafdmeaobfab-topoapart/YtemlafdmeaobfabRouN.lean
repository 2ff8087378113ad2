/- route: the plain mathematics of a path's number. No program is named here. -/
import Derived.Test.YtemlafdmeaobfabRouM
import Derived.WalkKit
namespace Go.Proofs.Ytemlafdmeaobfab.route
set_option linter.unusedVariables false
set_option linter.unusedSimpArgs false

/-- the number of a path: the first port lowest -/
def num : List Int → Int
  | [] => 0
  | p :: ps => p + 16 * num ps
/-- the first f digits of base 16 of a number, the lowest first, none behind the last that is not 0 -/
def dg : Nat → Nat → List Int
  | 0, _ => []
  | f + 1, n => if n = 0 then [] else ((n % 16 : Nat) : Int) :: dg f (n / 16)
theorem dg_zero (f : Nat) : dg f 0 = [] := by cases f <;> rfl
theorem dg_pos {f n : Nat} (h : n ≠ 0) : dg (f + 1) n = ((n % 16 : Nat) : Int) :: dg f (n / 16) := by simp [dg, h]
theorem dg_len : ∀ (f n : Nat), (dg f n).length ≤ f
  | 0, _ => by simp [dg]
  | f + 1, n => by
    by_cases h : n = 0
    · subst h; rw [dg_zero]; simp
    · rw [dg_pos h]; have := dg_len f (n / 16); simp; omega
theorem dg_more : ∀ (f k n : Nat), n < 16 ^ f → dg (f + k) n = dg f n
  | 0, k, n, h => by
    have : n = 0 := by simpa using h
    subst this; rw [dg_zero, dg_zero]
  | f + 1, k, n, h => by
    by_cases hn : n = 0
    · subst hn; rw [dg_zero, dg_zero]
    · rw [show f + 1 + k = (f + k) + 1 by omega, dg_pos hn, dg_pos hn, dg_more f k (n / 16) (by rw [Nat.pow_succ] at h; omega)]
theorem dg_num : ∀ (f n : Nat), n < 16 ^ f → num (dg f n) = (n : Int)
  | 0, n, h => by
    have : n = 0 := by simpa using h
    subst this; rfl
  | f + 1, n, h => by
    by_cases hn : n = 0
    · subst hn; rw [dg_zero]; rfl
    · rw [dg_pos hn]
      have := dg_num f (n / 16) (by rw [Nat.pow_succ] at h; omega)
      show _ + 16 * num _ = _
      rw [this]
      omega
/-- a greater number has more digits -/
theorem dg_long : ∀ (f k n : Nat), 16 ^ f ≤ n → f + 1 ≤ (dg (f + 1 + k) n).length
  | 0, k, n, h => by
    have hn : n ≠ 0 := by simp at h; omega
    rw [show 0 + 1 + k = k + 1 by omega, dg_pos hn]; simp
  | f + 1, k, n, h => by
    have hn : n ≠ 0 := by
      intro e; subst e
      have := Nat.pow_pos (n := f + 1) (show 0 < 16 by omega); omega
    rw [show f + 1 + 1 + k = (f + 1 + k) + 1 by omega, dg_pos hn]
    have := dg_long f k (n / 16) (by rw [Nat.pow_succ] at h; omega)
    simp; omega
theorem num_nat : ∀ (ps : List Int), (∀ p ∈ ps, 1 ≤ p ∧ p ≤ 15) → ∃ n : Nat, num ps = (n : Int) ∧ n < 16 ^ ps.length ∧ ∀ f, ps.length ≤ f → dg f n = ps
  | [], _ => ⟨0, rfl, by simp, fun f _ => dg_zero f⟩
  | p :: ps, h => by
    obtain ⟨n, h1, h2, h3⟩ := num_nat ps (fun q hq => h q (List.mem_cons_of_mem _ hq))
    obtain ⟨hp1, hp2⟩ := h p (List.mem_cons_self ..)
    refine ⟨p.toNat + 16 * n, ?_, ?_, fun f hf => ?_⟩
    · show p + 16 * num ps = _
      rw [h1]; omega
    · rw [List.length_cons, Nat.pow_succ]; omega
    · obtain ⟨g, rfl⟩ : ∃ g, f = g + 1 := ⟨f - 1, by simp at hf; omega⟩
      rw [dg_pos (by omega), show (p.toNat + 16 * n) / 16 = n by omega, show (p.toNat + 16 * n) % 16 = p.toNat by omega, h3 g (by simpa using hf)]
      congr 1
      omega
theorem num_bound {ps : List Int} (h : ∀ p ∈ ps, 1 ≤ p ∧ p ≤ 15) (hl : ps.length ≤ 6) : 0 ≤ num ps ∧ num ps < 16777216 := by
  obtain ⟨n, h1, h2, _⟩ := num_nat ps h
  have : 16 ^ ps.length ≤ 16 ^ 6 := Nat.pow_le_pow_right (by omega) hl
  have e : (16 : Nat) ^ 6 = 16777216 := by decide
  omega
/-- the digits' list of whatever number -/
def upk (n : Int) : List Int := if 0 < n then dg 16 n.toNat else []
theorem upk_num {ps : List Int} (h : ∀ p ∈ ps, 1 ≤ p ∧ p ≤ 15) (hl : ps.length ≤ 6) (h1 : 1 ≤ ps.length) : upk (num ps) = ps := by
  obtain ⟨n, e, h2, h3⟩ := num_nat ps h
  unfold upk
  have hp : 0 < num ps := by
    cases ps with
    | nil => simp at h1
    | cons p ps =>
      obtain ⟨m, e2, _⟩ := num_nat ps (fun q hq => h q (List.mem_cons_of_mem _ hq))
      have := h p (List.mem_cons_self ..)
      show 0 < p + 16 * num ps
      omega
  rw [if_pos hp, e]
  exact h3 16 (by omega)
theorem num_upk {n : Int} (h0 : 0 < n) (hm : n ≤ 9223372036854775807) : num (upk n) = n := by
  unfold upk
  rw [if_pos h0]
  have := dg_num 16 n.toNat (by have : (16 : Nat) ^ 16 = 18446744073709551616 := by decide
                                omega)
  omega
theorem dg_seven {n : Nat} (h : n < 16777216) : dg 7 n = dg 16 n := by
  have e : (16 : Nat) ^ 6 = 16777216 := by decide
  rw [show (7 : Nat) = 6 + 1 by rfl, show (16 : Nat) = 6 + 10 by rfl, dg_more 6 1 n (by omega), dg_more 6 10 n (by omega)]
theorem dg_far {n : Nat} (h : 16777216 ≤ n) : 7 ≤ (dg 7 n).length ∧ 7 ≤ (dg 16 n).length := by
  have e : (16 : Nat) ^ 6 = 16777216 := by decide
  have h1 := dg_long 6 0 n (by omega)
  have h2 := dg_long 6 9 n (by omega)
  exact ⟨h1, h2⟩
end Go.Proofs.Ytemlafdmeaobfab.route
