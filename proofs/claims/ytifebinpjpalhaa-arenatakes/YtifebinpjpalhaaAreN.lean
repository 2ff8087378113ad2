/- arena: the plain mathematics of the document's answer: units that are taken, how many there are, how many free ones there are in a row. No program is named here. -/
import Derived.Test.YtifebinpjpalhaaAreM
namespace Go.Proofs.Ytifebinpjpalhaa.arena
set_option linter.unusedVariables false

def cov (u : Int) (x : Sp) : Bool := decide (x.1 ≤ u) && decide (u < x.1 + x.2)
theorem cov_iff {u : Int} {x : Sp} : cov u x = true ↔ x.1 ≤ u ∧ u < x.1 + x.2 := by simp [cov]
/-- each unit: is it taken? -/
def tkB (L : List Sp) (u : Nat) : Bool := L.any (cov (u : Int))
def tkL (n : Nat) (L : List Sp) : List Bool := (List.range n).map (tkB L)
theorem tkL_length (n : Nat) (L : List Sp) : (tkL n L).length = n := by simp [tkL]
theorem tkL_at {n : Nat} {L : List Sp} {u : Nat} (h : u < n) : (tkL n L)[u]? = some (tkB L u) := by simp [tkL, h]
theorem set_map {n i : Nat} {f g : Nat → Bool} (hi : i < n) (hg : ∀ u, u < n → g u = if u = i then true else f u) : ((List.range n).map f).set i true = (List.range n).map g := by
  apply List.ext_getElem
  · simp
  · intro u h1 h2
    have hu : u < n := by simpa using h2
    rw [List.getElem_set]
    simp only [List.getElem_map, List.getElem_range]
    rw [hg u hu]
    by_cases q : i = u
    · rw [if_pos q, if_pos q.symm]
    · rw [if_neg q, if_neg (fun p => q p.symm)]
/-- units that k spans and j units of the next one take -/
def mid (L : List Sp) (k : Nat) (x : Sp) (j : Nat) (u : Nat) : Bool := tkB (L.take k) u || (decide (x.1 ≤ (u : Int)) && decide ((u : Int) < x.1 + (j : Int)))
theorem mid_zero (L : List Sp) (k : Nat) (x : Sp) : mid L k x 0 = tkB (L.take k) := by
  funext u
  unfold mid
  have : (decide (x.1 ≤ (u : Int)) && decide ((u : Int) < x.1 + ((0 : Nat) : Int))) = false := by
    rw [Bool.and_eq_false_iff, decide_eq_false_iff_not, decide_eq_false_iff_not]; omega
  rw [this, Bool.or_false]
theorem mid_end {L : List Sp} {k : Nat} {x : Sp} (h : L[k]? = some x) {m : Nat} (hm : x.2 = (m : Int)) : mid L k x m = tkB (L.take (k + 1)) := by
  funext u
  unfold mid tkB
  rw [List.take_add_one, h, List.any_append]
  simp [cov, hm]
theorem mid_step {L : List Sp} {k : Nat} {x : Sp} {j i n : Nat} (hi : x.1 + (j : Int) = (i : Int)) (hn : i < n) : ((List.range n).map (mid L k x j)).set i true = (List.range n).map (mid L k x (j + 1)) := by
  apply set_map hn
  intro u hu
  unfold mid
  by_cases q : u = i
  · subst q
    rw [if_pos rfl]
    have : (decide (x.1 ≤ (u : Int)) && decide ((u : Int) < x.1 + ((j + 1 : Nat) : Int))) = true := by
      rw [Bool.and_eq_true, decide_eq_true_eq, decide_eq_true_eq]; omega
    rw [this, Bool.or_true]
  · rw [if_neg q]
    congr 2
    rw [decide_eq_decide]
    omega
/-- how many are taken -/
theorem count_row {z : Nat} : ∀ (L : List Sp) (f : Nat), rowB (z : Int) (f : Int) L = true → f ≤ z → ((List.range' f (z - f)).countP (tkB L) : Int) = sumS L
  | [], f, _, _ => by
    have : (List.range' f (z - f)).countP (tkB []) = 0 := List.countP_eq_zero.2 fun u _ => by simp [tkB]
    rw [this, sum_nil]; rfl
  | x :: r, f, h, hf => by
    have hr := row_cons.1 h
    obtain ⟨a, ha⟩ : ∃ a : Nat, x.1 = (a : Int) := ⟨x.1.toNat, by omega⟩
    obtain ⟨b, hb⟩ : ∃ b : Nat, x.2 = (b : Int) := ⟨x.2.toNat, by omega⟩
    have hrow : rowB (z : Int) ((a + b : Nat) : Int) r = true := by have := hr.2; rw [ha, hb] at this; simpa using this
    have ih := count_row r (a + b) hrow (by omega)
    have hs : List.range' f (z - f) = List.range' f (a - f) ++ (List.range' a b ++ List.range' (a + b) (z - (a + b))) := by
      have h1 := List.range'_append (s := a) (m := b) (n := z - (a + b)) (step := 1)
      have h2 := List.range'_append (s := f) (m := a - f) (n := b + (z - (a + b))) (step := 1)
      rw [Nat.one_mul] at h1 h2
      rw [show f + (a - f) = a by omega] at h2
      rw [h1, h2]
      congr 1
      omega
    have c1 : (List.range' f (a - f)).countP (tkB (x :: r)) = 0 := List.countP_eq_zero.2 fun u hu => by
      rw [List.mem_range'_1] at hu
      unfold tkB
      rw [List.any_eq_true]
      rintro ⟨y, hy, hc⟩
      rw [cov_iff] at hc
      rcases List.mem_cons.1 hy with rfl | hy
      · omega
      · have := row_mem hr.2 hy
        omega
    have c2 : (List.range' a b).countP (tkB (x :: r)) = b := by
      have : (List.range' a b).countP (tkB (x :: r)) = (List.range' a b).length := List.countP_eq_length.2 fun u hu => by
        rw [List.mem_range'_1] at hu
        unfold tkB
        rw [List.any_eq_true]
        exact ⟨x, by simp, cov_iff.2 (by omega)⟩
      rw [this, List.length_range']
    have c3 : (List.range' (a + b) (z - (a + b))).countP (tkB (x :: r)) = (List.range' (a + b) (z - (a + b))).countP (tkB r) := List.countP_congr fun u hu => by
      rw [List.mem_range'_1] at hu
      unfold tkB
      rw [List.any_cons]
      have : cov (u : Int) x = false := by
        cases q : cov (u : Int) x with
        | false => rfl
        | true => rw [cov_iff] at q; omega
      rw [this, Bool.false_or]
    rw [hs, List.countP_append, List.countP_append, c1, c2, c3, sum_cons, hb]
    omega
/-- how many are not taken -/
theorem free_count {z : Nat} {L : List Sp} (h : chk ⟨(z : Int), L⟩ = 0) : (((tkL z L).countP (fun b => !b) : Nat) : Int) = frV ⟨(z : Int), L⟩ := by
  have hrow := (chk_ok h).2.2.2
  have h1 := count_row L 0 hrow (Nat.zero_le _)
  have h2 : (tkL z L).countP (fun b => !b) + (List.range z).countP (tkB L) = z := by
    unfold tkL
    rw [List.countP_map]
    have := List.length_eq_countP_add_countP (tkB L) (l := List.range z)
    rw [List.length_range] at this
    have e : (List.range z).countP ((fun b => !b) ∘ tkB L) = (List.range z).countP (fun a => decide ¬ tkB L a = true) := List.countP_congr fun u _ => by simp
    rw [e]
    omega
  rw [Nat.sub_zero, ← List.range_eq_range'] at h1
  unfold frV
  rw [if_pos h]
  simp only
  omega
/-- how many free ones there are in a row -/
def rn : List Bool → Nat
  | [] => 0
  | true :: _ => 0
  | false :: r => rn r + 1
theorem rn_ge : ∀ (l : List Bool) (s : Nat), s ≤ rn l ↔ s ≤ l.length ∧ ∀ i, i < s → l[i]? = some false
  | [], s => by
    constructor
    · intro h; have : s = 0 := by simpa [rn] using h
      subst this; simp
    · rintro ⟨h, _⟩; simpa [rn] using h
  | true :: r, s => by
    constructor
    · intro h; have : s = 0 := by simpa [rn] using h
      subst this; simp
    · rintro ⟨h1, h2⟩
      cases s with
      | zero => exact Nat.zero_le _
      | succ s => have := h2 0 (by omega); simp at this
  | false :: r, 0 => by simp
  | false :: r, s + 1 => by
    have ih := rn_ge r s
    rw [show rn (false :: r) = rn r + 1 from rfl, Nat.add_le_add_iff_right, ih]
    constructor
    · rintro ⟨h1, h2⟩
      refine ⟨by simp; omega, fun i hi => ?_⟩
      cases i with
      | zero => rfl
      | succ i => simpa using h2 i (by omega)
    · rintro ⟨h1, h2⟩
      refine ⟨by simp at h1; omega, fun i hi => ?_⟩
      have := h2 (i + 1) (by omega)
      simpa using this
theorem rn_le (l : List Bool) : rn l ≤ l.length := ((rn_ge l (rn l)).1 (Nat.le_refl _)).1
/-- a place that fits, as the document reckons it -/
theorem fit_rn {z p s : Nat} {g : Int} {L : List Sp} (hrow : rowB (z : Int) 0 L = true) (hs : 1 ≤ s) (hg : (p : Int) % g = 0) :
    (s ≤ rn ((tkL z L).drop p) ∧ p % 4096 ≤ 4096 - s ∧ s ≤ 4096) ↔ Fit (z : Int) (s : Int) g L (p : Int) := by
  rw [rn_ge, List.length_drop, tkL_length]
  have hcell : ∀ i, p + i < z → (((tkL z L).drop p)[i]? = some false ↔ ∀ x ∈ L, (p : Int) + i < x.1 ∨ x.1 + x.2 ≤ (p : Int) + i) := by
    intro i hi
    rw [List.getElem?_drop, tkL_at hi]
    constructor
    · intro h x hx
      have h : tkB L (p + i) = false := by simpa using h
      unfold tkB at h
      rw [List.any_eq_false] at h
      have := h x hx
      rw [cov_iff] at this
      omega
    · intro h
      congr 1
      unfold tkB
      rw [List.any_eq_false]
      intro x hx hc
      rw [cov_iff] at hc
      have := h x hx
      omega
  constructor
  · rintro ⟨⟨h1, h2⟩, h3, h4⟩
    refine ⟨hg, by omega, by omega, fun x hx => ?_⟩
    have hm := row_mem hrow hx
    rcases Int.lt_or_le (p : Int) (x.1 + x.2) with q | q
    · rcases Int.lt_or_le x.1 ((p : Int) + s) with q2 | q2
      · exfalso
        rcases Int.lt_or_le x.1 (p : Int) with q3 | q3
        · have := (hcell 0 (by omega)).1 (h2 0 (by omega)) x hx
          omega
        · obtain ⟨i, hi⟩ : ∃ i : Nat, x.1 = (p : Int) + (i : Int) := ⟨(x.1 - p).toNat, by omega⟩
          have := (hcell i (by omega)).1 (h2 i (by omega)) x hx
          omega
      · exact .inl q2
    · exact .inr q
  · rintro ⟨_, h2, h3, h4⟩
    refine ⟨⟨by omega, fun i hi => (hcell i (by omega)).2 fun x hx => ?_⟩, by omega, by omega⟩
    rcases h4 x hx with q | q
    · left; omega
    · right; omega
end Go.Proofs.Ytifebinpjpalhaa.arena
