/- route: the plain mathematics of lists that begin alike: how much two have in common, hops, the order. No program is named here. -/
import Derived.WalkKit
namespace Go.Proofs.Ytemlafdmeaobfab.route
set_option linter.unusedVariables false
set_option linter.unusedSimpArgs false

/-- how many numbers two lists have in common, from their first ones on -/
def com : List Int → List Int → Nat
  | x :: a, y :: b => if x = y then com a b + 1 else 0
  | _, _ => 0
theorem com_nil (b : List Int) : com [] b = 0 := by cases b <;> rfl
theorem com_nil' (a : List Int) : com a [] = 0 := by cases a <;> rfl
theorem com_eq {x y : Int} (h : x = y) (a b : List Int) : com (x :: a) (y :: b) = com a b + 1 := by simp [com, h]
theorem com_ne {x y : Int} (h : x ≠ y) (a b : List Int) : com (x :: a) (y :: b) = 0 := by simp [com, h]
theorem com_le : ∀ a b : List Int, com a b ≤ a.length ∧ com a b ≤ b.length
  | [], b => by rw [com_nil]; simp
  | a, [] => by rw [com_nil']; simp
  | x :: a, y :: b => by
    have := com_le a b
    by_cases h : x = y
    · rw [com_eq h]; simp only [List.length_cons]; omega
    · rw [com_ne h]; simp
theorem com_comm : ∀ a b : List Int, com a b = com b a
  | [], b => by rw [com_nil, com_nil']
  | x :: a, [] => by rw [com_nil, com_nil']
  | x :: a, y :: b => by
    by_cases h : x = y
    · rw [com_eq h, com_eq h.symm, com_comm a b]
    · rw [com_ne h, com_ne (Ne.symm h)]
theorem com_self : ∀ a : List Int, com a a = a.length
  | [] => rfl
  | x :: a => by rw [com_eq rfl, com_self a]; rfl
/-- what is at least so much in common -/
theorem le_com : ∀ (k : Nat) (a b : List Int), k ≤ com a b ↔ k ≤ a.length ∧ k ≤ b.length ∧ a.take k = b.take k
  | 0, a, b => by simp
  | k + 1, [], b => by rw [com_nil]; simp
  | k + 1, x :: a, [] => by rw [com_nil']; simp
  | k + 1, x :: a, y :: b => by
    have ih := le_com k a b
    by_cases h : x = y
    · rw [com_eq h]; subst h; simp only [List.length_cons, Nat.add_le_add_iff_right, List.take_succ_cons, List.cons.injEq, true_and]; exact ih
    · rw [com_ne h]; simp [h]
theorem com_take (a b : List Int) : a.take (com a b) = b.take (com a b) := ((le_com _ a b).1 (Nat.le_refl _)).2.2
theorem com_three (a b c : List Int) : min (com a b) (com b c) ≤ com a c := by
  rw [le_com]
  have h1 := (le_com (min (com a b) (com b c)) a b).1 (Nat.min_le_left _ _)
  have h2 := (le_com (min (com a b) (com b c)) b c).1 (Nat.min_le_right _ _)
  exact ⟨h1.1, h2.2.1, h1.2.2.trans h2.2.2⟩
/-- where the loop ends: the first k are alike, and then they differ, or one is at its end -/
theorem com_at {a b : List Int} {k : Nat} {x y : Int} (h : a.take k = b.take k) (hx : a[k]? = some x) (hy : b[k]? = some y) (hne : x ≠ y) : com a b = k := by
  have ha := (List.getElem?_eq_some_iff.1 hx).1
  have hb := (List.getElem?_eq_some_iff.1 hy).1
  have h1 : k ≤ com a b := (le_com k a b).2 ⟨by omega, by omega, h⟩
  have h2 : ¬ k + 1 ≤ com a b := fun q => by
    have := ((le_com (k + 1) a b).1 q).2.2
    have e : (a.take (k + 1))[k]? = (b.take (k + 1))[k]? := by rw [this]
    rw [List.getElem?_take_of_lt (by omega), List.getElem?_take_of_lt (by omega), hx, hy] at e
    exact hne (Option.some.inj e)
  omega
theorem com_end {a b : List Int} {k : Nat} (h : a.take k = b.take k) (hk : k = min a.length b.length) : com a b = k := by
  have h1 : k ≤ com a b := (le_com k a b).2 ⟨by omega, by omega, h⟩
  have := com_le a b
  omega
theorem take_next {a b : List Int} {k : Nat} {x : Int} (h : a.take k = b.take k) (hx : a[k]? = some x) (hy : b[k]? = some x) : a.take (k + 1) = b.take (k + 1) := by
  have ha := (List.getElem?_eq_some_iff.1 hx).1
  have hb := (List.getElem?_eq_some_iff.1 hy).1
  rw [List.take_succ_eq_append_getElem ha, List.take_succ_eq_append_getElem hb, h, (List.getElem?_eq_some_iff.1 hx).2, (List.getElem?_eq_some_iff.1 hy).2]

/-- hops -/
def hop (a b : List Int) : Int := (a.length : Int) + b.length - 2 * com a b
theorem hop_comm (a b : List Int) : hop a b = hop b a := by unfold hop; rw [com_comm a b]; omega
theorem hop_zero (a b : List Int) : (hop a b == 0) = decide (a = b) := by
  unfold hop
  have := com_le a b
  by_cases h : a = b
  · subst h; rw [com_self]; simp; omega
  · have : ¬ (a.length = com a b ∧ b.length = com a b) := fun ⟨p, q⟩ => h (by
      have e := com_take a b
      rw [List.take_of_length_le (by omega), List.take_of_length_le (by omega)] at e
      exact e)
    simp [h]; omega
theorem hop_three (a b c : List Int) : hop a c ≤ hop a b + hop b c := by
  unfold hop
  have h1 := com_three a b c
  have h2 := com_le a b
  have h3 := com_le b c
  have h4 := com_le a c
  omega
theorem hop_bound (a b : List Int) : 0 ≤ hop a b ∧ hop a b ≤ (a.length : Int) + b.length := by
  unfold hop
  have := com_le a b
  omega
theorem four_aux {p q r s t u : Nat} (h1 : min p r ≤ t) (h2 : min r t ≤ p) (h3 : min p t ≤ r) (h4 : min p s ≤ u) (h5 : min s u ≤ p) (h6 : min p u ≤ s) (h7 : min r s ≤ q) (h8 : min s q ≤ r) (h9 : min r q ≤ s) (h10 : min t u ≤ q) (h11 : min u q ≤ t) (h12 : min t q ≤ u) :
    min (r + u) (s + t) ≤ p + q := by
  omega
theorem hop_four (a b c d : List Int) : hop a b + hop c d ≤ max (hop a c + hop b d) (hop a d + hop b c) := by
  unfold hop
  have h1 := com_three b a c
  have h2 := com_three a c b
  have h3 := com_three a b c
  have h4 := com_three b a d
  have h5 := com_three a d b
  have h6 := com_three a b d
  have h7 := com_three c a d
  have h8 := com_three a d c
  have h9 := com_three a c d
  have h10 := com_three c b d
  have h11 := com_three b d c
  have h12 := com_three b c d
  rw [com_comm b a] at h1 h4
  rw [com_comm c b] at h2 h10
  rw [com_comm c a] at h7
  rw [com_comm d b] at h5
  rw [com_comm d c] at h8 h11
  have := four_aux (p := com a b) (q := com c d) (r := com a c) (s := com a d) (t := com b c) (u := com b d) (by omega) (by omega) (by omega) (by omega) (by omega) (by omega) (by omega) (by omega) (by omega) (by omega) (by omega) (by omega)
  omega

/-- b is a beginning of a -/
def und (a b : List Int) : Bool := com a b == b.length
theorem und_iff (a b : List Int) : und a b = true ↔ b <+: a := by
  unfold und
  rw [beq_iff_eq]
  constructor
  · intro h
    have e := com_take a b
    rw [h, List.take_length] at e
    exact List.prefix_iff_eq_take.2 e.symm
  · rintro ⟨r, rfl⟩
    have : b.length ≤ com (b ++ r) b := (le_com _ _ _).2 ⟨by simp, Nat.le_refl _, by simp⟩
    have := com_le (b ++ r) b
    omega
def meet (a b : List Int) : List Int := a.take (com a b)
theorem meet_comm (a b : List Int) : meet a b = meet b a := by unfold meet; rw [com_comm b a]; exact com_take a b
theorem und_meet (a b : List Int) : und a (meet a b) = true := (und_iff _ _).2 (List.take_prefix _ _)
theorem und_meet' (a b : List Int) : und b (meet a b) = true := by rw [meet_comm]; exact und_meet b a
theorem meet_len (a b : List Int) : (meet a b).length = com a b := by unfold meet; have := com_le a b; simp; omega
theorem und_both (a b c : List Int) : (und a c && und b c) = und (meet a b) c := by
  rw [Bool.eq_iff_iff, Bool.and_eq_true, und_iff, und_iff, und_iff]
  constructor
  · rintro ⟨h1, h2⟩
    have l1 := h1.length_le
    have l2 := h2.length_le
    have e1 := List.prefix_iff_eq_take.1 h1
    have e2 := List.prefix_iff_eq_take.1 h2
    have hk : c.length ≤ com a b := (le_com _ _ _).2 ⟨l1, l2, e1.symm.trans e2⟩
    refine List.prefix_iff_eq_take.2 ?_
    unfold meet
    rw [List.take_take, Nat.min_eq_left hk]
    exact e1
  · intro h
    exact ⟨h.trans (List.take_prefix _ _), h.trans ((und_iff _ _).1 (und_meet' a b))⟩
theorem und_meet_iff (a b : List Int) : und a b = decide (meet a b = b) := by
  rw [Bool.eq_iff_iff, decide_eq_true_iff]
  constructor
  · intro h
    unfold und at h
    rw [beq_iff_eq] at h
    unfold meet
    rw [com_take, h, List.take_length]
  · intro h
    rw [← h]
    exact und_meet a b
theorem und_anti {a b : List Int} (h1 : und a b = true) (h2 : und b a = true) : a = b := by
  rw [und_iff] at h1 h2
  exact (h2.eq_of_length_le h1.length_le)

/-- which comes ahead -/
def odr : List Int → List Int → Int
  | [], [] => 0
  | [], _ :: _ => -1
  | _ :: _, [] => 1
  | x :: a, y :: b => if x < y then -1 else if y < x then 1 else odr a b
theorem odr_range : ∀ a b : List Int, odr a b = -1 ∨ odr a b = 0 ∨ odr a b = 1
  | [], [] => by simp [odr]
  | [], _ :: _ => by simp [odr]
  | _ :: _, [] => by simp [odr]
  | x :: a, y :: b => by
    have := odr_range a b
    unfold odr
    split
    · simp
    · split
      · simp
      · exact this
theorem odr_neg : ∀ a b : List Int, odr a b = - odr b a
  | [], [] => rfl
  | [], _ :: _ => rfl
  | _ :: _, [] => rfl
  | x :: a, y :: b => by
    have := odr_neg a b
    by_cases h1 : x < y
    · simp [odr, h1, show ¬ y < x by omega]
    · by_cases h2 : y < x
      · simp [odr, h1, h2]
      · simp [odr, h1, h2]; exact this
theorem odr_zero : ∀ a b : List Int, odr a b = 0 ↔ a = b
  | [], [] => by simp [odr]
  | [], _ :: _ => by simp [odr]
  | _ :: _, [] => by simp [odr]
  | x :: a, y :: b => by
    have := odr_zero a b
    by_cases h1 : x < y
    · simp [odr, h1]; intro h; omega
    · by_cases h2 : y < x
      · simp [odr, h1, h2]; intro h; omega
      · have : x = y := by omega
        subst this
        simpa [odr] using odr_zero a b
theorem odr_trans : ∀ a b c : List Int, odr a b < 0 → odr b c < 0 → odr a c < 0
  | [], _, [] , h1, h2 => by rename_i b; cases b <;> simp [odr] at h1 h2
  | [], _, _ :: _, _, _ => by simp [odr]
  | _ :: _, [], _, h1, _ => by simp [odr] at h1
  | _ :: _, _ :: _, [], _, h2 => by simp [odr] at h2
  | x :: a, y :: b, z :: c, h1, h2 => by
    unfold odr at h1 h2 ⊢
    by_cases p1 : x < y
    · by_cases p2 : y < z
      · rw [if_pos (by omega)]; decide
      · by_cases p3 : z < y
        · rw [if_neg p2, if_pos p3] at h2; omega
        · rw [if_pos (by omega)]; decide
    · by_cases p2 : y < x
      · rw [if_neg p1, if_pos p2] at h1; omega
      · rw [if_neg p1, if_neg p2] at h1
        by_cases p3 : y < z
        · rw [if_pos (by omega)]; decide
        · by_cases p4 : z < y
          · rw [if_neg p3, if_pos p4] at h2; omega
          · rw [if_neg p3, if_neg p4] at h2
            rw [if_neg (by omega), if_neg (by omega)]
            exact odr_trans a b c h1 h2
theorem odr_und : ∀ a b : List Int, a <+: b → odr a b ≤ 0
  | [], [], _ => by simp [odr]
  | [], _ :: _, _ => by simp [odr]
  | _ :: _, [], h => by simp at h
  | x :: a, y :: b, h => by
    rw [List.cons_prefix_cons] at h
    obtain ⟨rfl, h⟩ := h
    have := odr_und a b h
    simp [odr]; exact this
/-- what lies between a place and what is under it is under it -/
theorem odr_between : ∀ a b c : List Int, a <+: c → odr a b < 0 → odr b c < 0 → a <+: b
  | [], b, _, _, _, _ => List.nil_prefix
  | _ :: _, _, [], h, _, _ => by simp at h
  | _ :: _, [], _ :: _, _, h1, _ => by simp [odr] at h1
  | x :: a, y :: b, z :: c, h, h1, h2 => by
    rw [List.cons_prefix_cons] at h
    obtain ⟨rfl, h⟩ := h
    unfold odr at h1 h2
    by_cases p1 : x < y
    · rw [if_neg (by omega), if_pos p1] at h2; omega
    · by_cases p2 : y < x
      · rw [if_neg p1, if_pos p2] at h1; omega
      · have : x = y := by omega
        subst this
        rw [if_neg p1, if_neg p1] at h1 h2
        rw [List.cons_prefix_cons]
        exact ⟨rfl, odr_between a b c h h1 h2⟩
/-- the loop's step: the first k are alike -/
theorem odr_drop_lt {a b : List Int} {k : Nat} {x y : Int} (hx : a[k]? = some x) (hy : b[k]? = some y) : odr (a.drop k) (b.drop k) = if x < y then -1 else if y < x then 1 else odr (a.drop (k + 1)) (b.drop (k + 1)) := by
  have ha := (List.getElem?_eq_some_iff.1 hx).1
  have hb := (List.getElem?_eq_some_iff.1 hy).1
  rw [List.drop_eq_getElem_cons ha, List.drop_eq_getElem_cons hb, (List.getElem?_eq_some_iff.1 hx).2, (List.getElem?_eq_some_iff.1 hy).2]
  rfl
theorem odr_left_end {a b : List Int} {k : Nat} (h : ¬ k < a.length) : odr (a.drop k) (b.drop k) = if k < b.length then -1 else 0 := by
  rw [List.drop_eq_nil_of_le (by omega)]
  split
  · rename_i q; rw [List.drop_eq_getElem_cons q]; rfl
  · rw [List.drop_eq_nil_of_le (by omega)]; rfl
theorem odr_right_end {a b : List Int} {k : Nat} (h1 : k < a.length) (h : ¬ k < b.length) : odr (a.drop k) (b.drop k) = 1 := by
  rw [List.drop_eq_nil_of_le (i := k) (as := b) (by omega), List.drop_eq_getElem_cons h1]; rfl
end Go.Proofs.Ytemlafdmeaobfab.route
