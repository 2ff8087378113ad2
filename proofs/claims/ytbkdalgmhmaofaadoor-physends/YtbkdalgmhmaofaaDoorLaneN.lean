/- lane: what is read is what it was made of, and made of just that: plain mathematics. -/
import Derived.Test.YtbkdalgmhmaofaaDoorLaneM
namespace Go.Proofs.YtbkdalgmhmaofaaDoor.lane
open Go.PlainAid

theorem sgn_cases (b : Bool) : sgn b = 48 ∨ sgn b = 49 := by cases b <;> simp [sgn]
theorem rowB_mk {x : Int} {l : List Int} (h : x = 48 ∨ x = 49) (hl : rowB l = true) : rowB (x :: l) = true := by
  rw [rowB_cons, hl]; rcases h with rfl | rfl <;> rfl
theorem rowB_append (a b : List Int) : rowB (a ++ b) = (rowB a && rowB b) := by simp [rowB]
theorem levB_append (a b : List Int) : levB (a ++ b) = (levB a && levB b) := by simp [levB]
theorem byt_row {l : List Int} (h : rowB l = true) : Byt l := by
  intro x hx
  unfold rowB at h
  rw [List.all_eq_true] at h
  have := h x hx
  simp at this
  omega
theorem byt_lev {l : List Int} (h : levB l = true) : Byt l := by
  intro x hx
  unfold levB at h
  rw [List.all_eq_true] at h
  have := h x hx
  simp [lev] at this
  omega
theorem lev_oth (c : Int) : lev (oth c) = true := by unfold oth; split <;> rfl
theorem oth_ne {c : Int} (h : lev c = true) : ¬ oth c = c := by
  rcases lev_cases h with rfl | rfl <;> simp [oth]
theorem oth_of {c x : Int} (h : lev c = true) (hx : lev x = true) (hn : ¬ x = c) : oth c = x := by
  rcases lev_cases h with rfl | rfl <;> rcases lev_cases hx with rfl | rfl <;> simp_all [oth]

/-! bits and bytes -/
theorem rowB_map (b : Int) (l : List Nat) : rowB (l.map (bitS b)) = true := by
  induction l with
  | nil => rfl
  | cons k l ih => exact rowB_mk (sgn_cases _) ih
theorem rowB_bits (l : List Int) : rowB (bitsL l) = true := by
  induction l with
  | nil => rfl
  | cons b l ih => rw [bitsL_cons, rowB_append, ih, byteBits, rowB_map]; rfl
theorem val_bits_all : ∀ n : Fin 256, valL (byteBits (n.val : Int) 0) = (n.val : Int) := by decide +kernel
theorem val_bits (b : Int) (h0 : 0 ≤ b) (h1 : b ≤ 255) : valL (byteBits b 0) = b := by
  have h := val_bits_all ⟨b.toNat, by omega⟩
  have e : ((b.toNat : Nat) : Int) = b := by omega
  simp only [e] at h
  exact h
theorem bytes_bits (l : List Int) (h : Byt l) : bytesL (bitsL l) = l := by
  induction l with
  | nil => rfl
  | cons b l ih =>
    have hb := h b (by simp)
    have h8 := byteBits_length b 0
    rw [bitsL_cons, bytesL_step _ (by rw [List.length_append]; omega)]
    rw [List.take_append_of_le_length (by omega), List.take_of_length_le (by omega), val_bits b hb.1 hb.2]
    rw [List.drop_append_of_le_length (by omega), List.drop_of_length_le (by omega), List.nil_append]
    rw [ih (fun x hx => h x (by simp [hx]))]
theorem bitS_zero (x v : Int) (hx : x = 48 ∨ x = 49) : bitS ((x - 48) + 2 * v) 0 = x := by
  unfold bitS
  rcases hx with rfl | rfl
  · have : (48 - 48 + 2 * v) / 2 ^ 0 % 2 = 0 := by simp
    rw [this]; rfl
  · have : (49 - 48 + 2 * v) / 2 ^ 0 % 2 = 1 := by simp
    rw [this]; rfl
theorem bitS_succ (x v : Int) (k : Nat) (hx : x = 48 ∨ x = 49) : bitS ((x - 48) + 2 * v) (k + 1) = bitS v k := by
  unfold bitS
  have e : ((x - 48) + 2 * v) / 2 ^ (k + 1) = v / 2 ^ k := by
    rw [Int.pow_succ, Int.mul_comm (2 ^ k) 2, ← Int.ediv_ediv_of_nonneg (by omega)]
    congr 1
    omega
  rw [e]
theorem bits_val (l : List Int) (h : rowB l = true) : (List.range l.length).map (bitS (valL l)) = l := by
  induction l with
  | nil => rfl
  | cons x r ih =>
    obtain ⟨hx, hr⟩ := row_cases h
    rw [List.length_cons, List.range_succ_eq_map, List.map_cons, List.map_map]
    unfold valL
    rw [bitS_zero x _ hx]
    congr 1
    have := ih hr
    conv => rhs; rw [← this]
    apply List.map_congr_left
    intro k _
    exact bitS_succ x _ k hx
theorem bits_bytes (n : Nat) : ∀ (l : List Int), l.length = 8 * n → rowB l = true → bitsL (bytesL l) = l := by
  induction n with
  | zero => intro l hl _; have : l = [] := List.eq_nil_of_length_eq_zero (by omega); subst this; rfl
  | succ n ih =>
    intro l hl h
    rw [bytesL_step l (by omega), bitsL_cons, ih _ (by rw [List.length_drop]; omega) (rowB_drop _ _ h)]
    have h8 : (l.take 8).length = 8 := by rw [List.length_take]; omega
    have e := bits_val (l.take 8) (rowB_take _ _ h)
    rw [h8] at e
    have e2 : byteBits (valL (l.take 8)) 0 = l.take 8 := by
      conv => rhs; rw [← e]
      rfl
    rw [e2, List.take_append_drop]
theorem byt_bytes (l : List Int) (h : rowB l = true) : Byt (bytesL l) := by
  intro x hx
  obtain ⟨i, _, rfl⟩ := List.mem_map.1 hx
  have := valL_le ((l.drop (8 * i)).take 8) (rowB_take _ _ (rowB_drop _ _ h)) (by rw [List.length_take]; omega)
  omega

/-! stuffed rows -/
theorem rowB_stuff (o : Nat) (l : List Int) (h : rowB l = true) : rowB (stuffL o l) = true := by
  induction l generalizing o with
  | nil => rfl
  | cons x r ih =>
    obtain ⟨hx, hr⟩ := row_cases h
    unfold stuffL
    split
    · split
      · exact rowB_mk (.inr rfl) (rowB_mk (.inl rfl) (ih _ hr))
      · exact rowB_mk (.inr rfl) (ih _ hr)
    · exact rowB_mk hx (ih _ hr)
theorem unstuff_stuff (o : Nat) (l : List Int) (ho : o ≤ 5) (h : rowB l = true) : unstuffL o (stuffL o l) = (0, l) := by
  induction l generalizing o with
  | nil => simp [stuffL, unstuffL]; omega
  | cons x r ih =>
    obtain ⟨hx, hr⟩ := row_cases h
    by_cases h49 : x = 49
    · subst h49
      by_cases h5 : o = 5
      · subst h5
        rw [stuffL_six, unstuffL_one _ _ (by omega), unstuffL_out _ _ (by omega), ih 0 (by omega) hr]
      · rw [stuffL_one _ _ h5, unstuffL_one _ _ (by omega), ih (o + 1) (by omega) hr]
    · rw [stuffL_not _ _ _ h49, unstuffL_not _ _ _ (by omega) h49, ih 0 (by omega) hr]
theorem stuff_unstuff (l : List Int) (h : rowB l = true) : (∀ o, o ≤ 5 → (unstuffL o l).1 = 0 → stuffL o (unstuffL o l).2 = l ∧ rowB (unstuffL o l).2 = true) ∧
    ((unstuffL 6 l).1 = 0 → 48 :: stuffL 0 (unstuffL 6 l).2 = l ∧ rowB (unstuffL 6 l).2 = true) := by
  induction l with
  | nil => exact ⟨fun o ho _ => by simp [unstuffL, show ¬ o = 6 by omega, stuffL, rowB], fun h => by simp [unstuffL] at h⟩
  | cons x r ih =>
    obtain ⟨hx, hr⟩ := row_cases h
    obtain ⟨i1, i2⟩ := ih hr
    refine ⟨fun o ho hc => ?_, fun hc => ?_⟩
    · by_cases h49 : x = 49
      · subst h49
        rw [unstuffL_one _ _ (by omega)] at hc ⊢
        by_cases h5 : o = 5
        · subst h5
          obtain ⟨e, er⟩ := i2 hc
          refine ⟨?_, rowB_mk (.inr rfl) er⟩
          show stuffL 5 (49 :: _) = _
          rw [stuffL_six, e]
        · obtain ⟨e, er⟩ := i1 (o + 1) (by omega) hc
          refine ⟨?_, rowB_mk (.inr rfl) er⟩
          show stuffL o (49 :: _) = _
          rw [stuffL_one _ _ h5, e]
      · rw [unstuffL_not _ _ _ (by omega) h49] at hc ⊢
        obtain ⟨e, er⟩ := i1 0 (by omega) hc
        refine ⟨?_, rowB_mk hx er⟩
        show stuffL o (x :: _) = _
        rw [stuffL_not _ _ _ h49, e]
    · by_cases h49 : x = 49
      · subst h49
        rw [unstuffL_bad] at hc
        simp at hc
      · rw [unstuffL_out _ _ h49] at hc ⊢
        obtain ⟨e, er⟩ := i1 0 (by omega) hc
        refine ⟨?_, er⟩
        rw [e]
        rcases hx with rfl | rfl
        · rfl
        · exact absurd rfl h49

/-! levels -/
theorem levB_turn (c : Int) (l : List Int) (h : lev c = true) : levB (turnL c l) = true := by
  induction l generalizing c with
  | nil => rfl
  | cons x r ih =>
    unfold turnL
    split
    · rw [levB_cons, lev_oth, ih _ (lev_oth c)]; rfl
    · rw [levB_cons, h, ih _ h]; rfl
theorem unturn_turn (c : Int) (l : List Int) (hc : lev c = true) (h : rowB l = true) : unturnL c (turnL c l) = l := by
  induction l generalizing c with
  | nil => rfl
  | cons x r ih =>
    obtain ⟨hx, hr⟩ := row_cases h
    unfold turnL
    rcases hx with rfl | rfl
    · rw [if_pos rfl]
      unfold unturnL
      have : (oth c == c) = false := by simpa using oth_ne hc
      rw [this, ih _ (lev_oth c) hr]; rfl
    · rw [if_neg (by omega)]
      unfold unturnL
      have : (c == c) = true := by simp
      rw [this, ih _ hc hr]; rfl
theorem rowB_unturn (c : Int) (l : List Int) : rowB (unturnL c l) = true := by
  induction l generalizing c with
  | nil => rfl
  | cons x r ih => exact rowB_mk (sgn_cases _) (ih x)
theorem lev_cons {x : Int} {l : List Int} (h : levB (x :: l) = true) : lev x = true ∧ levB l = true := by
  rw [levB_cons] at h; simpa using h
theorem turn_unturn (c : Int) (l : List Int) (hc : lev c = true) (h : levB l = true) : turnL c (unturnL c l) = l := by
  induction l generalizing c with
  | nil => rfl
  | cons x r ih =>
    obtain ⟨hx, hr⟩ := lev_cons h
    unfold unturnL
    by_cases e : x = c
    · subst e
      have : (x == x) = true := by simp
      rw [this]
      show turnL x (49 :: _) = _
      unfold turnL
      rw [if_neg (by omega), ih _ hx hr]
    · have : (x == c) = false := by simpa using e
      rw [this]
      show turnL c (48 :: _) = _
      unfold turnL
      rw [if_pos rfl, oth_of hc hx e, ih _ hx hr]
end Go.Proofs.YtbkdalgmhmaofaaDoor.lane
