/- phy: the plain mathematics: what is sent, what a piece carries, what is heard. No program is named here. -/
import Derived.Test.YtbkdalgmhmaofabLaneM
import Derived.Test.YtbkdalgmhmaofabLaneN
namespace Go.Proofs.Ytbkdalgmhmaofab.lane
open Go.PlainAid

/-- the eight bits ahead -/
def leadL : List Int := [48, 48, 48, 48, 48, 48, 48, 49]
def endL : List Int := [48, 48, 74]
/-- the levels of a text, without their ending -/
def waveL (l : List Int) : List Int := turnL 74 (stuffL 0 (leadL ++ bitsL l))
def sentL (l : List Int) : List Int := waveL l ++ endL
def sizedL (n : Nat) : Int := if n = 0 then 3 else if 80 < n then 2 else 0
/-- the row of levels, without what was stuffed -/
def plainL (v : List Int) : List Int := (unstuffL 0 (unturnL 74 v)).2
def pieceL (v : List Int) : Int × List Int :=
  if levB v = true then
    if (unturnL 74 v).take 8 = leadL then
      if (unstuffL 0 (unturnL 74 v)).1 = 0 then
        if ((plainL v).drop 8).length % 8 = 0 then
          if sizedL (((plainL v).drop 8).length / 8) = 0 then (0, bytesL ((plainL v).drop 8)) else (sizedL (((plainL v).drop 8).length / 8), [])
        else (4, [])
      else ((unstuffL 0 (unturnL 74 v)).1, [])
    else (7, [])
  else (4, [])

theorem stuff_lead (b : List Int) : stuffL 0 (leadL ++ b) = leadL ++ stuffL 1 b := by simp [leadL, stuffL]
theorem unstuff_lead (b : List Int) : unstuffL 0 (leadL ++ b) = ((unstuffL 1 b).1, leadL ++ (unstuffL 1 b).2) := by simp [leadL, unstuffL]
theorem rowB_lead (l : List Int) : rowB (leadL ++ bitsL l) = true := by rw [rowB_append, rowB_bits]; rfl
theorem levB_wave (l : List Int) : levB (waveL l) = true := levB_turn _ _ rfl
theorem wave_length (l : List Int) : (waveL l).length ≤ (8 + 8 * l.length) + (8 + 8 * l.length) / 6 := by
  unfold waveL
  rw [turnL_length]
  have h := stuffL_length 0 (leadL ++ bitsL l) (by omega)
  rw [List.length_append, bitsL_length] at h
  exact h
theorem wave_head (l : List Int) : ∃ r, waveL l = 75 :: r := ⟨_, by unfold waveL; rw [stuff_lead]; rfl⟩
theorem unturn_wave (l : List Int) : unturnL 74 (waveL l) = stuffL 0 (leadL ++ bitsL l) := unturn_turn _ _ rfl (rowB_stuff _ _ (rowB_lead l))
theorem piece_wave (l : List Int) (hl : Byt l) (h : sizedL l.length = 0) : pieceL (waveL l) = (0, l) := by
  have e1 := unturn_wave l
  have e2 : unstuffL 0 (unturnL 74 (waveL l)) = (0, leadL ++ bitsL l) := by rw [e1]; exact unstuff_stuff 0 _ (by omega) (rowB_lead l)
  have e3 : (plainL (waveL l)).drop 8 = bitsL l := by unfold plainL; rw [e2]; rfl
  unfold pieceL
  rw [levB_wave, if_pos rfl, e3, e2, e1, stuff_lead, if_pos (by rfl), if_pos rfl, bitsL_length, if_pos (by omega), show 8 * l.length / 8 = l.length by omega, h, if_pos rfl, bytes_bits l hl]
theorem plain_lead (v : List Int) (h : (unturnL 74 v).take 8 = leadL) : plainL v = leadL ++ (plainL v).drop 8 ∧ rowB ((plainL v).drop 8) = rowB (plainL v) := by
  have e : unturnL 74 v = leadL ++ (unturnL 74 v).drop 8 := by
    conv => lhs; rw [← List.take_append_drop 8 (unturnL 74 v), h]
  have e2 : plainL v = leadL ++ (unstuffL 1 ((unturnL 74 v).drop 8)).2 := by
    unfold plainL
    conv => lhs; rw [e, unstuff_lead]
  have e3 : (plainL v).drop 8 = (unstuffL 1 ((unturnL 74 v).drop 8)).2 := by rw [e2]; rfl
  rw [e3]
  refine ⟨e2, ?_⟩
  rw [e2, rowB_append]
  rfl
theorem wave_piece (v l : List Int) (h : pieceL v = (0, l)) : waveL l = v ∧ sizedL l.length = 0 ∧ Byt l := by
  unfold pieceL at h
  split at h
  · rename_i h1
    split at h
    · rename_i h2
      split at h
      · rename_i h3
        split at h
        · rename_i h4
          split at h
          · rename_i h5
            obtain ⟨e1, er⟩ := (stuff_unstuff (unturnL 74 v) (rowB_unturn _ _)).1 0 (by omega) h3
            have e2 : bytesL ((plainL v).drop 8) = l := by injection h
            obtain ⟨p1, p2⟩ := plain_lead v h2
            have hr : rowB ((plainL v).drop 8) = true := p2.trans er
            have e3 : bitsL l = (plainL v).drop 8 := by rw [← e2]; exact bits_bytes (((plainL v).drop 8).length / 8) _ (by omega) hr
            refine ⟨?_, ?_, ?_⟩
            · unfold waveL
              rw [e3, ← p1]
              show turnL 74 (stuffL 0 (unstuffL 0 (unturnL 74 v)).2) = v
              rw [e1]
              exact turn_unturn 74 v rfl h1
            · rw [← e2, bytesL_length]; exact h5
            · rw [← e2]; exact byt_bytes _ hr
          · rename_i h5; injection h with a b; exact absurd a h5
        · cases h
      · rename_i h3; injection h with a b; exact absurd a h3
    · cases h
  · cases h
theorem piece_byt (v : List Int) : Byt (pieceL v).2 ∧ (pieceL v).2.length ≤ 80 := by
  by_cases h : (pieceL v).1 = 0
  · obtain ⟨_, h2, h3⟩ := wave_piece v (pieceL v).2 (by rw [← h])
    refine ⟨h3, ?_⟩
    unfold sizedL at h2
    split at h2
    · cases h2
    · split at h2
      · cases h2
      · omega
  · have : (pieceL v).2 = [] := by
      unfold pieceL at h ⊢
      split at h
      · split at h
        · split at h
          · split at h
            · split at h
              · exact absurd rfl h
              · simp_all
            · simp_all
          · simp_all
        · simp_all
      · simp_all
    rw [this]
    exact ⟨fun x hx => by simp at hx, by simp⟩

/-! what is heard -/
def sig (x : Int) : Bool := x == 74 || x == 75 || x == 48
def sigB (l : List Int) : Bool := l.all sig
def endsL (h : List Int) : Bool := decide (3 ≤ h.length) && (h.drop (h.length - 3) == endL)
/-- what these levels tell, where they are at an end: text and code -/
def heardL (h : List Int) : Option (List Int × Int) :=
  if endsL h = true then some ((pieceL (h.take (h.length - 3))).2, (pieceL (h.take (h.length - 3))).1)
  else if 1000 < h.length then some ([], 2) else none
def hearL : List Int → List Int → List (List Int × Int) × List Int
  | h, [] => ([], h)
  | h, x :: r =>
    if x = 74 ∧ h = [] then hearL h r
    else match heardL (h ++ [x]) with
      | some p => (p :: (hearL [] r).1, (hearL [] r).2)
      | none => hearL (h ++ [x]) r
theorem hear_nil (h : List Int) : hearL h [] = ([], h) := by simp [hearL]
theorem hear_skip (r : List Int) : hearL [] (74 :: r) = hearL [] r := by simp [hearL]
theorem hear_some (h : List Int) (x : Int) (r : List Int) (p : List Int × Int) (hx : ¬ (x = 74 ∧ h = [])) (hp : heardL (h ++ [x]) = some p) :
    hearL h (x :: r) = (p :: (hearL [] r).1, (hearL [] r).2) := by
  conv => lhs; unfold hearL
  rw [if_neg hx, hp]
theorem hear_none (h : List Int) (x : Int) (r : List Int) (hx : ¬ (x = 74 ∧ h = [])) (hp : heardL (h ++ [x]) = none) :
    hearL h (x :: r) = hearL (h ++ [x]) r := by
  conv => lhs; unfold hearL
  rw [if_neg hx, hp]
theorem hear_cut (a b : List Int) : ∀ h, hearL h (a ++ b) = ((hearL h a).1 ++ (hearL (hearL h a).2 b).1, (hearL (hearL h a).2 b).2) := by
  induction a with
  | nil => intro h; simp [hearL]
  | cons x r ih =>
    intro h
    rw [List.cons_append]
    by_cases hx : x = 74 ∧ h = []
    · obtain ⟨rfl, rfl⟩ := hx
      rw [hear_skip, hear_skip, ih]
    · cases hp : heardL (h ++ [x]) with
      | some p => rw [hear_some _ _ _ _ hx hp, hear_some _ _ _ _ hx hp, ih]; simp
      | none => rw [hear_none _ _ _ hx hp, hear_none _ _ _ hx hp, ih]
theorem sigB_append (a b : List Int) : sigB (a ++ b) = (sigB a && sigB b) := by simp [sigB]
theorem hear_sig (a : List Int) : ∀ h, sigB h = true → sigB a = true → sigB (hearL h a).2 = true := by
  induction a with
  | nil => intro h hh _; rw [hear_nil]; exact hh
  | cons x r ih =>
    intro h hh ha
    have ha2 : sig x = true ∧ sigB r = true := by
      have : (sig x && sigB r) = true := ha
      simpa using this
    by_cases hx : x = 74 ∧ h = []
    · obtain ⟨rfl, rfl⟩ := hx
      rw [hear_skip]; exact ih _ hh ha2.2
    · cases hp : heardL (h ++ [x]) with
      | some p => rw [hear_some _ _ _ _ hx hp]; exact ih _ rfl ha2.2
      | none => rw [hear_none _ _ _ hx hp]; exact ih _ (by rw [sigB_append, hh]; simpa [sigB] using ha2.1) ha2.2
theorem hear_length (a : List Int) : ∀ h, (hearL h a).2.length ≤ h.length + a.length ∧ (hearL h a).1.length ≤ a.length := by
  induction a with
  | nil => intro h; rw [hear_nil]; simp
  | cons x r ih =>
    intro h
    by_cases hx : x = 74 ∧ h = []
    · obtain ⟨rfl, rfl⟩ := hx
      rw [hear_skip]
      have := ih []
      simp only [List.length_cons, List.length_nil] at *
      omega
    · cases hp : heardL (h ++ [x]) with
      | some p =>
        rw [hear_some _ _ _ _ hx hp]
        have := ih []
        simp only [List.length_cons, List.length_nil] at *
        omega
      | none =>
        rw [hear_none _ _ _ hx hp]
        have := ih (h ++ [x])
        simp only [List.length_cons, List.length_append, List.length_nil] at *
        omega

/-! what was sent is heard -/
theorem ends_end (h : List Int) : endsL (h ++ endL) = true ∧ (h ++ endL).take ((h ++ endL).length - 3) = h := by
  have e : (h ++ endL).length - 3 = h.length := by rw [List.length_append]; simp [endL]
  unfold endsL
  rw [e]
  simp [endL]
theorem heard_end (h : List Int) : heardL (h ++ endL) = some ((pieceL h).2, (pieceL h).1) := by
  obtain ⟨e1, e2⟩ := ends_end h
  unfold heardL
  rw [e1, e2, if_pos rfl]
theorem ends_last (h : List Int) (x : Int) (hx : ¬ x = 74) : endsL (h ++ [x]) = false := by
  unfold endsL
  by_cases hl : 3 ≤ (h ++ [x]).length
  · have hl2 : 2 ≤ h.length := by simpa using hl
    have e : (h ++ [x]).drop ((h ++ [x]).length - 3) = h.drop (h.length - 2) ++ [x] := by
      rw [List.length_append, List.drop_append_of_le_length (by simp)]
      congr 2
    rw [e]
    have : ¬ (h.drop (h.length - 2) ++ [x] = endL) := by
      intro c
      have c2 := congrArg List.getLast? c
      simp [endL] at c2
      exact hx c2
    have : (h.drop (h.length - 2) ++ [x] == endL) = false := by simpa using this
    rw [this]; simp
  · rw [show decide (3 ≤ (h ++ [x]).length) = false from decide_eq_false hl]; rfl
theorem ends_lev (h : List Int) (hh : levB h = true) : endsL h = false := by
  unfold endsL
  have : ¬ (h.drop (h.length - 3) = endL) := by
    intro c
    have h2 : levB (h.drop (h.length - 3)) = true := by
      unfold levB at *
      rw [List.all_eq_true] at *
      intro x hx
      exact hh x (List.mem_of_mem_drop hx)
    rw [c] at h2
    cases h2
  have : (h.drop (h.length - 3) == endL) = false := by simpa using this
  rw [this]; simp
theorem heard_not (h : List Int) (h1 : endsL h = false) (h2 : h.length ≤ 1000) : heardL h = none := by
  unfold heardL
  rw [h1, if_neg (by simp), if_neg (by omega)]
theorem hear_lev (v : List Int) : ∀ h r, ¬ h = [] → levB h = true → levB v = true → h.length + v.length ≤ 1000 → hearL h (v ++ r) = hearL (h ++ v) r := by
  induction v with
  | nil => intro h r _ _ _ _; simp
  | cons x v ih =>
    intro h r h0 h1 h2 h3
    obtain ⟨hx, hv⟩ := lev_cons h2
    have hl : levB (h ++ [x]) = true := by rw [levB_append, h1]; simpa [levB] using hx
    have h3' : h.length + v.length + 1 ≤ 1000 := by simpa [Nat.add_assoc] using h3
    rw [List.cons_append, hear_none _ _ _ (fun c => h0 c.2) (heard_not _ (ends_lev _ hl) (by simp; omega)), ih _ _ (by simp) hl hv (by simp; omega)]
    simp
theorem hear_wave (v r : List Int) (h1 : levB v = true) (h2 : ∃ t, v = 75 :: t) (h3 : v.length ≤ 1000) : hearL [] (v ++ r) = hearL v r := by
  obtain ⟨t, rfl⟩ := h2
  rw [List.cons_append, hear_none _ _ _ (by simp) (heard_not _ (by rfl) (by simp))]
  have ht := (lev_cons h1).2
  have := hear_lev t ([] ++ [75]) r (by simp) rfl ht (by simpa [Nat.add_comm] using h3)
  rw [this]
  rfl
theorem hear_zero (h r : List Int) (h3 : h.length < 1000) : hearL h (48 :: r) = hearL (h ++ [48]) r :=
  hear_none _ _ _ (by simp) (heard_not _ (ends_last _ _ (by omega)) (by simp; omega))
theorem hear_ending (h r : List Int) (h3 : h.length ≤ 998) : hearL h (endL ++ r) = (((pieceL h).2, (pieceL h).1) :: (hearL [] r).1, (hearL [] r).2) := by
  show hearL h (48 :: 48 :: 74 :: r) = _
  rw [hear_zero _ _ (by omega), hear_zero _ _ (by simp; omega)]
  refine hear_some _ _ _ _ (by simp) ?_
  have := heard_end h
  simpa [endL] using this
theorem wave_short (l : List Int) (h : sizedL l.length = 0) : (waveL l).length ≤ 756 := by
  have := wave_length l
  unfold sizedL at h
  split at h
  · cases h
  · split at h
    · cases h
    · omega
theorem hear_sent (l r : List Int) (hl : Byt l) (h : sizedL l.length = 0) : hearL [] (sentL l ++ r) = ((l, 0) :: (hearL [] r).1, (hearL [] r).2) := by
  have hs := wave_short l h
  unfold sentL
  rw [List.append_assoc, hear_wave _ _ (levB_wave l) (wave_head l) (by omega), hear_ending _ _ (by omega), piece_wave l hl h]
theorem two_ends (h : List Int) : (hearL h [48, 48, 74, 48, 48, 74]).2 = [] := by
  by_cases h1 : 1000 < h.length + 1
  · have hp : heardL (h ++ [48]) = some ([], 2) := by
      unfold heardL
      rw [ends_last h 48 (by omega), if_neg (by simp), if_pos (by simpa using h1)]
    rw [hear_some _ _ _ _ (by simp) hp]
    decide +kernel
  · rw [hear_zero _ _ (by omega)]
    by_cases h2 : 1000 < h.length + 2
    · have hp : heardL (h ++ [48] ++ [48]) = some ([], 2) := by
        unfold heardL
        rw [ends_last _ 48 (by omega), if_neg (by simp), if_pos (by simpa using h2)]
      rw [hear_some _ _ _ _ (by simp) hp]
      decide +kernel
    · rw [hear_zero _ _ (by simp; omega)]
      have hp : heardL (h ++ [48] ++ [48] ++ [74]) = some ((pieceL h).2, (pieceL h).1) := by
        have := heard_end h
        simpa [endL] using this
      rw [hear_some _ _ _ _ (by simp) hp]
      show (hearL [] [48, 48, 74]).2 = []
      decide +kernel
end Go.Proofs.Ytbkdalgmhmaofab.lane
