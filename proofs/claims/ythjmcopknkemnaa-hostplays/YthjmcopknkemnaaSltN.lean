/- slots: the plain mathematics: the least number that is free; what a command makes of a board. No program is named here. -/
import Derived.Test.YthjmcopknkemnaaSltM
namespace Go.Proofs.Ythjmcopknkemnaa.slots
set_option linter.unusedVariables false

theorem pig : ∀ (n : Nat) (l : List Int), (∀ x : Nat, 1 ≤ x → x ≤ n → (x : Int) ∈ l) → n ≤ l.length
  | 0, _, _ => Nat.zero_le _
  | n + 1, l, h => by
    have h0 : ((n + 1 : Nat) : Int) ∈ l := h (n + 1) (by omega) (by omega)
    have := pig n (l.erase ((n + 1 : Nat) : Int)) (fun x h1 h2 => (List.mem_erase_of_ne (by omega)).2 (h x h1 (by omega)))
    rw [List.length_erase_of_mem h0] at this
    have := List.length_pos_of_mem h0
    omega
/-- the least number from 1 on that isn't in the list -/
structure Lst (l : List Int) (a : Nat) : Prop where
  pos : 1 ≤ a
  out : (a : Int) ∉ l
  all : ∀ x : Nat, 1 ≤ x → x < a → (x : Int) ∈ l
theorem Lst.uniq {l : List Int} {a b : Nat} (h : Lst l a) (k : Lst l b) : a = b := by
  rcases Nat.lt_trichotomy a b with q | q | q
  · exact absurd (k.all a h.pos q) h.out
  · exact q
  · exact absurd (h.all b k.pos q) k.out
def lf (l : List Int) : Nat → Nat → Nat
  | 0, a => a
  | n + 1, a => if (a : Int) ∈ l then lf l n (a + 1) else a
def lst (l : List Int) : Nat := lf l l.length 1
theorem lf_is (l : List Int) : ∀ (n a : Nat), 1 ≤ a → (∀ x : Nat, 1 ≤ x → x < a → (x : Int) ∈ l) → a + n = l.length + 1 → Lst l (lf l n a)
  | 0, a, h1, h2, h3 => ⟨h1, fun h => by
      have := pig a l (fun x q1 q2 => by
        by_cases e : x = a
        · rw [e]; exact h
        · exact h2 x q1 (by omega))
      omega, h2⟩
  | n + 1, a, h1, h2, h3 => by
    unfold lf
    by_cases h : (a : Int) ∈ l
    · rw [if_pos h]
      exact lf_is l n (a + 1) (by omega) (fun x q1 q2 => by
        by_cases e : x = a
        · rw [e]; exact h
        · exact h2 x q1 (by omega)) (by omega)
    · rw [if_neg h]; exact ⟨h1, h, h2⟩
theorem lst_is (l : List Int) : Lst l (lst l) := lf_is l l.length 1 (Nat.le_refl _) (fun x h1 h2 => by omega) (by omega)
theorem lst_le (l : List Int) : lst l ≤ l.length + 1 := by
  have h := lst_is l
  have := pig (lst l - 1) l (fun x q1 q2 => h.all x q1 (by omega))
  omega
theorem lst_eq {l : List Int} {a : Nat} (h : Lst l a) : lst l = a := (lst_is l).uniq h
def ads (B : Bd) : List Int := B.map ad
theorem own_pos {B : Bd} {x : Int} : 0 < own B x ↔ x ∈ ads B := by
  unfold own ads
  rw [List.countP_pos_iff, List.mem_map]
  constructor
  · rintro ⟨s, h1, h2⟩; exact ⟨s, h1, by simpa using h2⟩
  · rintro ⟨s, h1, h2⟩; exact ⟨s, h1, by simpa using h2⟩
def la (B : Bd) : Nat := lst (ads B)
theorem la_le {B : Bd} (h : B.length = 9) : la B ≤ 10 := by have := lst_le (ads B); unfold la; unfold ads at *; rw [List.length_map, h] at this; exact this
/-- slots that aren't empty -/
def onZ (B : Bd) : List Int := ((List.range 9).filter (fun i => decide (sl B i ≠ z66))).map Int.ofNat
theorem mem_onZ {B : Bd} {i : Nat} : (i : Int) ∈ onZ B ↔ i < 9 ∧ sl B i ≠ z66 := by
  unfold onZ
  rw [List.mem_map]
  constructor
  · rintro ⟨j, h1, h2⟩
    have : j = i := by have : (j : Int) = i := h2; omega
    subst this
    rw [List.mem_filter, List.mem_range] at h1
    exact ⟨h1.1, by simpa using h1.2⟩
  · rintro ⟨h1, h2⟩
    exact ⟨i, List.mem_filter.2 ⟨List.mem_range.2 h1, by simpa using h2⟩, rfl⟩
def fr (B : Bd) : Nat := lst (onZ B)
theorem fr_some {B : Bd} {k : Nat} (h1 : 1 ≤ k) (h2 : k < 9) (h3 : sl B k = z66) (h4 : ∀ x, 1 ≤ x → x < k → sl B x ≠ z66) : fr B = k :=
  lst_eq ⟨h1, fun h => (mem_onZ.1 h).2 h3, fun x q1 q2 => mem_onZ.2 ⟨by omega, h4 x q1 q2⟩⟩
theorem fr_none {B : Bd} (h4 : ∀ x, 1 ≤ x → x < 9 → sl B x ≠ z66) : fr B = 9 :=
  lst_eq ⟨by omega, fun h => absurd (mem_onZ.1 h).1 (by omega), fun x q1 q2 => mem_onZ.2 ⟨q2, h4 x q1 q2⟩⟩
theorem fr_le (B : Bd) : 1 ≤ fr B ∧ fr B ≤ 9 := by
  have h := lst_is (onZ B)
  refine ⟨h.pos, ?_⟩
  by_cases q : fr B ≤ 9
  · exact q
  · have := (mem_onZ.1 (h.all 9 (by omega) (by show 9 < fr B; omega))).1
    omega
theorem fr_is {B : Bd} (h : fr B ≤ 8) : sl B (fr B) = z66 := by
  have := (lst_is (onZ B)).out
  by_cases q : sl B (fr B) = z66
  · exact q
  · exact absurd (mem_onZ.2 ⟨by show fr B < 9; omega, q⟩) this
/-- the bits of a set -/
def bit (a : Int) (k : Nat) : Int := a / 2 ^ k % 2
/-- a slot that is being configured: ends below k are done -/
def cfN (s : List Int) (a : Int) (k j : Nat) : Int :=
  if 4 ≤ j ∧ j < 34 ∧ j < k + 2 then (if bit a (j - 2) = 0 then 0 else if cl s j = 0 then 1 else cl s j)
  else if 36 ≤ j ∧ j < k + 34 then (if bit a (j - 34) = 0 then 0 else cl s j) else cl s j
def cfL (s : List Int) (a : Int) (k : Nat) : List Int := (List.range 66).map (cfN s a k)
theorem cfL_length (s : List Int) (a : Int) (k : Nat) : (cfL s a k).length = 66 := by simp [cfL]
theorem cl_map {f : Nat → Int} {n j : Nat} (h : j < n) : cl ((List.range n).map f) j = f j := by
  unfold cl
  rw [List.getD_eq_getElem?_getD, List.getElem?_map, List.getElem?_range h]
  rfl
theorem cl_cfL {s : List Int} {a : Int} {k j : Nat} (h : j < 66) : cl (cfL s a k) j = cfN s a k j := cl_map h
theorem cfN_lo {s : List Int} {a : Int} {k j : Nat} (h : 4 ≤ j ∧ j < 34 ∧ j < k + 2) : cfN s a k j = if bit a (j - 2) = 0 then 0 else if cl s j = 0 then 1 else cl s j := by unfold cfN; rw [if_pos h]
theorem cfN_hi {s : List Int} {a : Int} {k j : Nat} (h : 36 ≤ j ∧ j < k + 34) : cfN s a k j = if bit a (j - 34) = 0 then 0 else cl s j := by
  unfold cfN
  rw [if_neg (show ¬ (4 ≤ j ∧ j < 34 ∧ j < k + 2) by omega), if_pos h]
theorem cfN_no {s : List Int} {a : Int} {k j : Nat} (h : ¬ (4 ≤ j ∧ j < 34 ∧ j < k + 2)) (h2 : ¬ (36 ≤ j ∧ j < k + 34)) : cfN s a k j = cl s j := by unfold cfN; rw [if_neg h, if_neg h2]
theorem cfN_same {s : List Int} {a : Int} {k j : Nat} (h2 : 2 ≤ k) (e1 : ¬ j = 34 + k) (e2 : ¬ j = 2 + k) : cfN s a k j = cfN s a (k + 1) j := by
  by_cases e3 : 4 ≤ j ∧ j < 34 ∧ j < k + 2
  · rw [cfN_lo e3, cfN_lo (by omega)]
  by_cases e4 : 36 ≤ j ∧ j < k + 34
  · rw [cfN_hi e4, cfN_hi (by omega)]
  rw [cfN_no e3 e4, cfN_no (by omega) (by omega)]
theorem cfL_start {s : List Int} {a : Int} (h : s.length = 66) : cfL s a 2 = s := by
  refine cl_ext (cfL_length _ _ _) h fun j hj => ?_
  rw [cl_cfL hj, cfN_no (by omega) (by omega)]
theorem cfL_out {s : List Int} {a : Int} {k : Nat} (h2 : 2 ≤ k) (hk : k < 32) (hb : bit a k = 0) : ((cfL s a k).set (2 + k) 0).set (34 + k) 0 = cfL s a (k + 1) := by
  refine cl_ext (n := 66) (by simp [cfL_length]) (cfL_length _ _ _) fun j hj => ?_
  rw [cl_set, cl_set, cl_cfL hj, cl_cfL hj]
  simp only [List.length_set, cfL_length]
  by_cases e1 : j = 34 + k
  · rw [if_pos ⟨e1, by omega⟩, cfN_hi (by omega), show j - 34 = k by omega, if_pos hb]
  rw [if_neg (fun h => e1 h.1)]
  by_cases e2 : j = 2 + k
  · rw [if_pos ⟨e2, by omega⟩, cfN_lo (by omega), show j - 2 = k by omega, if_pos hb]
  rw [if_neg (fun h => e2 h.1)]
  exact cfN_same h2 e1 e2
theorem cfL_new {s : List Int} {a : Int} {k : Nat} (h2 : 2 ≤ k) (hk : k < 32) (hb : bit a k ≠ 0) (he : cl s (2 + k) = 0) : (cfL s a k).set (2 + k) 1 = cfL s a (k + 1) := by
  refine cl_ext (n := 66) (by simp [cfL_length]) (cfL_length _ _ _) fun j hj => ?_
  rw [cl_set, cl_cfL hj, cl_cfL hj]
  simp only [cfL_length]
  by_cases e2 : j = 2 + k
  · rw [if_pos ⟨e2, by omega⟩, cfN_lo (by omega), show j - 2 = k by omega, if_neg hb, e2, if_pos he]
  rw [if_neg (fun h => e2 h.1)]
  by_cases e1 : j = 34 + k
  · rw [cfN_no (by omega) (by omega), cfN_hi (by omega), show j - 34 = k by omega, if_neg hb]
  exact cfN_same h2 e1 e2
theorem cfL_old {s : List Int} {a : Int} {k : Nat} (h2 : 2 ≤ k) (hk : k < 32) (hb : bit a k ≠ 0) (he : cl s (2 + k) ≠ 0) : cfL s a k = cfL s a (k + 1) := by
  refine cl_ext (n := 66) (cfL_length _ _ _) (cfL_length _ _ _) fun j hj => ?_
  rw [cl_cfL hj, cl_cfL hj]
  by_cases e2 : j = 2 + k
  · rw [cfN_no (by omega) (by omega), cfN_lo (by omega), show j - 2 = k by omega, if_neg hb, e2, if_neg he]
  by_cases e1 : j = 34 + k
  · rw [cfN_no (by omega) (by omega), cfN_hi (by omega), show j - 34 = k by omega, if_neg hb]
  exact cfN_same h2 e1 e2
theorem cfL_end {s : List Int} {a : Int} {k : Nat} (h2 : 2 ≤ k) (hk : k < 32) : cl (cfL s a k) (2 + k) = cl s (2 + k) := by
  rw [cl_cfL (by omega), cfN_no (by omega) (by omega)]
/-- a slot that is configured -/
def cfgd (s : List Int) (a : Int) : List Int := (cfL s a 32).set 0 (if a = 0 then 2 else 3)
abbrev Sr := List Int × Int
def adr (s : List Int) (x : Int) : Sr := if st s = 1 then (((s.set 0 2).set 1 x).set 3 1, 1) else (s, 19)
def cfg (s : List Int) (a : Int) : Sr := if stB a = false then (s, 17) else if st s = 1 then (s, 19) else (cfgd s a, 1)
/-- what a command makes of an endpoint's state, if it can -/
def nxt (k e : Int) : Int × Bool := if k = 6 then (3, e == 2) else if k = 7 then (3, e == 1) else (1, e == 3 || e == 1)
def mrk (s : List Int) (e : Nat) (a : Int) : Sr := if mkB a = false then (s, 17) else if en s e = 3 then (s.set (34 + e) a, 1) else (s, 19)
def atE (s : List Int) (k e a : Int) : Sr :=
  if edB e = false then (s, 5) else if en s e.toNat = 0 then (s, 12) else if k = 8 then mrk s e.toNat a
  else if (nxt k (en s e.toNat)).2 = true then (s.set (2 + e.toNat) (nxt k (en s e.toNat)).1, 1) else (s, 19)
def beh (s : List Int) (x k e a : Int) : Sr :=
  if st s = 0 then (s, 11) else if k = 3 then (z66, 1) else if k = 4 then adr s x else if k = 5 then cfg s a else atE s k e a
structure Ans where
  B : Bd
  c : Int
  n : Int
def enb (B : Bd) : Ans := if fr B ≤ 8 then ⟨B.set (fr B) (one 1), 1, (fr B : Int)⟩ else ⟨B, 9, 0⟩
def ats (B : Bd) (k s e a : Int) : Ans :=
  if slB s = false then ⟨B, 5, 0⟩ else ⟨B.set s.toNat (beh (sl B s.toNat) (la B : Int) k e a).1, (beh (sl B s.toNat) (la B : Int) k e a).2, s⟩
def doB (B : Bd) (k s e a : Int) : Ans :=
  if chk B = false then ⟨B, 0, 0⟩ else if k = 1 then ⟨B, 1, 0⟩ else if k = 2 then enb B else if 3 ≤ k ∧ k ≤ 9 then ats B k s e a else ⟨B, 5, 0⟩
/-- an endpoint halts -/
def hlt (B : Bd) (s e : Int) : Bd :=
  if chk B = true ∧ slB s = true ∧ edB e = true ∧ en (sl B s.toNat) e.toNat = 1 then B.set s.toNat ((sl B s.toNat).set (2 + e.toNat) 2) else B
theorem adr_length {s : List Int} {x : Int} (h : s.length = 66) : (adr s x).1.length = 66 := by unfold adr; split <;> simp [h]
theorem cfg_length {s : List Int} {a : Int} (h : s.length = 66) : (cfg s a).1.length = 66 := by
  unfold cfg
  split
  · exact h
  · split
    · exact h
    · simp [cfgd, cfL_length]
theorem mrk_length {s : List Int} {e : Nat} {a : Int} (h : s.length = 66) : (mrk s e a).1.length = 66 := by
  unfold mrk; split
  · exact h
  · split <;> simp [h]
theorem atE_length {s : List Int} {k e a : Int} (h : s.length = 66) : (atE s k e a).1.length = 66 := by
  unfold atE; split
  · exact h
  · split
    · exact h
    · split
      · exact mrk_length h
      · split <;> simp [h]
theorem beh_length {s : List Int} {x k e a : Int} (h : s.length = 66) : (beh s x k e a).1.length = 66 := by
  unfold beh; split
  · exact h
  · split
    · simp [z66]
    · split
      · exact adr_length h
      · split
        · exact cfg_length h
        · exact atE_length h
theorem enb_wf {B : Bd} (h : Wf B) : Wf (enb B).B := by
  unfold enb; split
  · exact h.set (by simp [one])
  · exact h
theorem sl_in {s : Int} (h : slB s = true) : 1 ≤ s.toNat ∧ s.toNat ≤ 8 ∧ (s.toNat : Int) = s := by
  unfold slB at h
  simp only [Bool.and_eq_true, decide_eq_true_eq] at h
  omega
theorem ed_in {s : Int} (h : edB s = true) : 1 ≤ s.toNat ∧ s.toNat ≤ 31 ∧ (s.toNat : Int) = s := by
  unfold edB at h
  simp only [Bool.and_eq_true, decide_eq_true_eq] at h
  omega
theorem ats_wf {B : Bd} {k s e a : Int} (h : Wf B) : Wf (ats B k s e a).B := by
  unfold ats; split
  · exact h
  · rename_i q
    have := sl_in (s := s) (by simpa using q)
    exact h.set (beh_length (h.sl (by omega)))
theorem do_wf {B : Bd} {k s e a : Int} (h : Wf B) : Wf (doB B k s e a).B := by
  unfold doB; split
  · exact h
  · split
    · exact h
    · split
      · exact enb_wf h
      · split
        · exact ats_wf h
        · exact h
theorem hlt_wf {B : Bd} {s e : Int} (h : Wf B) : Wf (hlt B s e) := by
  unfold hlt; split
  · rename_i q
    have := sl_in q.2.1
    exact h.set (by rw [List.length_set]; exact h.sl (by omega))
  · exact h
end Go.Proofs.Ythjmcopknkemnaa.slots
