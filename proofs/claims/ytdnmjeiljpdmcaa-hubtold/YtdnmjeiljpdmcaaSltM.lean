/- slots: the plain mathematics: slots and boards as rows of numbers. No program is named here. -/
import Derived.WalkKit
namespace Go.Proofs.Ytdnmjeiljpdmcaa.slots
set_option linter.unusedVariables false

def cl (s : List Int) (j : Nat) : Int := s.getD j 0
theorem cl_at {s : List Int} {j : Nat} (h : j < s.length) : s[j]? = some (cl s j) := by
  unfold cl
  rw [List.getElem?_eq_getElem h, List.getD_eq_getElem?_getD, List.getElem?_eq_getElem h]
  rfl
theorem cl_set {s : List Int} {i j : Nat} {x : Int} : cl (s.set i x) j = if j = i ∧ i < s.length then x else cl s j := by
  unfold cl
  simp only [List.getD_eq_getElem?_getD, List.getElem?_set]
  by_cases h : i = j
  · subst h
    by_cases h2 : i < s.length
    · simp [h2]
    · simp [h2]
  · have : ¬ (j = i ∧ i < s.length) := fun q => h q.1.symm
    simp [h, this]
theorem cl_ext {s t : List Int} {n : Nat} (h1 : s.length = n) (h2 : t.length = n) (h : ∀ j, j < n → cl s j = cl t j) : s = t := by
  refine List.ext_getElem? fun j => ?_
  by_cases hj : j < n
  · rw [cl_at (by omega), cl_at (by omega), h j hj]
  · rw [List.getElem?_eq_none (by omega), List.getElem?_eq_none (by omega)]
def st (s : List Int) : Int := cl s 0
def ad (s : List Int) : Int := cl s 1
def en (s : List Int) (k : Nat) : Int := cl s (2 + k)
def mk (s : List Int) (k : Nat) : Int := cl s (34 + k)
def z66 : List Int := List.replicate 66 0
def one (x : Int) : List Int := x :: List.replicate 65 0
def mkB (m : Int) : Bool := decide (0 ≤ m) && decide (m ≤ 65535)
def adB (m : Int) : Bool := decide (1 ≤ m) && decide (m ≤ 127)
def slB (m : Int) : Bool := decide (1 ≤ m) && decide (m ≤ 8)
def edB (m : Int) : Bool := decide (1 ≤ m) && decide (m ≤ 31)
def stB (m : Int) : Bool := decide (0 ≤ m) && decide (m ≤ 4294967295) && decide (m % 4 = 0)
/-- an endpoint's state and its mark -/
def eok (e m : Int) : Bool := if e = 0 then m == 0 else if e = 1 ∨ e = 2 ∨ e = 3 then mkB m else false
/-- all of the numbers from k on below n -/
def allF (n : Nat) (p : Nat → Bool) (k : Nat) : Bool := ((List.range n).drop k).all p
def anyF (n : Nat) (p : Nat → Bool) (k : Nat) : Bool := ((List.range n).drop k).any p
theorem range_drop {n k : Nat} (h : k < n) : (List.range n).drop k = k :: (List.range n).drop (k + 1) := by
  rw [List.drop_eq_getElem_cons (by simpa using h)]
  simp
theorem allF_step {n k : Nat} {p : Nat → Bool} (h : k < n) : allF n p k = (p k && allF n p (k + 1)) := by unfold allF; rw [range_drop h]; rfl
theorem anyF_step {n k : Nat} {p : Nat → Bool} (h : k < n) : anyF n p k = (p k || anyF n p (k + 1)) := by unfold anyF; rw [range_drop h]; rfl
theorem allF_end {n k : Nat} {p : Nat → Bool} (h : n ≤ k) : allF n p k = true := by unfold allF; rw [List.drop_eq_nil_of_le (by simpa using h)]; rfl
theorem anyF_end {n k : Nat} {p : Nat → Bool} (h : n ≤ k) : anyF n p k = false := by unfold anyF; rw [List.drop_eq_nil_of_le (by simpa using h)]; rfl
theorem mem_drop_range {n k j : Nat} : j ∈ (List.range n).drop k ↔ k ≤ j ∧ j < n := by
  rw [List.mem_drop_iff_getElem]
  simp
  constructor
  · rintro ⟨i, h1, rfl⟩; omega
  · rintro ⟨h1, h2⟩; exact ⟨j - k, by omega, by omega⟩
theorem allF_iff {n k : Nat} {p : Nat → Bool} : allF n p k = true ↔ ∀ j, k ≤ j → j < n → p j = true := by
  unfold allF
  rw [List.all_eq_true]
  exact ⟨fun h j h1 h2 => h j (mem_drop_range.2 ⟨h1, h2⟩), fun h j hj => h j (mem_drop_range.1 hj).1 (mem_drop_range.1 hj).2⟩
theorem anyF_iff {n k : Nat} {p : Nat → Bool} : anyF n p k = true ↔ ∃ j, k ≤ j ∧ j < n ∧ p j = true := by
  unfold anyF
  rw [List.any_eq_true]
  exact ⟨fun ⟨j, hj, h⟩ => ⟨j, (mem_drop_range.1 hj).1, (mem_drop_range.1 hj).2, h⟩, fun ⟨j, h1, h2, h⟩ => ⟨j, mem_drop_range.2 ⟨h1, h2⟩, h⟩⟩
/-- are all endpoints in order? -/
def areE (s : List Int) : Bool := allF 32 (fun k => eok (en s k) (mk s k)) 0 && ((en s 0 == 0) && (en s 1 != 0))
def hasS (s : List Int) : Bool := anyF 32 (fun k => en s k != 0) 2
/-- is a slot right? -/
def right (s : List Int) : Bool :=
  if st s = 0 ∨ st s = 1 then decide (s = one (st s)) else if st s = 2 then adB (ad s) && areE s && !hasS s else if st s = 3 then adB (ad s) && areE s && hasS s else false
abbrev Bd := List (List Int)
structure Wf (B : Bd) : Prop where
  nine : B.length = 9
  each : ∀ s ∈ B, s.length = 66
def fl (B : Bd) : List Int := B.flatten
def sl (B : Bd) (i : Nat) : List Int := B.getD i []
theorem sl_at {B : Bd} {i : Nat} (h : i < B.length) : B[i]? = some (sl B i) := by
  unfold sl
  rw [List.getElem?_eq_getElem h, List.getD_eq_getElem?_getD, List.getElem?_eq_getElem h]
  rfl
theorem sl_mem {B : Bd} {i : Nat} (h : i < B.length) : sl B i ∈ B := List.mem_of_getElem? (sl_at h)
theorem Wf.sl {B : Bd} (h : Wf B) {i : Nat} (hi : i < 9) : (sl B i).length = 66 := h.each _ (sl_mem (by rw [h.nine]; exact hi))
theorem fl_length : ∀ (B : Bd) (n : Nat), (∀ s ∈ B, s.length = n) → (fl B).length = B.length * n
  | [], n, _ => by simp [fl]
  | s :: r, n, h => by
    have := fl_length r n (fun t ht => h t (by simp [ht]))
    have h2 := h s (by simp)
    unfold fl at *
    rw [List.flatten_cons, List.length_append, this, h2, List.length_cons, Nat.add_mul]; omega
theorem Wf.length {B : Bd} (h : Wf B) : (fl B).length = 594 := by rw [fl_length B 66 h.each, h.nine]
theorem fl_drop : ∀ (B : Bd) (n i : Nat), (∀ s ∈ B, s.length = n) → i ≤ B.length → (fl B).drop (i * n) = fl (B.drop i)
  | B, n, 0, _, _ => by simp
  | [], n, i + 1, _, h => by simp at h
  | s :: r, n, i + 1, h, hi => by
    have := fl_drop r n i (fun t ht => h t (by simp [ht])) (by simpa using hi)
    have h2 := h s (by simp)
    unfold fl at *
    rw [List.flatten_cons, List.drop_succ_cons, ← this, show (i + 1) * n = s.length + i * n by rw [h2, Nat.add_mul]; omega, List.drop_append, List.drop_eq_nil_of_le (by omega), List.nil_append]
    congr 1
    omega
theorem fl_take : ∀ (B : Bd) (n i : Nat), (∀ s ∈ B, s.length = n) → i ≤ B.length → (fl B).take (i * n) = fl (B.take i)
  | B, n, 0, _, _ => by simp [fl]
  | [], n, i + 1, _, h => by simp at h
  | s :: r, n, i + 1, h, hi => by
    have := fl_take r n i (fun t ht => h t (by simp [ht])) (by simpa using hi)
    have h2 := h s (by simp)
    unfold fl at *
    rw [List.flatten_cons, List.take_succ_cons, List.flatten_cons, ← this, show (i + 1) * n = s.length + i * n by rw [h2, Nat.add_mul]; omega, List.take_append, List.take_of_length_le (by omega)]
    congr 2
    omega
theorem fl_sl {B : Bd} (h : Wf B) {i : Nat} (hi : i < 9) : ((fl B).drop (i * 66)).take 66 = sl B i := by
  have hl := h.nine
  rw [fl_drop B 66 i h.each (by omega), List.drop_eq_getElem_cons (by omega)]
  have e : B[i]'(by omega) = sl B i := by
    have := sl_at (B := B) (i := i) (by omega)
    rw [List.getElem?_eq_getElem (by omega)] at this
    exact Option.some.inj this
  rw [e]
  unfold fl
  rw [List.flatten_cons, List.take_append, List.take_of_length_le (by rw [h.sl hi]; omega), h.sl hi]
  simp
theorem fl_at {B : Bd} (h : Wf B) {i j : Nat} (hi : i < 9) (hj : j < 66) : (fl B)[i * 66 + j]? = some (cl (sl B i) j) := by
  have h1 := fl_sl h hi
  have h2 : (((fl B).drop (i * 66)).take 66)[j]? = (fl B)[i * 66 + j]? := by
    rw [List.getElem?_take, if_pos hj, List.getElem?_drop]
  rw [← h2, h1]
  exact cl_at (by rw [h.sl hi]; exact hj)
theorem Wf.set {B : Bd} (h : Wf B) {i : Nat} {s : List Int} (hs : s.length = 66) : Wf (B.set i s) := ⟨by rw [List.length_set]; exact h.nine, fun t ht => by
  rcases List.mem_or_eq_of_mem_set ht with q | q
  · exact h.each t q
  · rw [q]; exact hs⟩
theorem fl_put {B : Bd} (h : Wf B) {i : Nat} {s : List Int} (hi : i < 9) (hs : s.length = 66) : (fl B).take (i * 66) ++ s ++ (fl B).drop (i * 66 + s.length) = fl (B.set i s) := by
  have hl := h.nine
  rw [hs, show i * 66 + 66 = (i + 1) * 66 by omega, fl_drop B 66 (i + 1) h.each (by omega), fl_take B 66 i h.each (by omega)]
  unfold fl
  rw [List.set_eq_take_append_cons_drop, if_pos (by omega)]
  simp
theorem fl_set {B : Bd} (h : Wf B) {i j : Nat} {x : Int} (hi : i < 9) (hj : j < 66) : (fl B).set (i * 66 + j) x = fl (B.set i ((sl B i).set j x)) := by
  have hl := h.nine
  have hs := h.sl hi
  have h1 : (fl B).take (i * 66) ++ sl B i ++ (fl B).drop (i * 66 + (sl B i).length) = fl B := by
    have := fl_sl h hi
    rw [hs, ← List.drop_drop]
    conv => lhs; arg 1; arg 2; rw [← this]
    rw [List.append_assoc, List.take_append_drop, List.take_append_drop]
  rw [← fl_put h hi (by rw [List.length_set]; exact hs), List.length_set]
  conv => lhs; arg 1; rw [← h1]
  have hlt : ((fl B).take (i * 66)).length = i * 66 := by rw [List.length_take, h.length]; omega
  rw [List.append_assoc, List.set_append_right _ _ (by omega), List.set_append_left _ _ (by omega), hlt, List.append_assoc]
  congr 3
  omega
theorem sl_set {B : Bd} (h : B.length = 9) {i j : Nat} {s : List Int} (hi : i < 9) : sl (B.set i s) j = if j = i then s else sl B j := by
  unfold sl
  simp only [List.getD_eq_getElem?_getD, List.getElem?_set]
  by_cases q : i = j
  · subst q; simp [h, hi]
  · have : ¬ j = i := fun e => q e.symm
    simp [q, this]
theorem sl_ext {B C : Bd} (h1 : B.length = 9) (h2 : C.length = 9) (h : ∀ j, j < 9 → sl B j = sl C j) : B = C := by
  refine List.ext_getElem? fun j => ?_
  by_cases hj : j < 9
  · rw [sl_at (by omega), sl_at (by omega), h j hj]
  · rw [List.getElem?_eq_none (by omega), List.getElem?_eq_none (by omega)]
/-- a row of 594 numbers is a board -/
def toB (l : List Int) : Bd := (List.range 9).map (fun i => (l.drop (i * 66)).take 66)
theorem toB_wf {l : List Int} (h : l.length = 594) : Wf (toB l) := ⟨by simp [toB], fun s hs => by
  obtain ⟨i, hi, rfl⟩ := List.mem_map.1 hs
  have := List.mem_range.1 hi
  simp; omega⟩
theorem toB_sl {l : List Int} {i : Nat} (hi : i < 9) : sl (toB l) i = (l.drop (i * 66)).take 66 := by
  unfold sl toB
  rw [List.getD_eq_getElem?_getD, List.getElem?_map, List.getElem?_range hi]
  rfl
theorem fl_ext {l m : List Int} (h1 : l.length = 594) (h2 : m.length = 594) (h : ∀ i, i < 9 → (l.drop (i * 66)).take 66 = (m.drop (i * 66)).take 66) : l = m := by
  refine List.ext_getElem? fun j => ?_
  by_cases hj : j < 594
  · have := congrArg (fun q => q[j % 66]?) (h (j / 66) (by omega))
    simp only [List.getElem?_take, List.getElem?_drop] at this
    rw [if_pos (by omega), if_pos (by omega), show j / 66 * 66 + j % 66 = j by omega] at this
    exact this
  · rw [List.getElem?_eq_none (by omega), List.getElem?_eq_none (by omega)]
theorem fl_toB {l : List Int} (h : l.length = 594) : fl (toB l) = l :=
  fl_ext (toB_wf h).length h fun i hi => by rw [fl_sl (toB_wf h) hi, toB_sl hi]
theorem fl_inj {B C : Bd} (h1 : Wf B) (h2 : Wf C) (h : fl B = fl C) : B = C :=
  sl_ext h1.nine h2.nine fun j hj => by rw [← fl_sl h1 hj, ← fl_sl h2 hj, h]
/-- how many slots have an address -/
def own (B : Bd) (x : Int) : Nat := B.countP (fun s => ad s == x)
def okS (B : Bd) (s : List Int) : Bool := right s && (ad s == 0 || decide (own B (ad s) ≤ 1))
/-- is a board right? -/
def chk (B : Bd) : Bool := decide (sl B 0 = z66) && B.all (okS B)
end Go.Proofs.Ytdnmjeiljpdmcaa.slots
