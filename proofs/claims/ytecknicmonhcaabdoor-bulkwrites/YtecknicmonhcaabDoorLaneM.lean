/- lane: the plain mathematics: numbers of a text, rows, stuffed rows, levels. No program is named here. -/
import Derived.WalkKit
import Derived.PlainAid
import Derived.Laws.BytesArg
namespace Go.Proofs.YtecknicmonhcaabDoor.lane
open Go.PlainAid

/-- the bytes of a text, as numbers -/
def nums (s : ByteArray) : List Int := s.data.toList.map fun b => (b.toNat : Int)
def Byt (l : List Int) : Prop := ∀ x ∈ l, 0 ≤ x ∧ x ≤ 255

theorem nums_length (s : ByteArray) : (nums s).length = s.size := by
  rw [nums, List.length_map, Array.length_toList]; rfl
theorem nums_get (s : ByteArray) (k : Nat) (h : k < s.size) : (nums s)[k]'(by rw [nums_length]; exact h) = bt s k := by
  unfold bt; rw [dif_pos h]
  simp only [nums, List.getElem_map]
  rfl
theorem nums_byt (s : ByteArray) : Byt (nums s) := by
  intro x hx
  obtain ⟨b, _, rfl⟩ := List.mem_map.1 hx
  have := b.toNat_lt
  omega
theorem drop_nums (s : ByteArray) (k : Nat) (h : k < s.size) : (nums s).drop k = bt s k :: (nums s).drop (k + 1) := by
  rw [List.drop_eq_getElem_cons (by rw [nums_length]; exact h), nums_get s k h]
theorem drop_end (s : ByteArray) (k : Nat) (h : s.size ≤ k) : (nums s).drop k = [] :=
  List.drop_eq_nil_of_le (by rw [nums_length]; exact h)
theorem nums_str (l : List Int) (h : Byt l) : nums (strOfNums l) = l := by
  unfold nums
  rw [strOfNums_data, List.map_map]
  conv => rhs; rw [← List.map_id l]
  apply List.map_congr_left
  intro x hx
  have := h x hx
  simp only [Function.comp, id]
  have e : (UInt8.ofNat x.toNat).toNat = x.toNat := by
    rw [UInt8.toNat_ofNat']; omega
  rw [e]; omega
theorem str_nums (s : ByteArray) : strOfNums (nums s) = s := by
  unfold strOfNums nums
  rw [List.map_map]
  have e : (s.data.toList.map ((fun n : Int => UInt8.ofNat n.toNat) ∘ fun b : UInt8 => (b.toNat : Int))) = s.data.toList := by
    conv => rhs; rw [← List.map_id s.data.toList]
    apply List.map_congr_left
    intro b _
    simp
  rw [e]
theorem nums_append (a b : ByteArray) : nums (a ++ b) = nums a ++ nums b := by
  unfold nums
  rw [ByteArray.data_append, Array.toList_append, List.map_append]
theorem bt_nums (s : ByteArray) (k : Nat) (h : k < s.size) : bt s k = (nums s).getD k 0 := by
  rw [← nums_get s k h]
  simp [List.getD, List.getElem?_eq_getElem (show k < (nums s).length by rw [nums_length]; exact h)]
theorem str_append (a b : List Int) : strOfNums (a ++ b) = strOfNums a ++ strOfNums b := by
  apply ByteArray.ext
  rw [ByteArray.data_append]
  simp [strOfNums]
theorem str_full (s : ByteArray) (h : 0 < s.size) : s.toList.isEmpty = false := by
  rw [ByteArray.toList_eq]
  cases e : s.data.toList with
  | nil => have : s.size = s.data.toList.length := by rw [Array.length_toList]; rfl
           rw [e, List.length_nil] at this; omega
  | cons x r => rfl
theorem str_size (l : List Int) : (strOfNums l).size = l.length := strOfNums_size l

/-- has a row the signs 0 and 1 alone? -/
def rowB (l : List Int) : Bool := l.all fun x => x == 48 || x == 49
def lev (x : Int) : Bool := x == 74 || x == 75
def levB (l : List Int) : Bool := l.all lev
/-- the other level -/
def oth (x : Int) : Int := if x = 74 then 75 else 74
def sgn (b : Bool) : Int := if b then 49 else 48
theorem rowB_cons (x : Int) (l : List Int) : rowB (x :: l) = ((x == 48 || x == 49) && rowB l) := rfl
theorem levB_cons (x : Int) (l : List Int) : levB (x :: l) = (lev x && levB l) := rfl
theorem lev_cases {x : Int} (h : lev x = true) : x = 74 ∨ x = 75 := by simpa [lev] using h
theorem row_cases {x : Int} {l : List Int} (h : rowB (x :: l) = true) : (x = 48 ∨ x = 49) ∧ rowB l = true := by
  rw [rowB_cons] at h; simpa using h

/-- the level of each bit, behind a level -/
def turnL : Int → List Int → List Int
  | _, [] => []
  | c, x :: r => if x = 48 then oth c :: turnL (oth c) r else c :: turnL c r
/-- the bit of each level, behind a level -/
def unturnL : Int → List Int → List Int
  | _, [] => []
  | c, x :: r => sgn (x == c) :: unturnL x r
theorem turnL_length (c : Int) (l : List Int) : (turnL c l).length = l.length := by
  induction l generalizing c with
  | nil => rfl
  | cons x r ih => unfold turnL; split <;> simp [ih]
theorem unturnL_length (c : Int) (l : List Int) : (unturnL c l).length = l.length := by
  induction l generalizing c with
  | nil => rfl
  | cons x r ih => simp [unturnL, ih]

/-- a 0 behind each sixth 1 in a row; o ones stand ahead -/
def stuffL : Nat → List Int → List Int
  | _, [] => []
  | o, x :: r => if x = 49 then (if o = 5 then 49 :: 48 :: stuffL 0 r else 49 :: stuffL (o + 1) r) else x :: stuffL 0 r
theorem stuffL_length (o : Nat) (l : List Int) (h : o ≤ 5) : (stuffL o l).length ≤ l.length + (l.length + o) / 6 := by
  induction l generalizing o with
  | nil => simp [stuffL]
  | cons x r ih =>
    unfold stuffL
    split
    · split
      · have := ih 0 (by omega); simp only [List.length_cons]; omega
      · have := ih (o + 1) (by omega); simp only [List.length_cons]; omega
    · have := ih 0 (by omega); simp only [List.length_cons]; omega
theorem stuffL_six (r : List Int) : stuffL 5 (49 :: r) = 49 :: 48 :: stuffL 0 r := by simp [stuffL]
theorem stuffL_one (o : Nat) (r : List Int) (h : ¬ o = 5) : stuffL o (49 :: r) = 49 :: stuffL (o + 1) r := by simp [stuffL, h]
theorem stuffL_not (o : Nat) (x : Int) (r : List Int) (h : ¬ x = 49) : stuffL o (x :: r) = x :: stuffL 0 r := by simp [stuffL, h]

/-- the row without each bit behind six ones, and the code; o ones stand ahead -/
def unstuffL : Nat → List Int → Int × List Int
  | o, [] => if o = 6 then (3, []) else (0, [])
  | o, x :: r =>
    if o < 6 then ((unstuffL (if x = 49 then o + 1 else 0) r).1, x :: (unstuffL (if x = 49 then o + 1 else 0) r).2)
    else if x = 49 then (6, []) else unstuffL 0 r
theorem unstuffL_in (o : Nat) (x : Int) (r : List Int) (h : o < 6) :
    unstuffL o (x :: r) = ((unstuffL (if x = 49 then o + 1 else 0) r).1, x :: (unstuffL (if x = 49 then o + 1 else 0) r).2) := by
  conv => lhs; unfold unstuffL
  rw [if_pos h]
theorem unstuffL_one (o : Nat) (r : List Int) (h : o < 6) : unstuffL o (49 :: r) = ((unstuffL (o + 1) r).1, 49 :: (unstuffL (o + 1) r).2) := by
  rw [unstuffL_in o 49 r h, if_pos rfl]
theorem unstuffL_not (o : Nat) (x : Int) (r : List Int) (h : o < 6) (hx : ¬ x = 49) : unstuffL o (x :: r) = ((unstuffL 0 r).1, x :: (unstuffL 0 r).2) := by
  rw [unstuffL_in o x r h, if_neg hx]
theorem unstuffL_bad (r : List Int) : unstuffL 6 (49 :: r) = (6, []) := by simp [unstuffL]
theorem unstuffL_out (x : Int) (r : List Int) (hx : ¬ x = 49) : unstuffL 6 (x :: r) = unstuffL 0 r := by simp [unstuffL, hx]
/-- what is answered -/
def unstuffS (l : List Int) : List Int := if (unstuffL 0 l).1 = 0 then (unstuffL 0 l).2 else []
theorem unstuffL_length (o : Nat) (l : List Int) : (unstuffL o l).2.length ≤ l.length := by
  induction l generalizing o with
  | nil => unfold unstuffL; split <;> simp
  | cons x r ih =>
    unfold unstuffL
    split
    · have := ih (if x = 49 then o + 1 else 0); simp only [List.length_cons]; omega
    · split
      · simp
      · have := ih 0; simp only [List.length_cons]; omega

/-- bit k of a byte, as a sign -/
def bitS (b : Int) (k : Nat) : Int := sgn (b / 2 ^ k % 2 == 1)
/-- the bits of a byte, from bit k on -/
def byteBits (b : Int) (k : Nat) : List Int := (List.range' k (8 - k)).map (bitS b)
theorem byteBits_step (b : Int) (k : Nat) (h : k < 8) : byteBits b k = bitS b k :: byteBits b (k + 1) := by
  unfold byteBits
  rw [show 8 - k = (8 - (k + 1)) + 1 by omega, List.range'_succ]
  simp
theorem byteBits_end (b : Int) : byteBits b 8 = [] := rfl
def bitsL (l : List Int) : List Int := l.flatMap fun b => byteBits b 0
theorem bitsL_nil : bitsL [] = [] := rfl
theorem bitsL_cons (b : Int) (l : List Int) : bitsL (b :: l) = byteBits b 0 ++ bitsL l := rfl
theorem byteBits_length (b : Int) (k : Nat) : (byteBits b k).length = 8 - k := by simp [byteBits]
theorem bitsL_length (l : List Int) : (bitsL l).length = 8 * l.length := by
  induction l with
  | nil => rfl
  | cons b l ih => rw [bitsL_cons, List.length_append, byteBits_length, ih, List.length_cons]; omega

/-- the number whose bits these are, the lowest first -/
def valL : List Int → Int
  | [] => 0
  | x :: r => (x - 48) + 2 * valL r
theorem valL_bound (l : List Int) (h : rowB l = true) : 0 ≤ valL l ∧ valL l < 2 ^ l.length := by
  induction l with
  | nil => simp [valL]
  | cons x r ih =>
    obtain ⟨hx, hr⟩ := row_cases h
    have := ih hr
    have e : (2 : Int) ^ (x :: r).length = 2 * 2 ^ r.length := by rw [List.length_cons, Int.pow_succ]; omega
    rw [e]; unfold valL
    rcases hx with rfl | rfl <;> omega
theorem valL_le (l : List Int) (h : rowB l = true) (hl : l.length ≤ 8) : 0 ≤ valL l ∧ valL l ≤ 255 := by
  have hb := valL_bound l h
  have : ∀ n : Fin 9, (2 : Int) ^ n.val ≤ 256 := by decide
  have := this ⟨l.length, by omega⟩
  simp only at this
  omega
theorem valL_seven (l : List Int) (h : rowB l = true) (hl : l.length ≤ 7) : 0 ≤ valL l ∧ valL l ≤ 127 := by
  have hb := valL_bound l h
  have : ∀ n : Fin 8, (2 : Int) ^ n.val ≤ 128 := by decide
  have := this ⟨l.length, by omega⟩
  simp only at this
  omega
theorem rowB_drop (l : List Int) (k : Nat) (h : rowB l = true) : rowB (l.drop k) = true := by
  unfold rowB at *
  rw [List.all_eq_true] at *
  intro x hx
  exact h x (List.mem_of_mem_drop hx)
theorem rowB_take (l : List Int) (k : Nat) (h : rowB l = true) : rowB (l.take k) = true := by
  unfold rowB at *
  rw [List.all_eq_true] at *
  intro x hx
  exact h x (List.mem_of_mem_take hx)
/-- the bytes of a row, eight by eight -/
def bytesL (l : List Int) : List Int := (List.range (l.length / 8)).map fun i => valL ((l.drop (8 * i)).take 8)
theorem bytesL_nil : bytesL [] = [] := rfl
theorem bytesL_step (l : List Int) (h : 8 ≤ l.length) : bytesL l = valL (l.take 8) :: bytesL (l.drop 8) := by
  unfold bytesL
  rw [show l.length / 8 = (l.drop 8).length / 8 + 1 by rw [List.length_drop]; omega, List.range_succ_eq_map]
  simp only [List.map_cons, List.map_map, Nat.mul_zero, List.drop_zero, List.drop_drop]
  congr 1
  apply List.map_congr_left
  intro i _
  simp only [Function.comp]
  rw [show 8 * i.succ = 8 + 8 * i by omega]
theorem bytesL_length (l : List Int) : (bytesL l).length = l.length / 8 := by simp [bytesL]
theorem nums_extract (s : ByteArray) (a b : Nat) : nums (s.extract a b) = ((nums s).take b).drop a := by
  unfold nums
  rw [ByteArray.data_extract, Array.toList_extract, List.extract_eq_take_drop, List.map_take, List.map_drop, List.take_drop]
  by_cases h : a ≤ b
  · rw [show a + (b - a) = b by omega]
  · rw [List.drop_eq_nil_of_le (by rw [List.length_take]; omega), List.drop_eq_nil_of_le (by rw [List.length_take]; omega)]
end Go.Proofs.YtecknicmonhcaabDoor.lane
