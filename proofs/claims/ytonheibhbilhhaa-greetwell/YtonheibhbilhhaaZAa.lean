/- lane: the plain mathematics: numbers of a text, rows, stuffed rows, levels. No program is named here. -/
import Derived.WalkKit
import Derived.PlainAid
import Derived.Laws.BytesArg
import Derived.Test.YtonheibhbilhhaaRows
import Derived.Handy
import Derived.Below
import Derived.OwnWalk
import Derived.Laws.AppendOwn
import Derived.Deep.AppendLies
import Derived.WalkSmall
import Derived.Lib.ValidLaws
import Derived.Laws.BitsAllLaws
import Derived.Lib.OthersKept
import Derived.WalkSpells
namespace Go.Proofs.Ytonheibhbilhhaa.lane
open Go.PlainAid

/-- the bytes of a text, as numbers -/
def nums (s : ByteArray) : List Int := s.data.toList.map fun b => (b.toNat : Int)
def Byt (l : List Int) : Prop := ∀ x ∈ l, 0 ≤ x ∧ x ≤ 255

theorem nums_length (s : ByteArray) : (nums s).length = s.size := by
  rw [nums, List.length_map, Array.length_toList]; rfl
theorem nums_get (s : ByteArray) (k : Nat) (h : k < s.size) : (nums s)[k]'(by rw [nums_length]; exact h) = bt s k := by
  unfold bt; rw [dif_pos h]
  simp only [nums, List.getElem_map]
  rfl
theorem nums_byt (s : ByteArray) : Byt (nums s) := by
  intro x hx
  obtain ⟨b, _, rfl⟩ := List.mem_map.1 hx
  have := b.toNat_lt
  omega
theorem drop_nums (s : ByteArray) (k : Nat) (h : k < s.size) : (nums s).drop k = bt s k :: (nums s).drop (k + 1) := by
  rw [List.drop_eq_getElem_cons (by rw [nums_length]; exact h), nums_get s k h]
theorem drop_end (s : ByteArray) (k : Nat) (h : s.size ≤ k) : (nums s).drop k = [] :=
  List.drop_eq_nil_of_le (by rw [nums_length]; exact h)
theorem nums_str (l : List Int) (h : Byt l) : nums (strOfNums l) = l := by
  unfold nums
  rw [strOfNums_data, List.map_map]
  conv => rhs; rw [← List.map_id l]
  apply List.map_congr_left
  intro x hx
  have := h x hx
  simp only [Function.comp, id]
  have e : (UInt8.ofNat x.toNat).toNat = x.toNat := by
    rw [UInt8.toNat_ofNat']; omega
  rw [e]; omega
theorem str_nums (s : ByteArray) : strOfNums (nums s) = s := by
  unfold strOfNums nums
  rw [List.map_map]
  have e : (s.data.toList.map ((fun n : Int => UInt8.ofNat n.toNat) ∘ fun b : UInt8 => (b.toNat : Int))) = s.data.toList := by
    conv => rhs; rw [← List.map_id s.data.toList]
    apply List.map_congr_left
    intro b _
    simp
  rw [e]
theorem nums_append (a b : ByteArray) : nums (a ++ b) = nums a ++ nums b := by
  unfold nums
  rw [ByteArray.data_append, Array.toList_append, List.map_append]
theorem bt_nums (s : ByteArray) (k : Nat) (h : k < s.size) : bt s k = (nums s).getD k 0 := by
  rw [← nums_get s k h]
  simp [List.getD, List.getElem?_eq_getElem (show k < (nums s).length by rw [nums_length]; exact h)]
theorem str_append (a b : List Int) : strOfNums (a ++ b) = strOfNums a ++ strOfNums b := by
  apply ByteArray.ext
  rw [ByteArray.data_append]
  simp [strOfNums]
theorem str_full (s : ByteArray) (h : 0 < s.size) : s.toList.isEmpty = false := by
  rw [ByteArray.toList_eq]
  cases e : s.data.toList with
  | nil => have : s.size = s.data.toList.length := by rw [Array.length_toList]; rfl
           rw [e, List.length_nil] at this; omega
  | cons x r => rfl
theorem str_size (l : List Int) : (strOfNums l).size = l.length := strOfNums_size l

/-- has a row the signs 0 and 1 alone? -/
def rowB (l : List Int) : Bool := l.all fun x => x == 48 || x == 49
def lev (x : Int) : Bool := x == 74 || x == 75
def levB (l : List Int) : Bool := l.all lev
/-- the other level -/
def oth (x : Int) : Int := if x = 74 then 75 else 74
def sgn (b : Bool) : Int := if b then 49 else 48
theorem rowB_cons (x : Int) (l : List Int) : rowB (x :: l) = ((x == 48 || x == 49) && rowB l) := rfl
theorem levB_cons (x : Int) (l : List Int) : levB (x :: l) = (lev x && levB l) := rfl
theorem lev_cases {x : Int} (h : lev x = true) : x = 74 ∨ x = 75 := by simpa [lev] using h
theorem row_cases {x : Int} {l : List Int} (h : rowB (x :: l) = true) : (x = 48 ∨ x = 49) ∧ rowB l = true := by
  rw [rowB_cons] at h; simpa using h

/-- the level of each bit, behind a level -/
def turnL : Int → List Int → List Int
  | _, [] => []
  | c, x :: r => if x = 48 then oth c :: turnL (oth c) r else c :: turnL c r
/-- the bit of each level, behind a level -/
def unturnL : Int → List Int → List Int
  | _, [] => []
  | c, x :: r => sgn (x == c) :: unturnL x r
theorem turnL_length (c : Int) (l : List Int) : (turnL c l).length = l.length := by
  induction l generalizing c with
  | nil => rfl
  | cons x r ih => unfold turnL; split <;> simp [ih]
theorem unturnL_length (c : Int) (l : List Int) : (unturnL c l).length = l.length := by
  induction l generalizing c with
  | nil => rfl
  | cons x r ih => simp [unturnL, ih]

/-- a 0 behind each sixth 1 in a row; o ones stand ahead -/
def stuffL : Nat → List Int → List Int
  | _, [] => []
  | o, x :: r => if x = 49 then (if o = 5 then 49 :: 48 :: stuffL 0 r else 49 :: stuffL (o + 1) r) else x :: stuffL 0 r
theorem stuffL_length (o : Nat) (l : List Int) (h : o ≤ 5) : (stuffL o l).length ≤ l.length + (l.length + o) / 6 := by
  induction l generalizing o with
  | nil => simp [stuffL]
  | cons x r ih =>
    unfold stuffL
    split
    · split
      · have := ih 0 (by omega); simp only [List.length_cons]; omega
      · have := ih (o + 1) (by omega); simp only [List.length_cons]; omega
    · have := ih 0 (by omega); simp only [List.length_cons]; omega
theorem stuffL_six (r : List Int) : stuffL 5 (49 :: r) = 49 :: 48 :: stuffL 0 r := by simp [stuffL]
theorem stuffL_one (o : Nat) (r : List Int) (h : ¬ o = 5) : stuffL o (49 :: r) = 49 :: stuffL (o + 1) r := by simp [stuffL, h]
theorem stuffL_not (o : Nat) (x : Int) (r : List Int) (h : ¬ x = 49) : stuffL o (x :: r) = x :: stuffL 0 r := by simp [stuffL, h]

/-- the row without each bit behind six ones, and the code; o ones stand ahead -/
def unstuffL : Nat → List Int → Int × List Int
  | o, [] => if o = 6 then (3, []) else (0, [])
  | o, x :: r =>
    if o < 6 then ((unstuffL (if x = 49 then o + 1 else 0) r).1, x :: (unstuffL (if x = 49 then o + 1 else 0) r).2)
    else if x = 49 then (6, []) else unstuffL 0 r
theorem unstuffL_in (o : Nat) (x : Int) (r : List Int) (h : o < 6) :
    unstuffL o (x :: r) = ((unstuffL (if x = 49 then o + 1 else 0) r).1, x :: (unstuffL (if x = 49 then o + 1 else 0) r).2) := by
  conv => lhs; unfold unstuffL
  rw [if_pos h]
theorem unstuffL_one (o : Nat) (r : List Int) (h : o < 6) : unstuffL o (49 :: r) = ((unstuffL (o + 1) r).1, 49 :: (unstuffL (o + 1) r).2) := by
  rw [unstuffL_in o 49 r h, if_pos rfl]
theorem unstuffL_not (o : Nat) (x : Int) (r : List Int) (h : o < 6) (hx : ¬ x = 49) : unstuffL o (x :: r) = ((unstuffL 0 r).1, x :: (unstuffL 0 r).2) := by
  rw [unstuffL_in o x r h, if_neg hx]
theorem unstuffL_bad (r : List Int) : unstuffL 6 (49 :: r) = (6, []) := by simp [unstuffL]
theorem unstuffL_out (x : Int) (r : List Int) (hx : ¬ x = 49) : unstuffL 6 (x :: r) = unstuffL 0 r := by simp [unstuffL, hx]
/-- what is answered -/
def unstuffS (l : List Int) : List Int := if (unstuffL 0 l).1 = 0 then (unstuffL 0 l).2 else []
theorem unstuffL_length (o : Nat) (l : List Int) : (unstuffL o l).2.length ≤ l.length := by
  induction l generalizing o with
  | nil => unfold unstuffL; split <;> simp
  | cons x r ih =>
    unfold unstuffL
    split
    · have := ih (if x = 49 then o + 1 else 0); simp only [List.length_cons]; omega
    · split
      · simp
      · have := ih 0; simp only [List.length_cons]; omega

/-- bit k of a byte, as a sign -/
def bitS (b : Int) (k : Nat) : Int := sgn (b / 2 ^ k % 2 == 1)
/-- the bits of a byte, from bit k on -/
def byteBits (b : Int) (k : Nat) : List Int := (List.range' k (8 - k)).map (bitS b)
theorem byteBits_step (b : Int) (k : Nat) (h : k < 8) : byteBits b k = bitS b k :: byteBits b (k + 1) := by
  unfold byteBits
  rw [show 8 - k = (8 - (k + 1)) + 1 by omega, List.range'_succ]
  simp
theorem byteBits_end (b : Int) : byteBits b 8 = [] := rfl
def bitsL (l : List Int) : List Int := l.flatMap fun b => byteBits b 0
theorem bitsL_nil : bitsL [] = [] := rfl
theorem bitsL_cons (b : Int) (l : List Int) : bitsL (b :: l) = byteBits b 0 ++ bitsL l := rfl
theorem byteBits_length (b : Int) (k : Nat) : (byteBits b k).length = 8 - k := by simp [byteBits]
theorem bitsL_length (l : List Int) : (bitsL l).length = 8 * l.length := by
  induction l with
  | nil => rfl
  | cons b l ih => rw [bitsL_cons, List.length_append, byteBits_length, ih, List.length_cons]; omega

/-- the number whose bits these are, the lowest first -/
def valL : List Int → Int
  | [] => 0
  | x :: r => (x - 48) + 2 * valL r
theorem valL_bound (l : List Int) (h : rowB l = true) : 0 ≤ valL l ∧ valL l < 2 ^ l.length := by
  induction l with
  | nil => simp [valL]
  | cons x r ih =>
    obtain ⟨hx, hr⟩ := row_cases h
    have := ih hr
    have e : (2 : Int) ^ (x :: r).length = 2 * 2 ^ r.length := by rw [List.length_cons, Int.pow_succ]; omega
    rw [e]; unfold valL
    rcases hx with rfl | rfl <;> omega
theorem valL_le (l : List Int) (h : rowB l = true) (hl : l.length ≤ 8) : 0 ≤ valL l ∧ valL l ≤ 255 := by
  have hb := valL_bound l h
  have : ∀ n : Fin 9, (2 : Int) ^ n.val ≤ 256 := by decide
  have := this ⟨l.length, by omega⟩
  simp only at this
  omega
theorem valL_seven (l : List Int) (h : rowB l = true) (hl : l.length ≤ 7) : 0 ≤ valL l ∧ valL l ≤ 127 := by
  have hb := valL_bound l h
  have : ∀ n : Fin 8, (2 : Int) ^ n.val ≤ 128 := by decide
  have := this ⟨l.length, by omega⟩
  simp only at this
  omega
theorem rowB_drop (l : List Int) (k : Nat) (h : rowB l = true) : rowB (l.drop k) = true := by
  unfold rowB at *
  rw [List.all_eq_true] at *
  intro x hx
  exact h x (List.mem_of_mem_drop hx)
theorem rowB_take (l : List Int) (k : Nat) (h : rowB l = true) : rowB (l.take k) = true := by
  unfold rowB at *
  rw [List.all_eq_true] at *
  intro x hx
  exact h x (List.mem_of_mem_take hx)
/-- the bytes of a row, eight by eight -/
def bytesL (l : List Int) : List Int := (List.range (l.length / 8)).map fun i => valL ((l.drop (8 * i)).take 8)
theorem bytesL_nil : bytesL [] = [] := rfl
theorem bytesL_step (l : List Int) (h : 8 ≤ l.length) : bytesL l = valL (l.take 8) :: bytesL (l.drop 8) := by
  unfold bytesL
  rw [show l.length / 8 = (l.drop 8).length / 8 + 1 by rw [List.length_drop]; omega, List.range_succ_eq_map]
  simp only [List.map_cons, List.map_map, Nat.mul_zero, List.drop_zero, List.drop_drop]
  congr 1
  apply List.map_congr_left
  intro i _
  simp only [Function.comp]
  rw [show 8 * i.succ = 8 + 8 * i by omega]
theorem bytesL_length (l : List Int) : (bytesL l).length = l.length / 8 := by simp [bytesL]
theorem nums_extract (s : ByteArray) (a b : Nat) : nums (s.extract a b) = ((nums s).take b).drop a := by
  unfold nums
  rw [ByteArray.data_extract, Array.toList_extract, List.extract_eq_take_drop, List.map_take, List.map_drop, List.take_drop]
  by_cases h : a ≤ b
  · rw [show a + (b - a) = b by omega]
  · rw [List.drop_eq_nil_of_le (by rw [List.length_take]; omega), List.drop_eq_nil_of_le (by rw [List.length_take]; omega)]
end Go.Proofs.Ytonheibhbilhhaa.lane

/- a row of bytes that the call made by append: whatever value names it. -/
namespace Go.Proofs.Ytonheibhbilhhaa.lane
open Go.RowKit Go.PlainAid

/-- the value v owns the bytes acc, in a block from B on -/
def Bys (w : World) (B : Nat) (v : Value) (acc : List Int) : Prop := w.ownsRow B 5 1 v acc.length (acc.map (Value.int .u8))
theorem Bys.nil (w : World) (B : Nat) : Bys w B (.slice none 0 0) [] := ⟨rfl, .inl ⟨rfl, rfl⟩⟩
theorem Bys.conv {w : World} {B : Nat} {v : Value} {acc : List Int} (h : Bys w B v acc) :
    (convert 71 9 v).run Try.prog w = .ok (.string (strOfNums acc)) w := by
  rcases h.2 with ⟨rfl, h0⟩ | ⟨g, cap, cur, rfl, hb, hg, hn, hc, hs, ht⟩
  · rw [List.eq_nil_of_length_eq_zero h0]
    exact run_convert_bytes_nil w 71 5 Try.underlying71 Try.underlying5 0 0 9 Try.underlying9
  · refine run_convert_bytes_arg w 71 5 Try.underlying71 Try.underlying5 g 0 acc.length cap acc rfl ?_ 9 Try.underlying9
    intro i hi
    rw [Nat.zero_add, World.ownsRow.cellAt h i (by omega)]
    simp [List.getD, List.getElem?_eq_getElem hi]
theorem Bys.block {w : World} {B : Nat} {v : Value} {acc : List Int} (h : Bys w B v acc) : ∀ k, v.ownBlock = some k → B ≤ k := by
  intro k hk
  rcases h.2 with ⟨rfl, h0⟩ | ⟨g, cap, cur, rfl, hb, _⟩
  · cases hk
  · simp [Value.ownBlock] at hk; omega
theorem Bys.push {w1 : World} {B g cap : Nat} {acc : List Int} {x : Int}
    (h : w1.ownsRow B 5 1 (.slice (some ⟨g, 0, none⟩) (acc.length + 1) cap) (acc.length + 1) (acc.map (Value.int .u8) ++ [.int .u8 x])) :
    Bys w1 B (.slice (some ⟨g, 0, none⟩) (acc.length + 1) cap) (acc ++ [x]) := by
  unfold Bys
  simpa using h
theorem infoB : (Try.prog.info? 5).map (fun i => (i.zero, i.size, i.bytes)) = some (some (.int .u8 0), 1, 1) := by kernel_rfl
end Go.Proofs.Ytonheibhbilhhaa.lane

/- utf: the plain mathematics: runes of bytes, their UTF-8, units of sixteen bits. No program is named here. -/
namespace Go.Proofs.Ytonheibhbilhhaa.utf
open Go.PlainAid Go.Lib Go.Proofs.Ytonheibhbilhhaa.lane

/-! ### the runes of a text -/
def runesF : Nat → List UInt8 → List Int
  | 0, _ => []
  | n + 1, l => if l = [] then [] else ((decodeL l).1 : Int) :: runesF n (l.drop (decodeL l).2)
def runesU (l : List UInt8) : List Int := runesF l.length l
theorem runesF_nil : ∀ n, runesF n [] = []
  | 0 => rfl
  | _ + 1 => by simp [runesF]
theorem runesF_fuel : ∀ (n m : Nat) (l : List UInt8), l.length ≤ n → l.length ≤ m → runesF n l = runesF m l
  | 0, m, l, hn, _ => by
    have : l = [] := List.eq_nil_of_length_eq_zero (by omega)
    subst this
    rw [runesF_nil, runesF_nil]
  | n + 1, 0, l, _, hm => by
    have : l = [] := List.eq_nil_of_length_eq_zero (by omega)
    subst this
    rw [runesF_nil, runesF_nil]
  | n + 1, m + 1, l, hn, hm => by
    by_cases hne : l = []
    · subst hne
      rw [runesF_nil, runesF_nil]
    · have hw := decodeL_width l
      have hl : 0 < l.length := List.length_pos_iff.2 hne
      simp only [runesF, if_neg hne]
      rw [runesF_fuel n m _ (by rw [List.length_drop]; omega) (by rw [List.length_drop]; omega)]
theorem runesU_nil : runesU [] = [] := rfl
theorem runesU_step (l : List UInt8) (hne : l ≠ []) : runesU l = ((decodeL l).1 : Int) :: runesU (l.drop (decodeL l).2) := by
  have hw := decodeL_width l
  have hl : 0 < l.length := List.length_pos_iff.2 hne
  unfold runesU
  obtain ⟨n, hn⟩ : ∃ n, l.length = n + 1 := ⟨l.length - 1, by omega⟩
  rw [hn]
  simp only [runesF, if_neg hne]
  rw [runesF_fuel n _ _ (by rw [List.length_drop]; omega) (Nat.le_refl _)]

/-- a rune: no half of a pair, at most 1114111 -/
def okR (r : Int) : Prop := (0 ≤ r ∧ r < 55296) ∨ (57344 ≤ r ∧ r ≤ 1114111)
theorem decodeL_ok (l : List UInt8) : okR ((decodeL l).1 : Int) := by
  rw [decodeL_N]
  have k0 := (l.getD 0 0).toNat_lt
  have k1 := (l.getD 1 0).toNat_lt
  have k2 := (l.getD 2 0).toNat_lt
  have k3 := (l.getD 3 0).toNat_lt
  unfold okR
  rcases decodeN_shape l.length (l.getD 0 0).toNat (l.getD 1 0).toNat (l.getD 2 0).toNat (l.getD 3 0).toNat with ⟨c, e⟩ | ⟨c1, c2, c3, cv, e⟩ | ⟨c1, c2, c3, c4, cv, cs, e⟩ | ⟨c1, c2, c3, c4, c5, cv, cw, e⟩ | e
  all_goals (rw [e]; dsimp only; omega)
theorem runesU_ok : ∀ (n : Nat) (l : List UInt8), l.length ≤ n → ∀ r ∈ runesU l, okR r
  | 0, l, h => by
    have : l = [] := List.eq_nil_of_length_eq_zero (by omega)
    subst this
    intro r hr; cases hr
  | n + 1, l, h => by
    by_cases hne : l = []
    · subst hne; intro r hr; cases hr
    · rw [runesU_step l hne]
      have hw := decodeL_width l
      have hl : 0 < l.length := List.length_pos_iff.2 hne
      intro r hr
      rcases List.mem_cons.1 hr with rfl | hr
      · exact decodeL_ok l
      · exact runesU_ok n _ (by rw [List.length_drop]; omega) r hr

/-- runes in UTF-8 -/
def encs (rs : List Int) : List Int := rs.flatMap encodeRuneZ
theorem encs_nil : encs [] = [] := rfl
theorem encs_cons (r : Int) (rs : List Int) : encs (r :: rs) = encodeRuneZ r ++ encs rs := rfl
theorem encs_append (a b : List Int) : encs (a ++ b) = encs a ++ encs b := by simp [encs]
theorem encs_byt (rs : List Int) : Byt (encs rs) := by
  intro x hx
  obtain ⟨r, _, h⟩ := List.mem_flatMap.1 hx
  have := encodeRuneZ_byte r x h
  omega
theorem encs_length (rs : List Int) : rs.length ≤ (encs rs).length ∧ (encs rs).length ≤ 4 * rs.length := by
  induction rs with
  | nil => simp [encs]
  | cons r rs ih =>
    have := encodeRuneZ_length r
    rw [encs_cons, List.length_append, List.length_cons]
    omega
def bys (l : List Int) : List UInt8 := l.map fun n => UInt8.ofNat n.toNat
theorem bys_append (a b : List Int) : bys (a ++ b) = bys a ++ bys b := by simp [bys]
theorem bys_length (a : List Int) : (bys a).length = a.length := by simp [bys]
theorem str_bys (l : List Int) : (strOfNums l).data.toList = bys l := strOfNums_data l
theorem byn {x : Int} (h0 : 0 ≤ x) (h1 : x < 256) : (UInt8.ofNat x.toNat).toNat = x.toNat := by
  rw [UInt8.toNat_ofNat']; omega

set_option maxHeartbeats 2000000 in
/-- a rune's bytes are decoded as that rune, whatever follows -/
theorem decode_enc (r : Int) (h : okR r) (rest : List UInt8) : decodeL (bys (encodeRuneZ r) ++ rest) = (r.toNat, (encodeRuneZ r).length) := by
  rw [decodeL_N]
  unfold okR at h
  by_cases h1 : r ≤ 127
  · rw [encodeRuneZ_one (by omega) h1]
    simp only [bys, List.map_cons, List.map_nil, List.cons_append, List.nil_append, List.getD_cons_zero, List.length_cons, List.length_nil]
    rw [byn (by omega) (by omega)]
    unfold decodeN
    rw [if_pos (by omega)]
  · by_cases h2 : r ≤ 2047
    · rw [encodeRuneZ_two (by omega) h2]
      simp only [bys, List.map_cons, List.map_nil, List.cons_append, List.nil_append, List.getD_cons_zero, List.getD_cons_succ, List.length_cons, List.length_nil]
      rw [byn (by omega) (by omega), byn (by omega) (by omega)]
      unfold decodeN
      rw [if_neg (by omega), if_pos (by omega), if_pos (by omega)]
      apply Prod.ext <;> simp only <;> omega
    · by_cases h3 : r ≤ 65535
      · rw [encodeRuneZ_three (by omega)]
        simp only [bys, List.map_cons, List.map_nil, List.cons_append, List.nil_append, List.getD_cons_zero, List.getD_cons_succ, List.length_cons, List.length_nil]
        rw [byn (by omega) (by omega), byn (by omega) (by omega), byn (by omega) (by omega)]
        unfold decodeN
        rw [if_neg (by omega), if_neg (by omega), if_pos (by omega), if_pos (by omega)]
        apply Prod.ext <;> simp only <;> omega
      · rw [encodeRuneZ_four (by omega) (by omega)]
        simp only [bys, List.map_cons, List.map_nil, List.cons_append, List.nil_append, List.getD_cons_zero, List.getD_cons_succ, List.length_cons, List.length_nil]
        rw [byn (by omega) (by omega), byn (by omega) (by omega), byn (by omega) (by omega), byn (by omega) (by omega)]
        unfold decodeN
        rw [if_neg (by omega), if_neg (by omega), if_neg (by omega), if_pos (by omega), if_pos (by omega)]
        apply Prod.ext <;> simp only <;> omega
theorem drop_enc (r : Int) (rest : List UInt8) : (bys (encodeRuneZ r) ++ rest).drop (encodeRuneZ r).length = rest := by
  rw [← bys_length]; simp
theorem enc_ne (r : Int) (rest : List UInt8) : bys (encodeRuneZ r) ++ rest ≠ [] := by
  intro h
  have h := congrArg List.length h
  have := (encodeRuneZ_length r).1
  rw [List.length_append, bys_length, List.length_nil] at h
  omega
theorem runes_encs (rs : List Int) (h : ∀ r ∈ rs, okR r) (rest : List UInt8) : runesU (bys (encs rs) ++ rest) = rs ++ runesU rest := by
  induction rs with
  | nil => rfl
  | cons r rs ih =>
    have hr := h r (by simp)
    rw [encs_cons, bys_append, List.append_assoc, runesU_step _ (enc_ne _ _), decode_enc r hr]
    simp only
    rw [drop_enc, ih (fun x hx => h x (by simp [hx]))]
    unfold okR at hr
    rw [List.cons_append, Int.toNat_of_nonneg (by omega)]
theorem valid_encs (rs : List Int) (h : ∀ r ∈ rs, okR r) (rest : List UInt8) : validD (bys (encs rs) ++ rest) = validD rest := by
  induction rs with
  | nil => rfl
  | cons r rs ih =>
    have hr := h r (by simp)
    rw [encs_cons, bys_append, List.append_assoc, validD_step _ (enc_ne _ _), decode_enc r hr]
    simp only
    rw [drop_enc, ih (fun x hx => h x (by simp [hx])), if_neg]
    rintro ⟨h1, h2⟩
    have e : r = 65533 := by omega
    subst e
    simp [encodeRuneZ] at h2
theorem encodeRune_bys (r : Int) : encodeRune r = bys (encodeRuneZ r) := rfl
/-- a text of runes is its runes in UTF-8 -/
theorem valid_same : ∀ (n : Nat) (l : List UInt8), l.length ≤ n → validD l = true → bys (encs (runesU l)) = l
  | 0, l, h, _ => by
    have : l = [] := List.eq_nil_of_length_eq_zero (by omega)
    subst this; rfl
  | n + 1, l, h, hv => by
    by_cases hne : l = []
    · subst hne; rfl
    · have hw := decodeL_width l
      have hl : 0 < l.length := List.length_pos_iff.2 hne
      rw [validD_step l hne] at hv
      split at hv
      · cases hv
      · rename_i hn
        rw [runesU_step l hne, encs_cons, bys_append, ← encodeRune_bys, encode_decode l hne hn, valid_same n _ (by rw [List.length_drop]; omega) hv, List.take_append_drop]

/-! ### units -/
/-- a rune's units, two bytes each -/
def wu (r : Int) : List Int :=
  if r < 65536 then [r % 256, r / 256]
  else [(55296 + (r - 65536) / 1024) % 256, (55296 + (r - 65536) / 1024) / 256, (56320 + (r - 65536) % 1024) % 256, (56320 + (r - 65536) % 1024) / 256]
def wideL (rs : List Int) : List Int := rs.flatMap wu
theorem wideL_nil : wideL [] = [] := rfl
theorem wideL_cons (r : Int) (rs : List Int) : wideL (r :: rs) = wu r ++ wideL rs := rfl
theorem wideL_append (a b : List Int) : wideL (a ++ b) = wideL a ++ wideL b := by simp [wideL]
theorem wu_one {r : Int} (h : r < 65536) : wu r = [r % 256, r / 256] := by simp [wu, h]
theorem wu_two {r : Int} (h : ¬ r < 65536) : wu r = [(55296 + (r - 65536) / 1024) % 256, (55296 + (r - 65536) / 1024) / 256, (56320 + (r - 65536) % 1024) % 256, (56320 + (r - 65536) % 1024) / 256] := by simp [wu, h]
theorem wu_byt {r : Int} (h : okR r) : Byt (wu r) := by
  unfold okR at h
  intro x hx
  by_cases h1 : r < 65536
  · rw [wu_one h1] at hx
    simp at hx
    omega
  · rw [wu_two h1] at hx
    simp at hx
    omega
theorem wideL_byt {rs : List Int} (h : ∀ r ∈ rs, okR r) : Byt (wideL rs) := by
  intro x hx
  obtain ⟨r, hr, h1⟩ := List.mem_flatMap.1 hx
  exact wu_byt (h r hr) x h1
/-- how many units -/
def wn (r : Int) : Nat := if r < 65536 then 1 else 2
theorem wu_length (r : Int) : (wu r).length = 2 * wn r := by
  unfold wu wn; split <;> simp
def cnt : List Int → Nat
  | [] => 0
  | r :: rs => wn r + cnt rs
theorem cnt_append (a b : List Int) : cnt (a ++ b) = cnt a + cnt b := by
  induction a with
  | nil => simp [cnt]
  | cons r a ih => rw [List.cons_append, cnt, cnt, ih]; omega
theorem wideL_length (rs : List Int) : (wideL rs).length = 2 * cnt rs := by
  induction rs with
  | nil => rfl
  | cons r rs ih => rw [wideL_cons, List.length_append, wu_length, ih, cnt]; omega
theorem wn_pos (r : Int) : 1 ≤ wn r ∧ wn r ≤ 2 := by unfold wn; split <;> omega
theorem cnt_le (rs : List Int) : rs.length ≤ cnt rs ∧ cnt rs ≤ 2 * rs.length := by
  induction rs with
  | nil => simp [cnt]
  | cons r rs ih => have := wn_pos r; rw [cnt, List.length_cons]; omega
theorem runesU_length : ∀ (n : Nat) (l : List UInt8), l.length ≤ n → (runesU l).length ≤ l.length
  | 0, l, h => by
    have : l = [] := List.eq_nil_of_length_eq_zero (by omega)
    subst this; simp [runesU_nil]
  | n + 1, l, h => by
    by_cases hne : l = []
    · subst hne; simp [runesU_nil]
    · have hw := decodeL_width l
      have hl : 0 < l.length := List.length_pos_iff.2 hne
      have := runesU_length n (l.drop (decodeL l).2) (by rw [List.length_drop]; omega)
      rw [runesU_step l hne, List.length_cons]
      rw [List.length_drop] at this
      omega

/-- the units of bytes -/
def unitsL : List Int → List Int
  | a :: b :: r => (a + 256 * b) :: unitsL r
  | _ => []
theorem unitsL_two (a b : Int) (r : List Int) : unitsL (a :: b :: r) = (a + 256 * b) :: unitsL r := rfl
theorem unitsL_nil : unitsL [] = [] := rfl
theorem unitsL_length (l : List Int) (h : l.length % 2 = 0) : 2 * (unitsL l).length = l.length := by
  match l, h with
  | [], _ => rfl
  | [a], h => simp at h
  | a :: b :: r, h =>
    have := unitsL_length r (by simp only [List.length_cons] at h; omega)
    rw [unitsL_two, List.length_cons, List.length_cons, List.length_cons]; omega
theorem unitsL_bound (l : List Int) (h : Byt l) : ∀ u ∈ unitsL l, 0 ≤ u ∧ u ≤ 65535 := by
  match l, h with
  | [], _ => intro u hu; cases hu
  | [a], _ => intro u hu; cases hu
  | a :: b :: r, h =>
    intro u hu
    rcases List.mem_cons.1 hu with rfl | hu
    · have h1 := h a (by simp); have h2 := h b (by simp); omega
    · exact unitsL_bound r (fun x hx => h x (by simp [hx])) u hu
/-- one unit by itself -/
def loneU (u : Int) : Int := if 55296 ≤ u ∧ u ≤ 57343 then 65533 else u
abbrev isPair (u v : Int) : Prop := (55296 ≤ u ∧ u ≤ 56319) ∧ (56320 ≤ v ∧ v ≤ 57343)
def pairR (u v : Int) : Int := 65536 + (u - 55296) * 1024 + (v - 56320)
/-- the runes of units, from the front -/
def pairL : List Int → List Int
  | [] => []
  | [u] => [loneU u]
  | u :: v :: r => if isPair u v then pairR u v :: pairL r else loneU u :: pairL (v :: r)
theorem pairL_nil : pairL [] = [] := by simp [pairL]
theorem pairL_one (u : Int) : pairL [u] = [loneU u] := by simp [pairL]
theorem pairL_pair {u v : Int} (h : isPair u v) (r : List Int) : pairL (u :: v :: r) = pairR u v :: pairL r := by simp [pairL, h]
theorem pairL_not {u v : Int} (h : ¬ isPair u v) (r : List Int) : pairL (u :: v :: r) = loneU u :: pairL (v :: r) := by simp [pairL, h]
/-- a unit that is no first half stands by itself -/
theorem pairL_lone {u : Int} (h : ¬ (55296 ≤ u ∧ u ≤ 56319)) (r : List Int) : pairL (u :: r) = loneU u :: pairL r := by
  cases r with
  | nil => rw [pairL_one, pairL_nil]
  | cons v r => exact pairL_not (fun hp => h hp.1) r
theorem pairL_ok_in : ∀ (n : Nat) (us : List Int), us.length ≤ n → (∀ u ∈ us, 0 ≤ u ∧ u ≤ 65535) → (∀ r ∈ pairL us, okR r) ∧ cnt (pairL us) = us.length
  | _, [], _, _ => by simp [pairL_nil, cnt]
  | _, [u], _, h => by
    have h0 := h u (by simp)
    rw [pairL_one]
    constructor
    · intro r hr
      have : r = loneU u := by simpa using hr
      subst this
      unfold loneU okR; split <;> omega
    · have : wn (loneU u) = 1 := by unfold loneU wn; split <;> rw [if_pos (by omega)]
      simp [cnt, this]
  | 0, u :: v :: r, hn, _ => by simp at hn
  | n + 1, u :: v :: r, hn, h => by
    have h0 := h u (by simp)
    have h1 := h v (by simp)
    simp only [List.length_cons] at hn
    by_cases hp : isPair u v
    · have ih := pairL_ok_in n r (by omega) (fun x hx => h x (by simp [hx]))
      rw [pairL_pair hp]
      have hb : 65536 ≤ pairR u v ∧ pairR u v ≤ 1114111 := by unfold isPair at hp; unfold pairR; omega
      constructor
      · intro x hx
        rcases List.mem_cons.1 hx with rfl | hx
        · unfold okR; omega
        · exact ih.1 x hx
      · have : wn (pairR u v) = 2 := by unfold wn; rw [if_neg (by omega)]
        rw [cnt, this, ih.2, List.length_cons, List.length_cons]; omega
    · have ih := pairL_ok_in n (v :: r) (by simp only [List.length_cons]; omega) (fun x hx => h x (by simp only [List.mem_cons] at hx ⊢; exact .inr hx))
      rw [pairL_not hp]
      constructor
      · intro x hx
        rcases List.mem_cons.1 hx with rfl | hx
        · unfold loneU okR; split <;> omega
        · exact ih.1 x hx
      · have : wn (loneU u) = 1 := by unfold loneU wn; split <;> rw [if_pos (by omega)]
        rw [cnt, this, ih.2]; simp only [List.length_cons]; omega
theorem pairL_ok (us : List Int) (h : ∀ u ∈ us, 0 ≤ u ∧ u ≤ 65535) : (∀ r ∈ pairL us, okR r) ∧ cnt (pairL us) = us.length := pairL_ok_in _ us (Nat.le_refl _) h
/-- what was made wide is read as it was -/
theorem pair_wide (rs : List Int) (h : ∀ r ∈ rs, okR r) : pairL (unitsL (wideL rs)) = rs := by
  induction rs with
  | nil => rw [wideL_nil, unitsL_nil, pairL_nil]
  | cons r rs ih =>
    have hr := h r (by simp)
    have ih := ih (fun x hx => h x (by simp [hx]))
    unfold okR at hr
    rw [wideL_cons]
    by_cases h1 : r < 65536
    · rw [wu_one h1, List.cons_append, List.cons_append, List.nil_append, unitsL_two, show r % 256 + 256 * (r / 256) = r by omega, pairL_lone (by omega), ih]
      congr 1
      unfold loneU; rw [if_neg (by omega)]
    · rw [wu_two h1]
      simp only [List.cons_append, List.nil_append]
      rw [unitsL_two, unitsL_two, pairL_pair (by unfold isPair; omega), ih]
      congr 1
      unfold pairR; omega

/-! ### the rune in front of a wide text, and how many bytes it takes there -/
def frL : List Int → Int × Nat
  | a :: b :: c :: d :: _ => if isPair (a + 256 * b) (c + 256 * d) then (pairR (a + 256 * b) (c + 256 * d), 4) else (loneU (a + 256 * b), 2)
  | a :: b :: _ => (loneU (a + 256 * b), 2)
  | _ => (0, 2)
theorem pair_front (l : List Int) (h2 : 2 ≤ l.length) (he : l.length % 2 = 0) : pairL (unitsL l) = (frL l).1 :: pairL (unitsL (l.drop (frL l).2)) := by
  match l, h2, he with
  | [], h, _ => simp at h
  | [_], h, _ => simp at h
  | [a, b], _, _ => simp [unitsL, pairL_one, pairL_nil, frL]
  | [_, _, _], _, he => simp at he
  | a :: b :: c :: d :: r, _, _ =>
    by_cases hp : isPair (a + 256 * b) (c + 256 * d)
    · have e : frL (a :: b :: c :: d :: r) = (pairR (a + 256 * b) (c + 256 * d), 4) := if_pos hp
      rw [e]
      simp [unitsL, pairL_pair hp]
    · have e : frL (a :: b :: c :: d :: r) = (loneU (a + 256 * b), 2) := if_neg hp
      rw [e]
      simp [unitsL, pairL_not hp]
theorem frL_two (l : List Int) : (frL l).2 = 2 ∨ ((frL l).2 = 4 ∧ 4 ≤ l.length) := by
  unfold frL
  split
  · split
    · right; simp
    · left; rfl
  · left; rfl
  · left; rfl
end Go.Proofs.Ytonheibhbilhhaa.utf

/- utf: what appendUnit, appendRune and Wide answer. -/
namespace Go.Proofs.Ytonheibhbilhhaa.utf
open Go.RowKit Go.PlainAid Go.Lib Go.Proofs.Ytonheibhbilhhaa.lane

theorem Bys.two {w1 : World} {B : Nat} {v : Value} {acc : List Int} {x y : Int}
    (h : w1.ownsRow B 5 1 v (acc.length + 2) (acc.map (Value.int .u8) ++ [.int .u8 x, .int .u8 y])) : Bys w1 B v (acc ++ [x, y]) := by
  unfold Bys
  simpa using h

set_option maxHeartbeats 1000000 in
theorem appendUnit_any (B : Nat) (v : Value) (acc : List Int) (u : Int) (h0 : 0 ≤ u) (h1 : u ≤ 65535) (w : World) (H : Hid (Bys w B v acc)) (hB : B ≤ w.heap.size) (hl : acc.length ≤ 1000) :
    Calls Try.prog 126 #[v, .int .i32 u] w fun e w' => ∃ v', e = .returned v' ∧ Bys w' B v' (acc ++ [u % 256, u / 256]) ∧ Below B w w' := by
  obtain ⟨i0, hi, hz0, hz1, hz2⟩ := info_parts infoB
  go_enter Try.func126, Try.ntmps126
  go_wp2_with (at_builtin; (refine wpList_append_own _ rfl _ _ 71 rfl B 5 i0 (.int .u8 0) 1 1 Try.underlying71 hi hz0 hz1 hz2 rfl (by omega) _ acc.length (acc.map (Value.int .u8)) rfl (World.ownsRow.alloc H.out _) ⟨w.heap.size, 0, none⟩ 2 2 [.int .u8 (u % 256), .int .u8 (u / 256)] rfl rfl ?c1 ?c2 ?c3 ?c4 ?c5 ?_))
  case c1 =>
    intro j x hj
    match j, hj with
    | 0, hj => simp at hj; subst hj; simp [Addr.add]; skip
    | 1, hj => simp at hj; subst hj; simp [Addr.add]; skip
    | (j + 2), hj => simp at hj
  case c2 => intro x hx; simp at hx; rcases hx with rfl | rfl <;> rfl
  case c3 => unfold maxLen; omega
  case c4 => omega
  case c5 => simp; omega
  intro v' w2 hown' hgrow _
  go_wp2
  go_ret
  exact ⟨_, rfl, Bys.two hown', ((Below.refl _ _).alloc hB _).grown hgrow (by simp; omega) H.out.block⟩

theorem wrap_i32_nat (n : Nat) (h : n < 2147483648) : IntKind.i32.wrap (n : Int) = (n : Int) := by
  have e : (n : Int) % 2 ^ 32 = n := Int.emod_eq_of_lt (by omega) (by omega)
  simp only [IntKind.wrap, IntKind.bits, IntKind.signed, e]
  rw [if_neg]
  simp
  omega
theorem and1023 (x : Int) (h0 : 0 ≤ x) (h1 : x ≤ 1048575) : bits .and .i32 x 1023 = x % 1024 := by
  obtain ⟨n, rfl⟩ : ∃ n : Nat, x = (n : Int) := ⟨x.toNat, by omega⟩
  show IntKind.i32.wrap ((BitVec.ofInt 32 (n : Int) &&& BitVec.ofInt 32 ((1023 : Nat) : Int)).toNat : Int) = _
  rw [BitVec.toNat_and, BitVec.ofInt_natCast, BitVec.ofInt_natCast, BitVec.toNat_ofNat, BitVec.toNat_ofNat, Nat.mod_eq_of_lt (show n < 2 ^ 32 by omega), Nat.mod_eq_of_lt (show 1023 < 2 ^ 32 by omega),
    show n &&& 1023 = n % 1024 from Nat.and_two_pow_sub_one_eq_mod n 10, wrap_i32_nat _ (by omega)]
  omega

set_option maxHeartbeats 1000000 in
theorem appendRune_any (B : Nat) (v : Value) (acc : List Int) (r : Int) (hr : okR r) (w : World) (H : Hid (Bys w B v acc)) (hB : B ≤ w.heap.size) (hl : acc.length ≤ 900) :
    Calls Try.prog 116 #[v, .int .i32 r] w fun e w' => ∃ v', e = .returned v' ∧ Bys w' B v' (acc ++ wu r) ∧ Below B w w' := by
  unfold okR at hr
  by_cases h1 : r < 65536
  · rw [wu_one h1]
    have h0 : 0 ≤ r := by omega
    have HR : Hid ((0 ≤ r ∧ r < 55296) ∨ (57344 ≤ r ∧ r ≤ 1114111)) := hr
    clear hr
    go_enter Try.func116, Try.ntmps116
    go_wp2_with (go_at_call 126; refine (appendUnit_any B _ acc r (by omega) (by omega) _ H hB (by omega)).mono ?_; rintro e w' ⟨v', rfl, h2, h3⟩)
    go_ret
    exact ⟨_, rfl, h2, h3⟩
  · rw [wu_two h1]
    obtain ⟨q, hq⟩ : ∃ q, q = r - 65536 := ⟨_, rfl⟩
    have hq0 : 0 ≤ q := by omega
    have hq1 : q ≤ 1048575 := by omega
    have hand := and1023 q hq0 hq1
    rw [← hq]
    clear hr
    obtain rfl : r = q + 65536 := by omega
    clear hq
    go_enter Try.func116, Try.ntmps116
    go_wp2_with fail
    refine (appendUnit_any B _ acc _ (by omega) (by omega) _ H hB (by omega)).mono ?_
    rintro e w1 ⟨v1, rfl, h2, h3⟩
    have H2 : Hid (Bys w1 B v1 (acc ++ [(55296 + q / 1024) % 256, (55296 + q / 1024) / 256])) := h2
    clear h2
    go_wp2_with fail
    refine (appendUnit_any B _ _ _ (by omega) (by omega) _ H2 (by have := h3.size; omega) (by rw [List.length_append]; simp; omega)).mono ?_
    rintro e w2 ⟨v2, rfl, h4, h5⟩
    go_wp2
    go_ret
    rw [List.append_assoc] at h4
    exact ⟨_, rfl, h4, h3.trans h5⟩
end Go.Proofs.Ytonheibhbilhhaa.utf

/- utf: what Wide answers. -/
namespace Go.Proofs.Ytonheibhbilhhaa.utf
open Go.RowKit Go.PlainAid Go.Lib Go.Proofs.Ytonheibhbilhhaa.lane

theorem Bys.len {w : World} {B : Nat} {v : Value} {acc : List Int} (h : Bys w B v acc) : ∃ a c, v = .slice a acc.length c := by
  rcases h.2 with ⟨rfl, h0⟩ | ⟨g, cap, cur, rfl, _⟩
  · exact ⟨none, 0, by rw [h0]⟩
  · exact ⟨_, _, rfl⟩
/-- what lies from B on stands: so does the row -/
theorem Bys.same {w w' : World} {B : Nat} {v : Value} {acc : List Int} (h : Bys w B v acc) (hs : ∀ j, B ≤ j → w'.heap[j]? = w.heap[j]?) : Bys w' B v acc := by
  refine ⟨h.1, ?_⟩
  rcases h.2 with h | ⟨g, cap, cur, hv, hB, hg, h⟩
  · exact .inl h
  · exact .inr ⟨g, cap, cur, hv, hB, by rw [hs g hB]; exact hg, h⟩

def rns (s : ByteArray) : List Int := runesU s.data.toList
theorem rns_ok (s : ByteArray) : ∀ r ∈ rns s, okR r := runesU_ok _ _ (Nat.le_refl _)
theorem rns_at (s : ByteArray) (pos : Nat) (h : pos < s.size) : runesU (s.data.toList.drop pos) = ((Utf8.decode s pos).1 : Int) :: runesU (s.data.toList.drop (pos + (Utf8.decode s pos).2)) := by
  have hne : s.data.toList.drop pos ≠ [] := by
    intro h0
    have := congrArg List.length h0
    rw [List.length_drop, ← size_eq, List.length_nil] at this
    omega
  rw [runesU_step _ hne, decodeL_drop, List.drop_drop]
theorem rns_end (s : ByteArray) (pos : Nat) (h : ¬ pos < s.size) : runesU (s.data.toList.drop pos) = [] := by
  rw [List.drop_eq_nil_of_le (by rw [← size_eq]; omega)]; rfl
theorem decode_okR (s : ByteArray) (pos : Nat) : okR ((Utf8.decode s pos).1 : Int) := by rw [← decodeL_drop]; exact decodeL_ok _
theorem decode_w (s : ByteArray) (pos : Nat) : 1 ≤ (Utf8.decode s pos).2 := by rw [← decodeL_drop]; have := decodeL_width (s.data.toList.drop pos); omega

/-- what Wide answers -/
def wtxt (s : ByteArray) : ByteArray := if (wideL (rns s)).length ≤ 252 then strOfNums (wideL (rns s)) else ⟨#[]⟩
def werr (s : ByteArray) : Int := if (wideL (rns s)).length ≤ 252 then 0 else 2
theorem wide_ret {s : ByteArray} {l : List Int} (h : l = wideL (rns s)) (hl : l.length ≤ 252) : Ending.returned (.tuple #[.string (strOfNums l), .int .i64 0]) = .returned (.tuple #[.string (wtxt s), .int .i64 (werr s)]) := by
  subst h; unfold wtxt werr; rw [if_pos hl, if_pos hl]
theorem wide_big {s : ByteArray} {l r : List Int} (h : l ++ r = wideL (rns s)) (hl : 252 < l.length) : Ending.returned (.tuple #[.string ⟨#[]⟩, .int .i64 2]) = .returned (.tuple #[.string (wtxt s), .int .i64 (werr s)]) := by
  have : ¬ (wideL (rns s)).length ≤ 252 := by rw [← h, List.length_append]; omega
  unfold wtxt werr; rw [if_neg this, if_neg this]

set_option maxHeartbeats 1000000 in
theorem wide_any (s : ByteArray) (w : World) :
    Calls Try.prog 98 #[.string s] w fun e w' => e = .returned (.tuple #[.string (wtxt s), .int .i64 (werr s)]) ∧ Below w.heap.size w w' := by
  go_enter Try.func98, Try.ntmps98
  go_wp2
  go_loopw [4] (fun v wr => ∃ (pos : Nat) (acc : List Int), wr.heap[w.heap.size]? = some (.stringIter s pos) ∧ Bys wr (w.heap.size + 1) v acc ∧ acc.length ≤ 252 ∧ Below w.heap.size w wr ∧ Hid (acc ++ wideL (runesU (s.data.toList.drop pos)) = wideL (rns s)))
    (fun _ wr => s.size - wr.iterPos w.heap.size)
  case atStart => exact ⟨0, [], World.iter_heap w s 0, Bys.nil _ _, by simp, (Below.refl _ _).alloc (Nat.le_refl _) _, rfl⟩
  case round =>
    obtain ⟨pos, acc, hit, hown, hal, hbel, HR⟩ := hrel
    have hsz : w.heap.size + 1 ≤ wr.heap.size := (Array.getElem?_eq_some_iff.1 hit).1
    have hps : wr.iterPos w.heap.size = pos := by simp [World.iterPos, hit]
    by_cases hp : pos < s.size
    · have hnx : ∀ ty, (Instr.next (.pointer (some ⟨w.heap.size, 0, none⟩)) true ty).run Try.prog wr = _ := fun ty => run_next_any_at wr w.heap.size s pos ty hit hp
      have hok := decode_okR s pos
      have hwd := decode_w s pos
      have h := HR.out
      rw [rns_at s pos hp, wideL_cons, ← List.append_assoc] at h
      have hit2 := iterAt_heap wr w.heap.size s pos (pos + (Utf8.decode s pos).2) hit
      have hb2 := below_iterAt hbel (Nat.le_refl _) s (pos + (Utf8.decode s pos).2)
      have ho2 : Bys (wr.iterAt w.heap.size s (pos + (Utf8.decode s pos).2)) (w.heap.size + 1) u4 acc := Bys.same hown fun j hj => iterAt_other wr w.heap.size j s _ (by omega)
      have hz2 := iterAt_size wr w.heap.size s (pos + (Utf8.decode s pos).2)
      have hlt : pos < pos + (Utf8.decode s pos).2 := by omega
      generalize ((Utf8.decode s pos).1 : Int) = r at hnx hok h
      generalize pos + (Utf8.decode s pos).2 = pos2 at hnx hlt h hit2 hb2 ho2 hz2
      have HH : Hid (acc ++ wu r ++ wideL (runesU (s.data.toList.drop pos2)) = wideL (rns s)) := h
      have HO : Hid (Bys (wr.iterAt w.heap.size s pos2) (w.heap.size + 1) u4 acc) := ho2
      have HI : Hid ((wr.iterAt w.heap.size s pos2).heap[w.heap.size]? = some (.stringIter s pos2)) := hit2
      have HB : Hid (Below w.heap.size w (wr.iterAt w.heap.size s pos2)) := hb2
      clear h hit2 hb2 ho2 HR hown hbel hwd hit
      generalize wr.iterAt w.heap.size s pos2 = w1 at hnx HO HI HB hz2
      go_wp2_with fail
      refine (appendRune_any (w.heap.size + 1) _ acc r hok _ HO (by omega) (by omega)).mono ?_
      rintro e w2 ⟨v2, rfl, h3, h4⟩
      have hit3 : w2.heap[w.heap.size]? = some (.stringIter s pos2) := (h4.block w.heap.size (by omega)).trans HI.out
      have hbel3 : Below w.heap.size w w2 := HB.out.trans (h4.mono (by omega))
      obtain ⟨ac2, hac⟩ : ∃ a, a = acc ++ wu r := ⟨_, rfl⟩
      have HH2 := HH.out
      rw [← hac] at h3 HH2
      clear hac HH
      have HH : Hid (ac2 ++ wideL (runesU (s.data.toList.drop pos2)) = wideL (rns s)) := HH2
      clear HH2
      obtain ⟨a3, c3, rfl⟩ := Bys.len h3
      have hps2 : w2.iterPos w.heap.size = pos2 := by simp [World.iterPos, hit3]
      by_cases hbig : ac2.length ≤ 252
      · go_wp2
        go_roundw
        case rel => exact ⟨pos2, ac2, hit3, h3, hbig, hbel3, HH.out⟩
        case measure => rw [hps, hps2]; omega
      · go_wp2
        go_ret2
        exact ⟨wide_big HH.out (by omega), hbel3⟩
    · have hnx : ∀ ty, (Instr.next (.pointer (some ⟨w.heap.size, 0, none⟩)) true ty).run Try.prog wr = _ := fun ty => run_next_end_at wr w.heap.size s pos ty hit hp
      have hcv := hown.conv
      go_wp2
      go_ret2
      have h := HR.out
      rw [rns_end s pos hp, wideL_nil, List.append_nil] at h
      exact ⟨wide_ret h hal, hbel⟩
end Go.Proofs.Ytonheibhbilhhaa.utf

/- utf: what frontUnit, isFirst, isSecond and frontRune answer. -/
namespace Go.Proofs.Ytonheibhbilhhaa.utf
open Go.RowKit Go.PlainAid Go.Lib Go.Proofs.Ytonheibhbilhhaa.lane

def secB (u : Int) : Bool := decide (56320 ≤ u ∧ u ≤ 57343)
def firB (u : Int) : Bool := decide (55296 ≤ u ∧ u ≤ 56319)
theorem ret_b {a b : Bool} (h : a = b) : Ending.returned (.bool a) = .returned (.bool b) := by rw [h]
theorem isSecond_any (u : Int) (w : World) : Calls Try.prog 121 #[.int .i32 u] w fun e w' => e = .returned (.bool (secB u)) ∧ w = w' := by
  by_cases h : 56320 ≤ u
  · go_enter Try.func121, Try.ntmps121
    go_wp2
    go_ret
    exact ⟨ret_b (by simp [secB, h]), rfl⟩
  · go_enter Try.func121, Try.ntmps121
    go_wp2
    go_ret
    exact ⟨ret_b (by simp [secB]; omega), rfl⟩
theorem isFirst_any (u : Int) (w : World) : Calls Try.prog 122 #[.int .i32 u] w fun e w' => e = .returned (.bool (firB u)) ∧ w = w' := by
  by_cases h : 55296 ≤ u
  · go_enter Try.func122, Try.ntmps122
    go_wp2
    go_ret
    exact ⟨ret_b (by simp [firB, h]), rfl⟩
  · go_enter Try.func122, Try.ntmps122
    go_wp2
    go_ret
    exact ⟨ret_b (by simp [firB]; omega), rfl⟩
theorem bt_bounds (s : ByteArray) (k : Nat) : 0 ≤ bt s k ∧ bt s k ≤ 255 := by
  unfold bt
  split
  · rename_i h
    have := (s[k]'h).toNat_lt
    omega
  · omega
theorem ret_i {a b : Int} (h : a = b) : Ending.returned (.int .i32 a) = .returned (.int .i32 b) := by rw [h]
theorem frontUnit_any (t : ByteArray) (w : World) (h : 2 ≤ t.size) : Calls Try.prog 120 #[.string t] w fun e w' => e = .returned (.int .i32 (bt t 0 + 256 * bt t 1)) ∧ Below w.heap.size w w' := by
  have hb := get_bt t
  have b0 := bt_bounds t 0
  have b1 := bt_bounds t 1
  have h0 : 0 < t.size := by omega
  have h1 : 1 < t.size := by omega
  go_enter Try.func120, Try.ntmps120
  go_wp2
  go_region
  go_wp2
  go_ret
  exact ⟨ret_i (by omega), (Below.refl _ _).drew⟩

theorem nums_two (t : ByteArray) (h : 2 ≤ t.size) : nums t = bt t 0 :: bt t 1 :: (nums t).drop 2 := by
  have e0 := drop_nums t 0 (by omega)
  have e1 := drop_nums t 1 (by omega)
  rw [List.drop_zero] at e0
  rw [e0, e1]
  simp
theorem nums_four (t : ByteArray) (h : 4 ≤ t.size) : nums t = bt t 0 :: bt t 1 :: bt t 2 :: bt t 3 :: (nums t).drop 4 := by
  have e2 := drop_nums t 2 (by omega)
  have e3 := drop_nums t 3 (by omega)
  have e := nums_two t (by omega)
  rw [e2, e3] at e
  exact e
def unitA (t : ByteArray) : Int := bt t 0 + 256 * bt t 1
theorem unitA_bounds (t : ByteArray) : 0 ≤ unitA t ∧ unitA t ≤ 65535 := by
  have := bt_bounds t 0; have := bt_bounds t 1; unfold unitA; omega
theorem frL_short (t : ByteArray) (h : t.size = 2) : frL (nums t) = (loneU (unitA t), 2) := by
  rw [nums_two t (by omega), List.drop_eq_nil_of_le (by rw [nums_length]; omega)]; rfl
theorem bt_extract (t : ByteArray) (k j : Nat) (h : k + j < t.size) : bt (t.extract k t.size) j = bt t (k + j) := by
  have hs : (t.extract k t.size).size = t.size - k := by rw [ByteArray.size_extract]; omega
  rw [bt_nums _ j (by rw [hs]; omega), bt_nums t (k + j) h, nums_extract, List.take_of_length_le (by rw [nums_length]; omega)]
  simp [List.getD, List.getElem?_drop]
theorem frL_long (t : ByteArray) (h : 4 ≤ t.size) : frL (nums t) = if isPair (unitA t) (unitA (t.extract 2 t.size)) then (pairR (unitA t) (unitA (t.extract 2 t.size)), 4) else (loneU (unitA t), 2) := by
  have e : unitA (t.extract 2 t.size) = bt t 2 + 256 * bt t 3 := by
    unfold unitA; rw [bt_extract t 2 0 (by omega), bt_extract t 2 1 (by omega)]
  rw [e, nums_four t h]; rfl
theorem frL_any (t : ByteArray) (h : 2 ≤ t.size) (he : t.size % 2 = 0) (hn : ¬ (55296 ≤ unitA t ∧ unitA t ≤ 56319)) : frL (nums t) = (loneU (unitA t), 2) := by
  by_cases h4 : 4 ≤ t.size
  · rw [frL_long t h4, if_neg (fun hp => hn hp.1)]
  · exact frL_short t (by omega)
theorem ret_fr {a b : Int} {n m : Int} (h : a = b) (h2 : n = m) : Ending.returned (.tuple #[.int .i32 a, .int .i64 n]) = .returned (.tuple #[.int .i32 b, .int .i64 m]) := by rw [h, h2]
theorem frontUnit_A (t : ByteArray) (w : World) (h : 2 ≤ t.size) (u : Int) (hu : unitA t = u) : Calls Try.prog 120 #[.string t] w fun e w' => e = .returned (.int .i32 u) ∧ Below w.heap.size w w' := by
  subst hu; exact frontUnit_any t w h

set_option maxHeartbeats 1000000 in
theorem frontRune_any (t : ByteArray) (w : World) (h : 2 ≤ t.size) (he : t.size % 2 = 0) :
    Calls Try.prog 109 #[.string t] w fun e w' => e = .returned (.tuple #[.int .i32 (frL (nums t)).1, .int .i64 ((frL (nums t)).2 : Nat)]) ∧ Below w.heap.size w w' := by
  obtain ⟨u, hu⟩ : ∃ u, unitA t = u := ⟨_, rfl⟩
  have hub := unitA_bounds t
  rw [hu] at hub
  by_cases hs : 56320 ≤ u ∧ u ≤ 57343
  · have hsb : secB u = true := by simp [secB, hs]
    have hfr : frL (nums t) = (65533, 2) := by rw [frL_any t h he (by rw [hu]; omega), hu]; simp [loneU]; omega
    rw [hfr]
    clear hs hub hfr
    go_enter Try.func109, Try.ntmps109
    go_wp2_with (first
      | (go_at_call 120; refine (frontUnit_A t _ h u hu).mono ?_; rintro e w1 ⟨rfl, hb1⟩)
      | (go_at_call 121; refine (isSecond_any u _).mono ?_; rintro e w' ⟨rfl, rfl⟩))
    go_ret2
    exact ⟨rfl, hb1⟩
  · have hsb : secB u = false := by simp [secB]; omega
    by_cases hf : 55296 ≤ u ∧ u ≤ 56319
    · have hfb : firB u = true := by simp [firB, hf]
      by_cases h4 : 4 ≤ t.size
      · obtain ⟨v, hv⟩ : ∃ v, unitA (t.extract 2 t.size) = v := ⟨_, rfl⟩
        have hvb := unitA_bounds (t.extract 2 t.size)
        rw [hv] at hvb
        have hxs : (t.extract 2 t.size).size = t.size - 2 := by rw [ByteArray.size_extract]; omega
        obtain ⟨t2, ht2⟩ : ∃ t2, t.extract 2 t.size = t2 := ⟨_, rfl⟩
        rw [ht2] at hv hxs
        have hfr := frL_long t h4
        rw [hu, ht2, hv] at hfr
        have hx2 : 2 ≤ t2.size := by omega
        have hne : t2.toList.isEmpty = false := str_full t2 (by omega)
        by_cases hs2 : 56320 ≤ v ∧ v ≤ 57343
        · have hsb2 : secB v = true := by simp [secB, hs2]
          rw [if_pos ⟨hf, hs2⟩] at hfr
          rw [hfr]
          clear hfr
          go_enter Try.func109, Try.ntmps109
          go_wp2_with fail
          refine (frontUnit_A t _ h u hu).mono ?_
          rintro e w1 ⟨rfl, hb1⟩
          go_wp2_with (first
            | (go_at_call 121; refine (isSecond_any u _).mono ?_; rintro e w' ⟨rfl, rfl⟩)
            | (go_at_call 122; refine (isFirst_any u _).mono ?_; rintro e w' ⟨rfl, rfl⟩))
          refine (frontUnit_A t2 _ hx2 v hv).mono ?_
          rintro e w2 ⟨rfl, hb2⟩
          go_wp2_with fail
          refine (isSecond_any v _).mono ?_
          rintro e w' ⟨rfl, rfl⟩
          go_wp2_with fail
          refine (frontUnit_A t2 _ hx2 v hv).mono ?_
          rintro e w3 ⟨rfl, hb3⟩
          go_wp2
          go_ret2
          exact ⟨ret_fr (by unfold pairR; omega) rfl, (hb1.trans (hb2.mono hb1.size)).trans (hb3.mono (by have := hb1.size; have := hb2.size; omega))⟩
        · have hsb2 : secB v = false := by simp [secB]; omega
          rw [if_neg (fun hp => hs2 hp.2)] at hfr
          have hlo : loneU u = 65533 := by unfold loneU; rw [if_pos (by omega)]
          rw [hlo] at hfr
          rw [hfr]
          clear hfr
          go_enter Try.func109, Try.ntmps109
          go_wp2_with fail
          refine (frontUnit_A t _ h u hu).mono ?_
          rintro e w1 ⟨rfl, hb1⟩
          go_wp2_with (first
            | (go_at_call 121; refine (isSecond_any u _).mono ?_; rintro e w' ⟨rfl, rfl⟩)
            | (go_at_call 122; refine (isFirst_any u _).mono ?_; rintro e w' ⟨rfl, rfl⟩))
          refine (frontUnit_A t2 _ hx2 v hv).mono ?_
          rintro e w2 ⟨rfl, hb2⟩
          go_wp2_with fail
          refine (isSecond_any v _).mono ?_
          rintro e w' ⟨rfl, rfl⟩
          go_wp2
          go_ret2
          exact ⟨rfl, hb1.trans (hb2.mono hb1.size)⟩
      · have hfr := frL_short t (by omega)
        have hlo : loneU u = 65533 := by unfold loneU; rw [if_pos (by omega)]
        rw [hu, hlo] at hfr
        rw [hfr]
        have hx0 : t.extract 2 t.size = ⟨#[]⟩ := by
          apply ByteArray.ext
          apply Array.ext'
          apply List.eq_nil_of_length_eq_zero
          rw [← size_eq, ByteArray.size_extract]; omega
        clear hfr
        go_enter Try.func109, Try.ntmps109
        go_wp2_with fail
        refine (frontUnit_A t _ h u hu).mono ?_
        rintro e w1 ⟨rfl, hb1⟩
        go_wp2_with (first
          | (go_at_call 121; refine (isSecond_any u _).mono ?_; rintro e w' ⟨rfl, rfl⟩)
          | (go_at_call 122; refine (isFirst_any u _).mono ?_; rintro e w' ⟨rfl, rfl⟩))
        go_ret2
        exact ⟨rfl, hb1⟩
    · have hfb : firB u = false := by simp [firB]; omega
      have hfr : frL (nums t) = (u, 2) := by rw [frL_any t h he (by rw [hu]; omega), hu]; simp [loneU]; omega
      rw [hfr]
      clear hs hf hfr
      go_enter Try.func109, Try.ntmps109
      go_wp2_with (first
        | (go_at_call 120; refine (frontUnit_A t _ h u hu).mono ?_; rintro e w1 ⟨rfl, hb1⟩)
        | (go_at_call 121; refine (isSecond_any u _).mono ?_; rintro e w' ⟨rfl, rfl⟩)
        | (go_at_call 122; refine (isFirst_any u _).mono ?_; rintro e w' ⟨rfl, rfl⟩))
      go_ret2
      exact ⟨rfl, hb1⟩
end Go.Proofs.Ytonheibhbilhhaa.utf
