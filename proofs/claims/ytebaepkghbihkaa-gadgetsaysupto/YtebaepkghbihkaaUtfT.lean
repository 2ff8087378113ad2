/- plugref's utf: what runeAt answers. -/
import Derived.Test.YtebaepkghbihkaaUtfS
namespace Go.Proofs.Ytebaepkghbihkaa.utf
set_option maxRecDepth 100000
open Go.RowKit Go.PlainAid Go.Lib Go.Proofs.Ytebaepkghbihkaa.lane

/-- m bytes that go on, from place p on -/
def contF (s : ByteArray) : Nat → Nat → Int → Option Int
  | _, 0, b => some b
  | p, m + 1, b => if p < s.size ∧ bt s p / 64 = 2 then contF s (p + 1) m (64 * b + bt s p % 64) else none
abbrev badR (least c : Int) : Prop := c < least ∨ c > 1114111 ∨ (55296 ≤ c ∧ c < 57344)
def ansR (n : Nat) (least : Int) : Option Int → Int × Int
  | none => (65533, 1)
  | some c => if badR least c then (65533, 1) else (c, (n : Int) + 1)

theorem get_bt_at (s : ByteArray) (i : Nat) : ((s.get! i).toNat : Int) = bt s i := by
  unfold bt
  split
  · rename_i h
    rw [show s.get! i = s[i]'h from get_at s i h]
  · rename_i h
    have : s.get! i = 0 := by
      cases s with
      | mk d => show d[i]! = 0; rw [getElem!_neg d i h]; rfl
    rw [this]; rfl
theorem ref_two (s : ByteArray) (p : Nat) (h0 : 192 ≤ bt s p) (h1 : bt s p < 224) : ansR 1 128 (contF s (p + 1) 1 (bt s p - 192)) = (((Utf8.decode s p).1 : Int), ((Utf8.decode s p).2 : Int)) := by
  have e0 := get_bt_at s p
  have e1 := get_bt_at s (p + 1)
  rw [decode_at]
  generalize (s.get! p).toNat = x0 at *
  generalize (s.get! (p + 1)).toNat = x1 at *
  generalize (s.get! (p + 2)).toNat = x2 at *
  generalize (s.get! (p + 3)).toNat = x3 at *
  rw [← e0] at h0 h1
  unfold decodeN
  rw [if_neg (by omega)]
  simp only [contF, ← e0, ← e1]
  by_cases c1 : p + 1 < s.size ∧ (x1 : Int) / 64 = 2
  · rw [if_pos c1, if_pos (by omega)]
    simp only [ansR]
    by_cases hb : badR 128 (64 * ((x0 : Int) - 192) + (x1 : Int) % 64)
    · rw [if_pos hb]; unfold badR at hb; rw [if_neg (by omega)]; rfl
    · rw [if_neg hb]; unfold badR at hb; rw [if_pos (by omega)]; apply Prod.ext <;> simp only <;> omega
  · rw [if_neg c1, if_neg (by omega), if_neg (by omega), if_neg (by omega)]
    rfl
theorem ref_three (s : ByteArray) (p : Nat) (h0 : 224 ≤ bt s p) (h1 : bt s p < 240) : ansR 2 2048 (contF s (p + 1) 2 (bt s p - 224)) = (((Utf8.decode s p).1 : Int), ((Utf8.decode s p).2 : Int)) := by
  have e0 := get_bt_at s p
  have e1 := get_bt_at s (p + 1)
  have e2 := get_bt_at s (p + 2)
  rw [decode_at]
  generalize (s.get! p).toNat = x0 at *
  generalize (s.get! (p + 1)).toNat = x1 at *
  generalize (s.get! (p + 2)).toNat = x2 at *
  generalize (s.get! (p + 3)).toNat = x3 at *
  rw [← e0] at h0 h1
  unfold decodeN
  rw [if_neg (by omega), if_neg (by omega)]
  simp only [contF, Nat.add_assoc, Nat.reduceAdd, ← e0, ← e1, ← e2]
  by_cases c1 : p + 1 < s.size ∧ (x1 : Int) / 64 = 2
  · rw [if_pos c1]
    by_cases c2 : p + 2 < s.size ∧ (x2 : Int) / 64 = 2
    · rw [if_pos c2, if_pos (by omega)]
      simp only [ansR]
      by_cases hb : badR 2048 (64 * (64 * ((x0 : Int) - 224) + (x1 : Int) % 64) + (x2 : Int) % 64)
      · rw [if_pos hb]; unfold badR at hb; rw [if_neg (by omega)]; rfl
      · rw [if_neg hb]; unfold badR at hb; rw [if_pos (by omega)]; apply Prod.ext <;> simp only <;> omega
    · rw [if_neg c2, if_neg (by omega), if_neg (by omega)]
      rfl
  · rw [if_neg c1, if_neg (by omega), if_neg (by omega)]
    rfl
theorem ref_four (s : ByteArray) (p : Nat) (h0 : 240 ≤ bt s p) (h1 : bt s p < 248) : ansR 3 65536 (contF s (p + 1) 3 (bt s p - 240)) = (((Utf8.decode s p).1 : Int), ((Utf8.decode s p).2 : Int)) := by
  have e0 := get_bt_at s p
  have e1 := get_bt_at s (p + 1)
  have e2 := get_bt_at s (p + 2)
  have e3 := get_bt_at s (p + 3)
  rw [decode_at]
  generalize (s.get! p).toNat = x0 at *
  generalize (s.get! (p + 1)).toNat = x1 at *
  generalize (s.get! (p + 2)).toNat = x2 at *
  generalize (s.get! (p + 3)).toNat = x3 at *
  rw [← e0] at h0 h1
  unfold decodeN
  rw [if_neg (by omega), if_neg (by omega), if_neg (by omega)]
  simp only [contF, Nat.add_assoc, Nat.reduceAdd, ← e0, ← e1, ← e2, ← e3]
  by_cases c1 : p + 1 < s.size ∧ (x1 : Int) / 64 = 2
  · rw [if_pos c1]
    by_cases c2 : p + 2 < s.size ∧ (x2 : Int) / 64 = 2
    · rw [if_pos c2]
      by_cases c3 : p + 3 < s.size ∧ (x3 : Int) / 64 = 2
      · rw [if_pos c3, if_pos (by omega)]
        simp only [ansR]
        by_cases hb : badR 65536 (64 * (64 * (64 * ((x0 : Int) - 240) + (x1 : Int) % 64) + (x2 : Int) % 64) + (x3 : Int) % 64)
        · rw [if_pos hb]; unfold badR at hb; rw [if_neg (by omega)]; rfl
        · rw [if_neg hb]; unfold badR at hb; rw [if_pos (by omega)]; apply Prod.ext <;> simp only <;> omega
      · rw [if_neg c3, if_neg (by omega)]
        rfl
    · rw [if_neg c2, if_neg (by omega)]
      rfl
  · rw [if_neg c1, if_neg (by omega)]
    rfl
theorem ref_one (s : ByteArray) (p : Nat) (h1 : bt s p < 128) : Utf8.decode s p = ((bt s p).toNat, 1) := by
  have e0 := get_bt_at s p
  rw [decode_at]
  unfold decodeN
  rw [← e0] at h1 ⊢
  rw [if_pos (by omega)]
  simp
theorem ref_none (s : ByteArray) (p : Nat) (h1 : 128 ≤ bt s p) (h2 : bt s p < 192 ∨ 248 ≤ bt s p) : Utf8.decode s p = (65533, 1) := by
  have e0 := get_bt_at s p
  rw [decode_at]
  have := bt_le s p
  exact decodeN_bad _ _ _ _ _ (by omega)
end Go.Proofs.Ytebaepkghbihkaa.utf
