/- DescNames: the walk. -/
import Derived.Test.YtonheibhbilhhaaUtfF
import Derived.Test.YtonheibhbilhhaaZAc
namespace Go.Proofs.Ytonheibhbilhhaa.descNames
open Go.RowKit Go.PlainAid Go.Proofs.Ytonheibhbilhhaa.lane Go.Proofs.Ytonheibhbilhhaa.utf Go.Proofs.Ytonheibhbilhhaa.desc
set_option linter.unusedVariables false
theorem hub_txt : dtxt ⟨#[104, 117, 98]⟩ = ⟨#[8, 3, 104, 0, 117, 0, 98, 0]⟩ := by decide +kernel
theorem hub_err : werr ⟨#[104, 117, 98]⟩ = 0 := by decide +kernel
theorem nums_two (n : Int) (y : ByteArray) (h0 : 0 ≤ n) (h1 : n ≤ 255) : nums (strOfNums [n, 3] ++ y) = n :: 3 :: nums y := by
  rw [nums_append, nums_str]
  · rfl
  · intro x hx; simp at hx; rcases hx with rfl | rfl <;> omega
theorem read_two (y : ByteArray) (hy : y.size ≤ 252) : rdT (strOfNums [2 + (y.size : Int), 3] ++ y) = ntxt y ∧ rdC (strOfNums [2 + (y.size : Int), 3] ++ y) = nerr y := by
  have hn := nums_two (2 + (y.size : Int)) y (by omega) (by omega)
  have hz : (strOfNums [2 + (y.size : Int), 3] ++ y).size = 2 + y.size := by rw [ByteArray.size_append, str_size]; rfl
  have e0 : bt (strOfNums [2 + (y.size : Int), 3] ++ y) 0 = ((strOfNums [2 + (y.size : Int), 3] ++ y).size : Int) := by
    rw [bt_nums _ 0 (by omega), hn, hz]; simp
  have e1 : bt (strOfNums [2 + (y.size : Int), 3] ++ y) 1 = 3 := by
    rw [bt_nums _ 1 (by omega), hn]; simp
  have ex : (strOfNums [2 + (y.size : Int), 3] ++ y).extract 2 (strOfNums [2 + (y.size : Int), 3] ++ y).size = y := by
    rw [← str_nums (ByteArray.extract _ _ _), extract_rest, hn]
    exact str_nums y
  have hge : ¬ (strOfNums [2 + (y.size : Int), 3] ++ y).size < 2 := by omega
  unfold rdT rdC
  rw [if_neg hge, if_neg hge, if_pos ⟨e0, e1⟩, if_pos ⟨e0, e1⟩, ex]
  exact ⟨rfl, rfl⟩
theorem nerr_bad {t : ByteArray} (h : ¬ (t.size % 2 = 0 ∧ t.size ≤ 252)) : ntxt t = ⟨#[]⟩ ∧ (nerr t = 4 ∨ nerr t = 2) := by
  by_cases he : t.size % 2 = 1
  · exact ⟨(ntxt_odd he).1, .inl (ntxt_odd he).2⟩
  · have e := ntxt_big (t := t) (by omega) (by omega)
    exact ⟨e.1, .inr e.2⟩
/-- what is written is read -/
theorem back {s : ByteArray} (h : werr s = 0) : rdT (dtxt s) = clean s ∧ rdC (dtxt s) = 0 ∧ s.size ≤ 504 ∧ (dtxt s).size ≤ 254 := by
  rcases werr_cases s with ⟨_, hz⟩ | h2
  · have hc : cnt (rns s) ≤ 126 := by
      unfold werr at h
      have hl := wideL_length (rns s)
      by_cases q : (wideL (rns s)).length ≤ 252
      · omega
      · rw [if_neg q] at h; cases h
    have k := wsmall hc
    have e : dtxt s = strOfNums [2 + ((wtxt s).size : Int), 3] ++ wtxt s := by unfold dtxt; rw [if_pos h]
    have r := read_two (wtxt s) hz
    have n := narrow_wide (rns s) (rns_ok s) hc
    rw [← k.1] at n
    rw [e, r.1, r.2, n.1, n.2]
    refine ⟨rfl, rfl, ?_, ?_⟩
    · have := size_four s
      have := (cnt_le (rns s)).1
      omega
    · rw [ByteArray.size_append, str_size]
      have : ([2 + ((wtxt s).size : Int), 3] : List Int).length = 2 := rfl
      omega
  · rw [h] at h2; cases h2
theorem read_bad {t : ByteArray} (h : rdC t ≠ 0) : rdT t = ⟨#[]⟩ := by
  unfold rdT; unfold rdC at h
  by_cases h1 : t.size < 2
  · rw [if_pos h1]
  rw [if_neg h1] at h ⊢
  by_cases h2 : bt t 0 = (t.size : Int) ∧ bt t 1 = 3
  · rw [if_pos h2] at h ⊢
    by_cases h3 : (t.extract 2 t.size).size % 2 = 0 ∧ (t.extract 2 t.size).size ≤ 252
    · exact absurd (ntxt_ok h3.1 h3.2).2 h
    · exact (nerr_bad h3).1
  · rw [if_neg h2]
theorem read_good {t : ByteArray} (h : rdC t = 0) : werr (rdT t) = 0 ∧ (dtxt (rdT t)).size = t.size ∧ (rdT t).size ≤ maxLen := by
  unfold rdC at h
  by_cases h1 : t.size < 2
  · rw [if_pos h1] at h; cases h
  rw [if_neg h1] at h
  by_cases h2 : bt t 0 = (t.size : Int) ∧ bt t 1 = 3
  · rw [if_pos h2] at h
    have e : rdT t = ntxt (t.extract 2 t.size) := by unfold rdT; rw [if_neg h1, if_pos h2]
    have hxz : (t.extract 2 t.size).size = t.size - 2 := by rw [ByteArray.size_extract]; omega
    rw [e]
    generalize t.extract 2 t.size = x at *
    by_cases h3 : x.size % 2 = 0 ∧ x.size ≤ 252
    · have k0 := ntxt_ok h3.1 h3.2
      have hok := prs_ok x
      have hcn := prs_cnt x h3.1
      have hlen := prs_len x h3.1
      have hrn := rns_encs (prs x) hok
      have hsz : (strOfNums (encs (prs x))).size ≤ 504 := by rw [str_size]; omega
      have k1 := wsmall (s := strOfNums (encs (prs x))) (by rw [hrn]; omega)
      rw [hrn] at k1
      have hwl : (strOfNums (wideL (prs x))).size = x.size := by rw [str_size, wideL_length]; exact hcn
      rw [k0.1]
      refine ⟨k1.2, ?_, by unfold maxLen; omega⟩
      unfold dtxt
      rw [if_pos k1.2, k1.1, ByteArray.size_append, str_size, hwl]
      show 2 + x.size = _
      omega
    · rcases (nerr_bad h3).2 with q | q <;> (rw [q] at h; cases h)
  · rw [if_neg h2] at h; cases h
end Go.Proofs.Ytonheibhbilhhaa.descNames
