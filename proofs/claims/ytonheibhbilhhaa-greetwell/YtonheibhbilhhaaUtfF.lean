/- utf: what is wide is read back; what is read is wide again: as texts. -/
import Derived.Test.YtonheibhbilhhaaZAb
namespace Go.Proofs.Ytonheibhbilhhaa.utf
open Go.RowKit Go.PlainAid Go.Lib Go.Proofs.Ytonheibhbilhhaa.lane

theorem rns_encs (rs : List Int) (h : ∀ r ∈ rs, okR r) : rns (strOfNums (encs rs)) = rs := by
  unfold rns
  rw [str_bys]
  have e := runes_encs rs h []
  rw [List.append_nil, runesU_nil, List.append_nil] at e
  exact e
theorem width_four (l : List UInt8) : (decodeL l).2 ≤ 4 := by
  rw [decodeL_N]
  rcases decodeN_shape l.length (l.getD 0 0).toNat (l.getD 1 0).toNat (l.getD 2 0).toNat (l.getD 3 0).toNat with ⟨c, e⟩ | ⟨c1, c2, c3, cv, e⟩ | ⟨c1, c2, c3, c4, cv, cs, e⟩ | ⟨c1, c2, c3, c4, c5, cv, cw, e⟩ | e
  all_goals (rw [e]; dsimp only; omega)
theorem runes_four : ∀ (n : Nat) (l : List UInt8), l.length ≤ n → l.length ≤ 4 * (runesU l).length
  | 0, l, h => by omega
  | n + 1, l, h => by
    by_cases hne : l = []
    · subst hne; simp
    · have hw := decodeL_width l
      have h4 := width_four l
      have hl : 0 < l.length := List.length_pos_iff.2 hne
      have := runes_four n (l.drop (decodeL l).2) (by rw [List.length_drop]; omega)
      rw [runesU_step l hne, List.length_cons]
      rw [List.length_drop] at this
      omega
theorem size_four (s : ByteArray) : s.size ≤ 4 * (rns s).length := by
  have h := runes_four _ s.data.toList (Nat.le_refl _)
  rw [← size_eq] at h
  exact h
theorem wsmall {s : ByteArray} (h : cnt (rns s) ≤ 126) : wtxt s = strOfNums (wideL (rns s)) ∧ werr s = 0 := by
  have := wideL_length (rns s)
  unfold wtxt werr
  rw [if_pos (by omega), if_pos (by omega)]; exact ⟨rfl, rfl⟩
theorem wgreat {s : ByteArray} (h : ¬ cnt (rns s) ≤ 126) : werr s = 2 := by
  have := wideL_length (rns s)
  unfold werr
  rw [if_neg (by omega)]
/-- a wide text is read as the runes that it was made of -/
theorem narrow_wide (rs : List Int) (h : ∀ r ∈ rs, okR r) (hc : cnt rs ≤ 126) : ntxt (strOfNums (wideL rs)) = strOfNums (encs rs) ∧ nerr (strOfNums (wideL rs)) = 0 := by
  have hl := wideL_length rs
  have hz : (strOfNums (wideL rs)).size = 2 * cnt rs := by rw [str_size, hl]
  have e := ntxt_ok (t := strOfNums (wideL rs)) (by omega) (by omega)
  have ep : prs (strOfNums (wideL rs)) = rs := by
    unfold prs
    rw [nums_str _ (wideL_byt h), pair_wide rs h]
  rw [e.1, e.2, ep]; exact ⟨rfl, rfl⟩
theorem valid_text (rs : List Int) (h : ∀ r ∈ rs, okR r) : validD (strOfNums (encs rs)).data.toList = true := by
  rw [str_bys]
  have e := valid_encs rs h []
  rw [List.append_nil] at e
  rw [e]; exact validD_nil
theorem clean_valid (s : ByteArray) (h : validD s.data.toList = true) : strOfNums (encs (rns s)) = s := by
  have e := valid_same _ s.data.toList (Nat.le_refl _) h
  apply ByteArray.ext
  apply Array.ext'
  rw [str_bys]; exact e
end Go.Proofs.Ytonheibhbilhhaa.utf
