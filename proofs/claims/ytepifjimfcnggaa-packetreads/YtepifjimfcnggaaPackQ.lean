/- plugref's packet: what ReadPacket answers, whole. -/
import Derived.Test.YtepifjimfcnggaaPackZ
namespace Go.Proofs.Ytepifjimfcnggaa.pack
open Go.RowKit Go.PlainAid Go.Proofs.Ytepifjimfcnggaa.lane Go.Proofs.Ytepifjimfcnggaa.crc

theorem rgot_no {s : ByteArray} {l : List Int} {c : Int} (h : RR s 0 0 0 0 ⟨#[]⟩ c) (hc : c = rdE l) (h0 : c ≠ 0) : ∃ k a e f d c, RR s k a e f d c ∧ Got l k a e f d c :=
  ⟨0, 0, 0, 0, ⟨#[]⟩, c, h, hc, .inl ⟨h0, rfl, rfl, rfl, rfl, rfl⟩⟩
theorem beq_str' (l : List Int) (hl : Byt l) (t : ByteArray) : (t.toList == (strOfNums l).toList) = true ↔ l = nums t := by
  rw [beq_iff_eq, toList_inj, nums_str l hl]
  exact eq_comm
theorem rread_any (s : ByteArray) (hm : s.size ≤ maxLen) : ∃ k a e f d c, RR s k a e f d c ∧ Got (nums s) k a e f d c := by
  have hl := nums_length s
  by_cases hz : s.size = 0
  · have e0 : nums s = [] := List.eq_nil_of_length_eq_zero (by omega)
    exact rgot_no (rr_nil s hz) (by rw [e0]; rfl) (by decide)
  have hc := drop_nums s 0 (by omega)
  rw [List.drop_zero] at hc
  have hr : (nums s).drop (0 + 1) = nums (s.extract 1 s.size) := by
    rw [nums_extract s 1 s.size, ← hl, List.take_length]
  rw [hr] at hc
  have b0 := bt_nonneg s 0
  have b1 := bt_le s 0
  obtain ⟨k, hk⟩ := Int.eq_ofNat_of_zero_le (show 0 ≤ bt s 0 % 16 by omega)
  have hrb := nums_byt (s.extract 1 s.size)
  have hrl : (nums (s.extract 1 s.size)).length + 1 = s.size := by
    have := congrArg List.length hc
    rw [hl, List.length_cons] at this
    omega
  obtain ⟨r, hre⟩ : ∃ r, r = nums (s.extract 1 s.size) := ⟨_, rfl⟩
  rw [← hre] at hc hrb hrl
  have h : 0 < s.size := by omega
  by_cases hf : ¬ bt s 0 = fb k
  · exact rgot_no (rr_sum s k h hm hk (by unfold fb at hf; simp; omega)) (by rw [hc, rdE, hk, if_pos (.inr hf)]) (by decide)
  have hf := Decidable.not_not.1 hf
  have hf' : (bt s 0 / 16 + (k : Int) != 15) = false := by unfold fb at hf; simp; omega
  by_cases h0 : shp k = 0
  · exact rgot_no (rr_none s k h hm hk hf' (by rw [isB_all]; simp [h0])) (by rw [hc, rdE, hk, if_pos (.inl h0)]) (by decide)
  have hA : isB k ⟨#[1, 9, 13, 3, 11, 2, 10, 14, 5]⟩ = true := by rw [isB_all]; simp [h0]
  have hE : rdE (nums s) = rdR k r := by rw [hc, hf, rdE_fb h0]
  have done : ∀ (a e f : Int) (d : ByteArray), RR s k a e f d 0 → rdR k r = 0 → a = rA k r → e = rN k r → f = rF k r → nums d = rD k r → ∃ k a e f d c, RR s k a e f d c ∧ Got (nums s) k a e f d c := by
    intro a e f d HR ht ha he hf2 hd
    exact ⟨k, a, e, f, d, 0, HR, by rw [hE, ht], .inr ⟨rfl, h0, r, by rw [hc, hf], hrb, ht, ha, he, hf2, hd⟩⟩
  have hTk := isB_tok k
  have hDk := isB_dat k
  have hBk := isB_bare k
  have tok : (shp k = 1 ∨ shp k = 2) → isB k ⟨#[2, 10, 14]⟩ = false → isB k ⟨#[3, 11]⟩ = false → ∃ k a e f d c, RR s k a e f d c ∧ Got (nums s) k a e f d c := by
    intro c hB hD
    by_cases h2 : s.size < 3
    · exact rgot_no (rr_short s k h hm hk hf' hA hB h2) (by rw [hE]; unfold rdR; rw [if_neg (by omega), if_pos (by omega)]) (by decide)
    by_cases h3 : 3 < s.size
    · exact rgot_no (rr_tok_long s k h hm hk hf' hA hB hD h3) (by rw [hE]; unfold rdR; rw [if_neg (by omega), if_neg (by omega), if_neg (by omega), if_pos (by omega)]) (by decide)
    have hs3 : s.size = 3 := by omega
    have hr2 := txt_two' s hs3
    rw [← hre] at hr2
    have c0 := bt_nonneg s 1
    have c1 := bt_le s 1
    have d0 := bt_nonneg s 2
    have d1 := bt_le s 2
    have eN : bt s 1 + 256 * bt s 2 = ((txt r : Nat) : Int) := by rw [hr2]; simp [txt]; omega
    have hlt := txt_lt2 r hrb (by omega)
    have hsi := seal_iff r hrb (by omega)
    by_cases hs : five (txt r % 2048) = txt r / 2048
    · have h0r : rdR k r = 0 := by unfold rdR; rw [if_neg (by omega), if_neg (by omega), if_neg (by omega), if_neg (by omega), if_pos (hsi.2 hs)]
      have hs' : (((five (txt r % 2048) : Nat) : Int) != ((txt r : Nat) : Int) / 2048) = false := by simp; omega
      rcases c with c | c
      · have hk5 : ((k : Int) == 5) = false := by
          have : (k : Int) ≠ 5 := by intro e; rw [e] at c; revert c; decide
          simpa using this
        refine done _ _ _ _ (rr_tok s k h hm hk hf' hA hB hD (txt r) hs3 eN hs' hk5) h0r ?_ ?_ ?_ ?_
        · unfold rA; rw [if_pos c]; omega
        · unfold rN; rw [if_pos c]; omega
        · unfold rF; rw [if_neg (by omega)]
        · unfold rD; rw [if_neg (by omega)]; rfl
      · have hk5 : ((k : Int) == 5) = true := by
          rcases shp_cases h0 with ⟨c', h'⟩ | ⟨c', h'⟩ | ⟨c', h'⟩ | ⟨c', h'⟩
          · omega
          · simp; omega
          · omega
          · omega
        refine done _ _ _ _ (rr_frm s k h hm hk hf' hA hB hD (txt r) hs3 eN hs' hk5) h0r ?_ ?_ ?_ ?_
        · unfold rA; rw [if_neg (by omega)]
        · unfold rN; rw [if_neg (by omega)]
        · unfold rF; rw [if_pos c]; omega
        · unfold rD; rw [if_neg (by omega)]; rfl
    · refine rgot_no (rr_tok_sum s k h hm hk hf' hA hB hD (txt r) hs3 eN (by simp; omega)) ?_ (by decide)
      rw [hE]; unfold rdR; rw [if_neg (by omega), if_neg (by omega), if_neg (by omega), if_neg (by omega), if_neg (fun h => hs (hsi.1 h))]
  rcases shp_cases h0 with ⟨c, _⟩ | ⟨c, _⟩ | ⟨c, _⟩ | ⟨c, _⟩
  · exact tok (.inl c) (by rw [hBk, c]; rfl) (by rw [hDk, c]; rfl)
  · exact tok (.inr c) (by rw [hBk, c]; rfl) (by rw [hDk, c]; rfl)
  · have hB : isB k ⟨#[2, 10, 14]⟩ = false := by rw [hBk, c]; rfl
    have hD : isB k ⟨#[3, 11]⟩ = true := by rw [hDk, c]; rfl
    by_cases h2 : s.size < 3
    · exact rgot_no (rr_short s k h hm hk hf' hA hB h2) (by rw [hE]; unfold rdR; rw [if_neg (by omega), if_pos (by omega)]) (by decide)
    obtain ⟨j, hj⟩ : ∃ j, s.size = j + 2 := ⟨s.size - 2, by omega⟩
    by_cases h3 : 65 < j
    · exact rgot_no (rr_dat_long s k h hm hk hf' hA hB hD j hj (by omega) h3) (by rw [hE]; unfold rdR; rw [if_neg (by omega), if_neg (by omega), if_pos c, if_pos (by omega)]) (by decide)
    have hn3 : nums (s.extract 1 j) = cut r := by
      rw [nums_extract, hc]
      obtain ⟨i, rfl⟩ : ∃ i, j = i + 1 := ⟨j - 1, by omega⟩
      unfold cut
      rw [List.take_succ_cons, List.drop_succ_cons, List.drop_zero, show r.length - 2 = i by omega]
    have hn4 : nums (s.extract j (j + 2)) = r.drop (r.length - 2) := by
      rw [nums_extract, ← hj, ← hl, List.take_length, hc]
      obtain ⟨i, rfl⟩ : ∃ i, j = i + 1 := ⟨j - 1, by omega⟩
      rw [List.drop_succ_cons, show r.length - 2 = i by omega]
    have hbs := beq_str' (two (more 0 (cut r))) (two_byt _) (s.extract j (j + 2))
    rw [hn4] at hbs
    by_cases hs : two (more 0 (cut r)) = r.drop (r.length - 2)
    · refine done _ _ _ _ (rr_dat s k h hm hk hf' hA hB hD j hj (by omega) (by omega) (by rw [hn3]; exact hbs.2 hs)) ?_ ?_ ?_ ?_ ?_
      · unfold rdR; rw [if_neg (by omega), if_neg (by omega), if_pos c, if_neg (by omega), if_pos hs]
      · unfold rA; rw [if_neg (by omega)]
      · unfold rN; rw [if_neg (by omega)]
      · unfold rF; rw [if_neg (by omega)]
      · unfold rD; rw [if_pos c]; exact hn3
    · refine rgot_no (rr_dat_sum s k h hm hk hf' hA hB hD j hj (by omega) (by omega) ?_) ?_ (by decide)
      · rw [hn3]
        cases hq : ((s.extract j (j + 2)).toList == (strOfNums (two (more 0 (cut r)))).toList)
        · rfl
        · exact absurd (hbs.1 hq) hs
      · rw [hE]; unfold rdR; rw [if_neg (by omega), if_neg (by omega), if_pos c, if_neg (by omega), if_neg hs]
  · have hB : isB k ⟨#[2, 10, 14]⟩ = true := by rw [hBk, c]; rfl
    by_cases h1 : 1 < s.size
    · refine rgot_no (rr_bare_long s k h hm hk hf' hA hB h1) ?_ (by decide)
      have : r ≠ [] := by intro e; rw [e] at hrl; simp at hrl; omega
      rw [hE]; unfold rdR; rw [if_pos c, if_neg this]
    · have hr0 : r = [] := List.eq_nil_of_length_eq_zero (by omega)
      refine done _ _ _ _ (rr_bare s k h hm hk hf' hA hB (by omega)) ?_ ?_ ?_ ?_ ?_
      · unfold rdR; rw [if_pos c, if_pos hr0]
      · unfold rA; rw [if_neg (by omega)]
      · unfold rN; rw [if_neg (by omega)]
      · unfold rF; rw [if_neg (by omega)]
      · unfold rD; rw [if_neg (by omega)]; rfl
theorem got_same {l : List Int} {k a e f : Int} {d : ByteArray} {c : Int} {k' a' e' f' : Int} {d' : ByteArray} {c' : Int} (h : Got l k a e f d c) (h' : Got l k' a' e' f' d' c') :
    c = c' ∧ same k a e f d k' a' e' f' d' = true := by
  obtain ⟨hc, h⟩ := h
  obtain ⟨hc', h'⟩ := h'
  have hcc : c = c' := by rw [hc, hc']
  refine ⟨hcc, ?_⟩
  rw [same_iff]
  rcases h with ⟨n, rfl, rfl, rfl, rfl, rfl⟩ | ⟨n, s, r, hl, _, _, ha, he, hf, hd⟩
  · rcases h' with ⟨_, rfl, rfl, rfl, rfl, rfl⟩ | ⟨n', _⟩
    · exact ⟨rfl, rfl, rfl, rfl, rfl⟩
    · omega
  · rcases h' with ⟨n', _⟩ | ⟨_, s', r', hl', _, _, ha', he', hf', hd'⟩
    · omega
    · have hr := shp_range s
      have hr' := shp_range s'
      rw [hl] at hl'
      have hk : k = k' := by
        have := congrArg (· % 16) (List.cons.inj hl').1
        simp only [fb_mod (k := k) ⟨by omega, by omega⟩, fb_mod (k := k') ⟨by omega, by omega⟩] at this
        exact this
      subst hk
      have hrr := (List.cons.inj hl').2
      subst hrr
      exact ⟨rfl, ha.trans ha'.symm, he.trans he'.symm, hf.trans hf'.symm, hd.trans hd'.symm⟩
end Go.Proofs.Ytepifjimfcnggaa.pack
