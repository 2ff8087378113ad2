/- packet: what Read answers, whole. -/
import Derived.Test.YtepifjimfcnggaaPackE
namespace Go.Proofs.Ytepifjimfcnggaa.pack
open Go.RowKit Go.PlainAid Go.Proofs.Ytepifjimfcnggaa.lane Go.Proofs.Ytepifjimfcnggaa.crc

theorem beq_str (l : List Int) (hl : Byt l) (t : ByteArray) : ((strOfNums l).toList == t.toList) = true ↔ l = nums t := by
  rw [beq_iff_eq, toList_inj, nums_str l hl]
/-- what was read: the code, the kind, and what follows the first byte -/
def Got (l : List Int) (k a e f : Int) (d : ByteArray) (c : Int) : Prop :=
  c = rdE l ∧ ((c ≠ 0 ∧ k = 0 ∧ a = 0 ∧ e = 0 ∧ f = 0 ∧ d = ⟨#[]⟩) ∨
    (c = 0 ∧ shp k ≠ 0 ∧ ∃ r, l = fb k :: r ∧ Byt r ∧ rdR k r = 0 ∧ a = rA k r ∧ e = rN k r ∧ f = rF k r ∧ nums d = rD k r))
theorem got_no {s : ByteArray} {l : List Int} {c : Int} (h : RD s 0 0 0 0 ⟨#[]⟩ c) (hc : c = rdE l) (h0 : c ≠ 0) : ∃ k a e f d c, RD s k a e f d c ∧ Got l k a e f d c :=
  ⟨0, 0, 0, 0, ⟨#[]⟩, c, h, hc, .inl ⟨h0, rfl, rfl, rfl, rfl, rfl⟩⟩
theorem read_any (s : ByteArray) (hm : s.size ≤ maxLen) : ∃ k a e f d c, RD s k a e f d c ∧ Got (nums s) k a e f d c := by
  have hl := nums_length s
  by_cases hz : s.size = 0
  · have e0 : nums s = [] := List.eq_nil_of_length_eq_zero (by omega)
    exact got_no (read_nil s hz) (by rw [e0]; rfl) (by decide)
  have hc := drop_nums s 0 (by omega)
  rw [List.drop_zero] at hc
  have hr : (nums s).drop (0 + 1) = nums (s.extract 1 s.size) := by
    rw [nums_extract s 1 s.size, ← hl, List.take_length]
  rw [hr] at hc
  have b0 := bt_nonneg s 0
  have b1 := bt_le s 0
  obtain ⟨k, hk⟩ := Int.eq_ofNat_of_zero_le (show 0 ≤ bt s 0 % 16 by omega)
  have hrb := nums_byt (s.extract 1 s.size)
  have hrl : (nums (s.extract 1 s.size)).length + 1 = s.size := by
    have := congrArg List.length hc
    rw [hl, List.length_cons] at this
    omega
  have hsz : (s.extract 1 s.size).size + 1 = s.size := by rw [← nums_length]; exact hrl
  obtain ⟨r, hre⟩ : ∃ r, r = nums (s.extract 1 s.size) := ⟨_, rfl⟩
  rw [← hre] at hc hrb hrl
  by_cases h0 : shp k = 0
  · exact got_no (read_none s k (by omega) hk h0) (by rw [hc, rdE, hk, if_pos (.inl h0)]) (by decide)
  have h0' : (shp k == 0) = false := by simp [h0]
  by_cases hf : ¬ bt s 0 = fb k
  · exact got_no (read_form s k _ (by omega) hk rfl h0' (by simp [hf])) (by rw [hc, rdE, hk, if_pos (.inr hf)]) (by decide)
  have hf := Decidable.not_not.1 hf
  have hf' : (bt s 0 != fb k) = false := by simp [hf]
  have hE : rdE (nums s) = rdR k r := by rw [hc, hf, rdE_fb h0]
  have done : ∀ (lo hi a e f : Int) (d : ByteArray) (b : Bool), (∀ w : World, Calls Try.prog 27 #[.int .i64 (shp k)] w fun e w' => e = .returned (.tuple #[.int .i64 lo, .int .i64 hi]) ∧ w' = w) →
      (lo ≤ (s.size : Int) - 1 ∧ (s.size : Int) - 1 ≤ hi) →
      (∀ w : World, Calls Try.prog 28 #[.int .i64 (shp k), .string (s.extract 1 s.size)] w fun r w' => r = .returned (.tuple #[pk 0 a e f d, .bool b]) ∧ Below w.heap.size w w') →
      (b = true → rdR k r = 0) → (b = false → rdR k r = 5) → a = rA k r → e = rN k r → f = rF k r → nums d = rD k r → ∃ k a e f d c, RD s k a e f d c ∧ Got (nums s) k a e f d c := by
    intro lo hi a e f d b HZ hsz HO ht hn ha he hf2 hd
    obtain ⟨r1, r2⟩ := read_open s k _ lo hi a e f d b (by omega) hm hk rfl h0' hf' HZ hsz HO
    cases b
    · exact got_no (r2 rfl) (by rw [hE, hn rfl]) (by decide)
    · exact ⟨k, a, e, f, d, 0, r1 rfl, by rw [hE, ht rfl], .inr ⟨rfl, h0, r, by rw [hc, hf], hrb, ht rfl, ha, he, hf2, hd⟩⟩
  have size : ∀ (lo hi c : Int), (∀ w : World, Calls Try.prog 27 #[.int .i64 (shp k)] w fun e w' => e = .returned (.tuple #[.int .i64 lo, .int .i64 hi]) ∧ w' = w) →
      (((s.size : Int) - 1 < lo ∧ c = 3) ∨ (lo ≤ (s.size : Int) - 1 ∧ hi < (s.size : Int) - 1 ∧ c = 4)) → rdR k r = c → ∃ k a e f d c, RD s k a e f d c ∧ Got (nums s) k a e f d c := by
    intro lo hi c HZ hcc hrc
    exact got_no (read_size s k _ lo hi c (by omega) hm hk rfl h0' hf' HZ hcc) (by rw [hE, hrc]) (by omega)
  rcases shp_cases h0 with ⟨c, _⟩ | ⟨c, _⟩ | ⟨c, _⟩ | ⟨c, _⟩
  · have HZ := sizes_tok (shp k) (.inl c)
    by_cases h2 : r.length < 2
    · exact size 2 2 3 HZ (.inl ⟨by omega, rfl⟩) (by unfold rdR; rw [if_neg (by omega), if_pos h2])
    by_cases h3 : 2 < r.length
    · exact size 2 2 4 HZ (.inr ⟨by omega, by omega, rfl⟩) (by unfold rdR; rw [if_neg (by omega), if_neg h2, if_neg (by omega), if_pos h3])
    have HO := opened_tok (s.extract 1 s.size) (by omega)
    rw [← hre, ← c] at HO
    have hbs := beq_str (sealw (txt r % 2048)) (two_byt _) (s.extract 1 s.size)
    rw [← hre] at hbs
    refine done 2 2 _ _ _ _ _ HZ ⟨by omega, by omega⟩ HO ?_ ?_ ?_ ?_ ?_ ?_
    · intro hb; unfold rdR; rw [if_neg (by omega), if_neg h2, if_neg (by omega), if_neg h3, if_pos (hbs.1 hb)]
    · intro hb; unfold rdR; rw [if_neg (by omega), if_neg h2, if_neg (by omega), if_neg h3, if_neg]; intro h; rw [hbs.2 h] at hb; cases hb
    · unfold rA; rw [if_pos c]; omega
    · unfold rN; rw [if_pos c]; omega
    · unfold rF; rw [if_neg (by omega)]
    · unfold rD; rw [if_neg (by omega)]; rfl
  · have HZ := sizes_tok (shp k) (.inr c)
    by_cases h2 : r.length < 2
    · exact size 2 2 3 HZ (.inl ⟨by omega, rfl⟩) (by unfold rdR; rw [if_neg (by omega), if_pos h2])
    by_cases h3 : 2 < r.length
    · exact size 2 2 4 HZ (.inr ⟨by omega, by omega, rfl⟩) (by unfold rdR; rw [if_neg (by omega), if_neg h2, if_neg (by omega), if_pos h3])
    have HO := opened_frm (s.extract 1 s.size) (by omega)
    rw [← hre, ← c] at HO
    have hbs := beq_str (sealw (txt r % 2048)) (two_byt _) (s.extract 1 s.size)
    rw [← hre] at hbs
    refine done 2 2 _ _ _ _ _ HZ ⟨by omega, by omega⟩ HO ?_ ?_ ?_ ?_ ?_ ?_
    · intro hb; unfold rdR; rw [if_neg (by omega), if_neg h2, if_neg (by omega), if_neg h3, if_pos (hbs.1 hb)]
    · intro hb; unfold rdR; rw [if_neg (by omega), if_neg h2, if_neg (by omega), if_neg h3, if_neg]; intro h; rw [hbs.2 h] at hb; cases hb
    · unfold rA; rw [if_neg (by omega)]
    · unfold rN; rw [if_neg (by omega)]
    · unfold rF; rw [if_pos c]
    · unfold rD; rw [if_neg (by omega)]; rfl
  · have HZ := sizes_dat
    rw [← c] at HZ
    by_cases h2 : r.length < 2
    · exact size 2 66 3 HZ (.inl ⟨by omega, rfl⟩) (by unfold rdR; rw [if_neg (by omega), if_pos h2])
    by_cases h3 : 66 < r.length
    · exact size 2 66 4 HZ (.inr ⟨by omega, by omega, rfl⟩) (by unfold rdR; rw [if_neg (by omega), if_neg h2, if_pos c, if_pos h3])
    have hn2 : (s.extract 1 s.size).size = r.length - 2 + 2 := by omega
    have hn3 : nums ((s.extract 1 s.size).extract 0 (r.length - 2)) = cut r := by
      rw [nums_extract, ← hre, List.drop_zero]; rfl
    have hn4 : nums ((s.extract 1 s.size).extract (r.length - 2) (s.extract 1 s.size).size) = r.drop (r.length - 2) := by
      rw [nums_extract, ← hre, List.take_of_length_le (by omega)]
    have HO := opened_dat (s.extract 1 s.size) (r.length - 2) hn2 (by omega)
    rw [hn3, ← c] at HO
    have hbs := beq_str (two (more 0 (cut r))) (two_byt _) ((s.extract 1 s.size).extract (r.length - 2) (s.extract 1 s.size).size)
    rw [hn4] at hbs
    refine done 2 66 _ _ _ _ _ HZ ⟨by omega, by omega⟩ HO ?_ ?_ ?_ ?_ ?_ ?_
    · intro hb; unfold rdR; rw [if_neg (by omega), if_neg h2, if_pos c, if_neg h3, if_pos (hbs.1 hb)]
    · intro hb; unfold rdR; rw [if_neg (by omega), if_neg h2, if_pos c, if_neg h3, if_neg]; intro h; rw [hbs.2 h] at hb; cases hb
    · unfold rA; rw [if_neg (by omega)]
    · unfold rN; rw [if_neg (by omega)]
    · unfold rF; rw [if_neg (by omega)]
    · unfold rD; rw [if_pos c]; exact hn3
  · have HZ := sizes_bare
    rw [← c] at HZ
    by_cases h2 : r = []
    · have HO := opened_bare (s.extract 1 s.size)
      rw [← c] at HO
      have hl0 : r.length = 0 := by rw [h2]; rfl
      refine done 0 0 _ _ _ _ _ HZ ⟨by omega, by omega⟩ HO ?_ ?_ ?_ ?_ ?_ ?_
      · intro hb; unfold rdR; rw [if_pos c, if_pos h2]
      · intro hb; cases hb
      · unfold rA; rw [if_neg (by omega)]
      · unfold rN; rw [if_neg (by omega)]
      · unfold rF; rw [if_neg (by omega)]
      · unfold rD; rw [if_neg (by omega)]; rfl
    · have hl0 : r.length ≠ 0 := fun h => h2 (List.eq_nil_of_length_eq_zero h)
      exact size 0 0 4 HZ (.inr ⟨by omega, by omega, rfl⟩) (by unfold rdR; rw [if_pos c, if_neg h2])
end Go.Proofs.Ytepifjimfcnggaa.pack
