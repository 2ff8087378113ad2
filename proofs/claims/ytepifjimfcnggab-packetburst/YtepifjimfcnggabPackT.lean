/- packet: bytes of a packet of which bits were turned: what is read. No program is named here. -/
import Derived.Test.YtepifjimfcnggabPackM
namespace Go.Proofs.Ytepifjimfcnggab.pack
open Go.PlainAid Go.Proofs.Ytepifjimfcnggab.lane Go.Proofs.Ytepifjimfcnggab.crc

theorem byt_set {l : List Int} (h : Byt l) (j y : Nat) (hy : y < 256) : Byt (l.set j (y : Int)) := by
  intro z hz
  rcases List.mem_or_eq_of_mem_set hz with hz | rfl
  · exact h z hz
  · omega
theorem pow8 : ∀ i : Fin 8, 2 ^ i.val < 256 := by decide
theorem wrest_byt {k a e f : Int} {d : List Int} (h : shp k ≠ 0) (hd : Byt d) : Byt (wrest k a e f d) := by
  intro x hx
  have := wtext_byt (a := a) (e := e) (f := f) h hd
  rw [wtext_cons] at this
  exact this x (by simp [hx])
theorem wrest_tlen {k a e f : Int} {d : List Int} (h : shp k = 1 ∨ shp k = 2) : (wrest k a e f d).length = 2 := by rw [wrest_tok h]; rfl
theorem wrest_dlen {k a e f : Int} {d : List Int} (h : shp k = 3) : (wrest k a e f d).length = d.length + 2 := by rw [wrest_dat h, List.length_append, two_len]
theorem sum_told {k a e f : Int} {d : List Int} (hg : good k a e f d) (hd : Byt d) (c : shp k = 3) {r : List Int} (hb : Byt r) (hl : r.length = (wrest k a e f d).length) (hne : more 0 r ≠ more 0 (wrest k a e f d)) : rdR k r = 5 := by
  have h2 := wrest_dlen (a := a) (e := e) (f := f) (d := d) c
  have h3 := hg.2.2.2
  refine dat_other c hb (by omega) (by omega) ?_
  intro h
  apply hne
  rw [h, wrest_dat c, fits_sum d hd]
theorem tok_lt {k a e f : Int} {d : List Int} (hg : good k a e f d) (c : shp k = 1 ∨ shp k = 2) : (a + 128 * e + f).toNat < 2048 := by
  obtain ⟨_, hp, hw, _⟩ := hg
  unfold wth at hw
  rcases c with c | c
  · have := hp.1 c; omega
  · have := hp.2.1 c; omega
/-- one bit behind the first byte -/
theorem rest_told {k a e f : Int} {d : List Int} (hg : good k a e f d) (hd : Byt d) (j i : Nat) (hi : i < 8) (x : Int) (hx : (wrest k a e f d)[j]? = some x) :
    rdR k ((wrest k a e f d).set j ((x.toNat ^^^ 2 ^ i : Nat) : Int)) = 5 := by
  have hb := wrest_byt (a := a) (e := e) (f := f) hg.1 hd
  have hxb := hb x (List.mem_of_getElem? hx)
  have hy : x.toNat ^^^ 2 ^ i < 256 := xor_lt8 (by omega) (pow8 ⟨i, hi⟩)
  have ht := txt_set _ j i x hb hx hi
  have hbs := byt_set hb j _ hy
  have hj := (List.getElem?_eq_some_iff.1 hx).1
  rcases shp_cases hg.1 with ⟨c, _⟩ | ⟨c, _⟩ | ⟨c, _⟩ | ⟨c, _⟩
  · have hl := wrest_tlen (a := a) (e := e) (f := f) (d := d) (.inl c)
    have hn := tok_lt hg (.inl c)
    refine tok_turned (.inl c) hn hbs (by rw [List.length_set]; exact hl) ⟨8 * j + i, by omega⟩ ⟨8 * j + i, by omega⟩ ?_
    rw [ht, wrest_tok (.inl c), if_pos rfl]
  · have hl := wrest_tlen (a := a) (e := e) (f := f) (d := d) (.inr c)
    have hn := tok_lt hg (.inr c)
    refine tok_turned (.inr c) hn hbs (by rw [List.length_set]; exact hl) ⟨8 * j + i, by omega⟩ ⟨8 * j + i, by omega⟩ ?_
    rw [ht, wrest_tok (.inr c), if_pos rfl]
  · refine sum_told hg hd c hbs (by rw [List.length_set]) ?_
    exact burst _ _ hb hbs (by rw [List.length_set]) (8 * j + i) 1 (by omega) (by decide) (by decide) (by rw [ht, Nat.mul_one])
  · rw [wrest_bare c] at hj
    simp at hj
/-- one bit -/
theorem flip_told {k a e f : Int} {d : List Int} (hg : good k a e f d) (hd : Byt d) (at_ : Nat) (x : Int) (hx : (wtext k a e f d)[at_ / 8]? = some x) :
    rdE ((wtext k a e f d).set (at_ / 8) ((x.toNat ^^^ 2 ^ (at_ % 8) : Nat) : Int)) = 4 ∨ (8 ≤ at_ ∧ rdE ((wtext k a e f d).set (at_ / 8) ((x.toNat ^^^ 2 ^ (at_ % 8) : Nat) : Int)) = 5) := by
  rw [wtext_cons] at *
  by_cases h8 : at_ < 8
  · left
    rw [show at_ / 8 = 0 by omega, List.getElem?_cons_zero] at hx
    rw [show at_ / 8 = 0 by omega, List.set_cons_zero, ← Option.some.inj hx]
    exact first_told hg.1 _ (by omega) _
  · right
    obtain ⟨j, hj⟩ : ∃ j, at_ / 8 = j + 1 := ⟨at_ / 8 - 1, by omega⟩
    rw [hj, List.getElem?_cons_succ] at hx
    rw [hj, List.set_cons_succ, rdE_fb hg.1]
    exact ⟨by omega, rest_told hg hd j _ (by omega) x hx⟩
/-- two bits behind the first byte of a token -/
theorem two_bits {k a e f : Int} {d : List Int} (hg : good k a e f d) (c : shp k = 1 ∨ shp k = 2) {r : List Int} (hb : Byt r) (hl : r.length = 2) (i j : Nat) (hij : i < j) (hj : j < 16)
    (h : txt r = txt (wrest k a e f d) ^^^ (2 ^ i ^^^ 2 ^ j)) : rdR k r = 5 := by
  have hn := tok_lt hg c
  refine tok_turned c hn hb hl ⟨i, by omega⟩ ⟨j, hj⟩ ?_
  rw [h, wrest_tok c, if_neg]
  intro e
  have := congrArg Fin.val e
  simp at this
  omega
end Go.Proofs.Ytepifjimfcnggab.pack
