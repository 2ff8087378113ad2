/- packet: the plain mathematics: kinds, the bytes of a packet, what is read of bytes. No program is named here. -/
import Derived.Test.YtepifjimfcnggaaCrcM
namespace Go.Proofs.Ytepifjimfcnggaa.pack
open Go.PlainAid Go.Proofs.Ytepifjimfcnggaa.lane Go.Proofs.Ytepifjimfcnggaa.crc
set_option linter.unusedVariables false

/-- what kinds have in common: 1 a token, 2 a frame's number, 3 data, 4 nothing else, 0 no kind -/
def shp (k : Int) : Int :=
  if k = 1 ∨ k = 9 ∨ k = 13 then 1 else if k = 5 then 2 else if k = 3 ∨ k = 11 then 3 else if k = 2 ∨ k = 10 ∨ k = 14 then 4 else 0
/-- the first byte -/
def fb (k : Int) : Int := k + 16 * (15 - k)
/-- two bytes of a number -/
def two (n : Nat) : List Int := [((n % 256 : Nat) : Int), ((n / 256 % 256 : Nat) : Int)]
/-- eleven bits and their sum -/
def sealw (n : Nat) : List Int := two (n + 2048 * five n)
/-- have the fields that have no place their zero values? -/
def plc (k a e f : Int) (d : List Int) : Prop :=
  (shp k = 1 → f = 0 ∧ d = []) ∧ (shp k = 2 → a = 0 ∧ e = 0 ∧ d = []) ∧ (shp k = 3 → a = 0 ∧ e = 0 ∧ f = 0) ∧ (shp k = 4 → a = 0 ∧ e = 0 ∧ f = 0 ∧ d = [])
/-- are the fields within their bounds? -/
def wth (a e f : Int) : Prop := 0 ≤ a ∧ a ≤ 127 ∧ 0 ≤ e ∧ e ≤ 15 ∧ 0 ≤ f ∧ f ≤ 2047
/-- can it be sent? -/
def good (k a e f : Int) (d : List Int) : Prop := shp k ≠ 0 ∧ plc k a e f d ∧ wth a e f ∧ d.length ≤ 64
/-- the bytes of a packet -/
def wtext (k a e f : Int) (d : List Int) : List Int :=
  if shp k = 3 then fb k :: (d ++ two (more 0 d)) else if shp k = 4 then [fb k] else fb k :: sealw (a + 128 * e + f).toNat
/-- how many bytes are the data? -/
def cut (r : List Int) : List Int := r.take (r.length - 2)
/-- the code of what is read behind a first byte of kind k -/
def rdR (k : Int) (r : List Int) : Int :=
  if shp k = 4 then (if r = [] then 0 else 4)
  else if r.length < 2 then 3
  else if shp k = 3 then (if 66 < r.length then 4 else if two (more 0 (cut r)) = r.drop (r.length - 2) then 0 else 5)
  else if 2 < r.length then 4 else if sealw (txt r % 2048) = r then 0 else 5
/-- the code of what is read -/
def rdE : List Int → Int
  | [] => 3
  | b :: r => if shp (b % 16) = 0 ∨ b ≠ fb (b % 16) then 4 else rdR (b % 16) r
def rA (k : Int) (r : List Int) : Int := if shp k = 1 then ((txt r % 128 : Nat) : Int) else 0
def rN (k : Int) (r : List Int) : Int := if shp k = 1 then ((txt r % 2048 / 128 : Nat) : Int) else 0
def rF (k : Int) (r : List Int) : Int := if shp k = 2 then ((txt r % 2048 : Nat) : Int) else 0
def rD (k : Int) (r : List Int) : List Int := if shp k = 3 then cut r else []

theorem shp_cases {k : Int} (h : shp k ≠ 0) : (shp k = 1 ∧ (k = 1 ∨ k = 9 ∨ k = 13)) ∨ (shp k = 2 ∧ k = 5) ∨ (shp k = 3 ∧ (k = 3 ∨ k = 11)) ∨ (shp k = 4 ∧ (k = 2 ∨ k = 10 ∨ k = 14)) := by
  unfold shp at *
  split
  · exact .inl ⟨rfl, by assumption⟩
  · split
    · exact .inr (.inl ⟨rfl, by assumption⟩)
    · split
      · exact .inr (.inr (.inl ⟨rfl, by assumption⟩))
      · split
        · exact .inr (.inr (.inr ⟨rfl, by assumption⟩))
        · exact absurd (by simp_all) h
theorem shp_range {k : Int} (h : shp k ≠ 0) : 1 ≤ k ∧ k ≤ 14 := by
  rcases shp_cases h with h | h | h | h <;> omega
theorem shp_vals (k : Int) : shp k = 0 ∨ shp k = 1 ∨ shp k = 2 ∨ shp k = 3 ∨ shp k = 4 := by
  unfold shp
  repeat' split
  all_goals simp
theorem fb_mod {k : Int} (h : 0 ≤ k ∧ k ≤ 15) : fb k % 16 = k := by unfold fb; omega
theorem fb_byte {k : Int} (h : 0 ≤ k ∧ k ≤ 15) : 0 ≤ fb k ∧ fb k ≤ 255 := by unfold fb; omega
theorem two_byt (n : Nat) : Byt (two n) := by
  intro x hx
  simp only [two, List.mem_cons, List.not_mem_nil, or_false] at hx
  rcases hx with rfl | rfl <;> omega
theorem two_len (n : Nat) : (two n).length = 2 := rfl
theorem seal_len (n : Nat) : (sealw n).length = 2 := rfl
theorem txt_two (n : Nat) (h : n < 65536) : txt (two n) = n := by
  simp only [two, txt, Int.toNat_natCast]; omega
theorem two_txt (r : List Int) (h : Byt r) (hl : r.length = 2) : two (txt r) = r := by
  match r, hl with
  | [x, y], _ =>
    have hx := h x (by simp)
    have hy := h y (by simp)
    simp only [two, txt]
    congr 1
    · omega
    · congr 1; omega
theorem txt_lt2 (r : List Int) (h : Byt r) (hl : r.length = 2) : txt r < 65536 := by
  match r, hl with
  | [x, y], _ =>
    have hx := h x (by simp)
    have hy := h y (by simp)
    simp only [txt]
    omega
theorem seal_txt (n : Nat) (h : n < 2048) : txt (sealw n) = n + 2048 * five n := by
  have := five_lt n
  exact txt_two _ (by omega)
theorem seal_iff (r : List Int) (h : Byt r) (hl : r.length = 2) : sealw (txt r % 2048) = r ↔ five (txt r % 2048) = txt r / 2048 := by
  have hlt := txt_lt2 r h hl
  constructor
  · intro e
    have := congrArg txt e
    rw [seal_txt _ (by omega)] at this
    omega
  · intro e
    unfold sealw
    rw [e, show txt r % 2048 + 2048 * (txt r / 2048) = txt r by omega]
    exact two_txt r h hl
theorem cut_app (d : List Int) (n : Nat) : cut (d ++ two n) = d := by
  unfold cut
  rw [List.length_append, two_len, Nat.add_sub_cancel, List.take_left']
  rfl
theorem drop_app (d : List Int) (n : Nat) : (d ++ two n).drop ((d ++ two n).length - 2) = two n := by
  rw [List.length_append, two_len, Nat.add_sub_cancel, List.drop_left']
  rfl
theorem wtext_byt {k a e f : Int} {d : List Int} (h : shp k ≠ 0) (hd : Byt d) : Byt (wtext k a e f d) := by
  have hr := shp_range h
  have hb := fb_byte (k := k) ⟨by omega, by omega⟩
  unfold wtext
  split
  · intro x hx
    simp only [List.mem_cons, List.mem_append] at hx
    rcases hx with rfl | hx | hx
    · exact hb
    · exact hd x hx
    · exact two_byt _ x hx
  · split
    · intro x hx
      simp only [List.mem_cons, List.not_mem_nil, or_false] at hx
      subst hx; exact hb
    · intro x hx
      simp only [List.mem_cons] at hx
      rcases hx with rfl | hx
      · exact hb
      · exact two_byt _ x hx
/-- what stands behind the first byte -/
def wrest (k a e f : Int) (d : List Int) : List Int := (wtext k a e f d).tail
theorem wtext_cons (k a e f : Int) (d : List Int) : wtext k a e f d = fb k :: wrest k a e f d := by
  unfold wrest wtext
  split
  · rfl
  · split <;> rfl
theorem rdE_fb {k : Int} (h : shp k ≠ 0) (r : List Int) : rdE (fb k :: r) = rdR k r := by
  have hr := shp_range h
  rw [rdE, fb_mod ⟨by omega, by omega⟩, if_neg (by simp [h])]
theorem wrest_tok {k a e f : Int} {d : List Int} (h : shp k = 1 ∨ shp k = 2) : wrest k a e f d = sealw (a + 128 * e + f).toNat := by
  unfold wrest wtext
  rw [if_neg (by omega), if_neg (by omega)]; rfl
theorem wrest_dat {k a e f : Int} {d : List Int} (h : shp k = 3) : wrest k a e f d = d ++ two (more 0 d) := by
  unfold wrest wtext
  rw [if_pos h]; rfl
theorem wrest_bare {k a e f : Int} {d : List Int} (h : shp k = 4) : wrest k a e f d = [] := by
  unfold wrest wtext
  rw [if_neg (by omega), if_pos h]; rfl
theorem two_lt (d : List Int) : more 0 d < 65536 := more_lt d (by decide)
theorem rdR_back {k a e f : Int} {d : List Int} (h : good k a e f d) : rdR k (wrest k a e f d) = 0 := by
  obtain ⟨h0, hp, hw, hl⟩ := h
  unfold wth at hw
  rcases shp_cases h0 with ⟨c, _⟩ | ⟨c, _⟩ | ⟨c, _⟩ | ⟨c, _⟩
  · rw [wrest_tok (.inl c)]
    unfold rdR
    rw [if_neg (by omega), if_neg (by rw [seal_len]; omega), if_neg (by omega), if_neg (by rw [seal_len]; omega), seal_txt _ (by have := hp.1 c; omega), if_pos]
    congr 1
    have := hp.1 c
    omega
  · rw [wrest_tok (.inr c)]
    unfold rdR
    rw [if_neg (by omega), if_neg (by rw [seal_len]; omega), if_neg (by omega), if_neg (by rw [seal_len]; omega), seal_txt _ (by have := hp.2.1 c; omega), if_pos]
    congr 1
    have := hp.2.1 c
    omega
  · rw [wrest_dat c]
    unfold rdR
    rw [if_neg (by omega), if_neg (by rw [List.length_append, two_len]; omega), if_pos c, if_neg (by rw [List.length_append, two_len]; omega), cut_app, drop_app, if_pos rfl]
  · rw [wrest_bare c]
    unfold rdR
    rw [if_pos c, if_pos rfl]
theorem back {k a e f : Int} {d : List Int} (h : good k a e f d) :
    rdE (wtext k a e f d) = 0 ∧ rA k (wrest k a e f d) = a ∧ rN k (wrest k a e f d) = e ∧ rF k (wrest k a e f d) = f ∧ rD k (wrest k a e f d) = d := by
  refine ⟨by rw [wtext_cons, rdE_fb h.1, rdR_back h], ?_⟩
  obtain ⟨h0, hp, hw, hl⟩ := h
  unfold wth at hw
  unfold rA rN rF rD
  rcases shp_cases h0 with ⟨c, _⟩ | ⟨c, _⟩ | ⟨c, _⟩ | ⟨c, _⟩
  · have hp := hp.1 c
    rw [wrest_tok (.inl c), seal_txt _ (by omega), if_pos c, if_pos c, if_neg (by omega), if_neg (by omega)]
    exact ⟨by omega, by omega, hp.1.symm, hp.2.symm⟩
  · have hp := hp.2.1 c
    rw [wrest_tok (.inr c), seal_txt _ (by omega), if_neg (by omega), if_neg (by omega), if_pos c, if_neg (by omega)]
    exact ⟨hp.1.symm, hp.2.1.symm, by omega, hp.2.2.symm⟩
  · have hp := hp.2.2.1 c
    rw [wrest_dat c, if_neg (by omega), if_neg (by omega), if_neg (by omega), if_pos c, cut_app]
    exact ⟨hp.1.symm, hp.2.1.symm, hp.2.2.symm, rfl⟩
  · have hp := hp.2.2.2 c
    rw [if_neg (by omega), if_neg (by omega), if_neg (by omega), if_neg (by omega)]
    exact ⟨hp.1.symm, hp.2.1.symm, hp.2.2.1.symm, hp.2.2.2.symm⟩
/-- what is read is written as just those bytes -/
theorem one {k : Int} {r : List Int} (hb : Byt r) (h0 : shp k ≠ 0) (h : rdR k r = 0) :
    good k (rA k r) (rN k r) (rF k r) (rD k r) ∧ wrest k (rA k r) (rN k r) (rF k r) (rD k r) = r := by
  unfold rdR at h
  rcases shp_cases h0 with ⟨c, _⟩ | ⟨c, _⟩ | ⟨c, _⟩ | ⟨c, _⟩
  · simp only [if_neg (show ¬ shp k = 4 by omega), if_neg (show ¬ shp k = 3 by omega)] at h
    split at h
    · simp at h
    · split at h
      · simp at h
      · rename_i h1 h2
        split at h
        · rename_i h3
          have hlt := txt_lt2 r hb (by omega)
          rw [wrest_tok (.inl c)]
          unfold rA rN rF rD good plc wth
          simp only [if_pos c, if_neg (show ¬ shp k = 2 by omega), if_neg (show ¬ shp k = 3 by omega)]
          refine ⟨⟨h0, ⟨fun _ => by simp, fun _ => by omega, fun _ => by omega, fun _ => by omega⟩, ⟨by omega, by omega, by omega, by omega, by omega, by omega⟩, by simp⟩, ?_⟩
          rw [show ((((txt r % 128 : Nat) : Int) + 128 * ((txt r % 2048 / 128 : Nat) : Int) + 0).toNat) = txt r % 2048 by omega]
          exact h3
        · simp at h
  · simp only [if_neg (show ¬ shp k = 4 by omega), if_neg (show ¬ shp k = 3 by omega)] at h
    split at h
    · simp at h
    · split at h
      · simp at h
      · rename_i h1 h2
        split at h
        · rename_i h3
          have hlt := txt_lt2 r hb (by omega)
          rw [wrest_tok (.inr c)]
          unfold rA rN rF rD good plc wth
          simp only [if_pos c, if_neg (show ¬ shp k = 1 by omega), if_neg (show ¬ shp k = 3 by omega)]
          refine ⟨⟨h0, ⟨fun _ => by omega, fun _ => by simp, fun _ => by omega, fun _ => by omega⟩, ⟨by omega, by omega, by omega, by omega, by omega, by omega⟩, by simp⟩, ?_⟩
          rw [show ((0 : Int) + 128 * 0 + ((txt r % 2048 : Nat) : Int)).toNat = txt r % 2048 by omega]
          exact h3
        · simp at h
  · simp only [if_neg (show ¬ shp k = 4 by omega), if_pos c] at h
    split at h
    · simp at h
    · split at h
      · simp at h
      · rename_i h1 h2
        split at h
        · rename_i h3
          rw [wrest_dat c]
          unfold rA rN rF rD good plc wth
          simp only [if_pos c, if_neg (show ¬ shp k = 1 by omega), if_neg (show ¬ shp k = 2 by omega)]
          refine ⟨⟨h0, ⟨fun _ => by omega, fun _ => by omega, fun _ => by simp, fun _ => by omega⟩, ⟨by omega, by omega, by omega, by omega, by omega, by omega⟩, by unfold cut; rw [List.length_take]; omega⟩, ?_⟩
          rw [h3]
          exact List.take_append_drop _ _
        · simp at h
  · simp only [if_pos c] at h
    split at h
    · rename_i h1
      rw [wrest_bare c]
      unfold rA rN rF rD good plc wth
      simp only [if_neg (show ¬ shp k = 1 by omega), if_neg (show ¬ shp k = 2 by omega), if_neg (show ¬ shp k = 3 by omega)]
      exact ⟨⟨h0, ⟨fun _ => by omega, fun _ => by omega, fun _ => by omega, fun _ => by simp⟩, ⟨by omega, by omega, by omega, by omega, by omega, by omega⟩, by simp⟩, h1.symm⟩
    · simp at h
/-- a first byte of which one bit was turned -/
theorem first_turned : ∀ (k : Fin 16) (i : Fin 8), shp k.val ≠ 0 → shp ((((fb k.val).toNat ^^^ 2 ^ i.val : Nat) : Int) % 16) = 0 ∨ (((fb k.val).toNat ^^^ 2 ^ i.val : Nat) : Int) ≠ fb ((((fb k.val).toNat ^^^ 2 ^ i.val : Nat) : Int) % 16) := by
  decide +kernel
theorem first_told {k : Int} (h : shp k ≠ 0) (i : Nat) (hi : i < 8) (r : List Int) : rdE ((((fb k).toNat ^^^ 2 ^ i : Nat) : Int) :: r) = 4 := by
  have hr := shp_range h
  have := first_turned ⟨k.toNat, by omega⟩ ⟨i, hi⟩
  simp only [Int.toNat_of_nonneg (show 0 ≤ k by omega)] at this
  rw [rdE, if_pos (this h)]
/-- of a token or a frame's number: other bytes are told, but where the sum fits -/
theorem tok_other {k : Int} (c : shp k = 1 ∨ shp k = 2) {r : List Int} (hb : Byt r) (hl : r.length = 2) (hne : five (txt r % 2048) ≠ txt r / 2048) : rdR k r = 5 := by
  unfold rdR
  rw [if_neg (by omega), if_neg (by omega), if_neg (by omega), if_neg (by omega), if_neg]
  intro h
  exact hne ((seal_iff r hb hl).1 h)
theorem tok_turned {k : Int} (c : shp k = 1 ∨ shp k = 2) {n : Nat} (hn : n < 2048) {r : List Int} (hb : Byt r) (hl : r.length = 2) (i j : Fin 16)
    (h : txt r = txt (sealw n) ^^^ (if i = j then 2 ^ i.val else 2 ^ i.val ^^^ 2 ^ j.val)) : rdR k r = 5 := by
  refine tok_other c hb hl ?_
  have h11 := add_xor 11 n (five n) hn
  simp only [show (2 : Nat) ^ 11 = 2048 from rfl] at h11
  rw [h, seal_txt n hn, h11]
  exact two_told n hn i j
/-- a text with its sum behind it has one sum -/
theorem fits_sum (d : List Int) (hd : Byt d) : more 0 (d ++ two (more 0 d)) = 20478 := by
  have h := rest d hd _ rfl
  have hlt := two_lt d
  unfold two
  rw [show more 0 d / 256 % 256 = more 0 d / 256 by omega]
  exact h
theorem dat_other {k : Int} (c : shp k = 3) {r : List Int} (hb : Byt r) (h2 : 2 ≤ r.length) (h66 : r.length ≤ 66) (hne : more 0 r ≠ 20478) : rdR k r = 5 := by
  unfold rdR
  rw [if_neg (by omega), if_neg (by omega), if_pos c, if_neg (by omega), if_neg]
  intro h
  apply hne
  have hc : Byt (cut r) := fun x hx => hb x (List.mem_of_mem_take hx)
  have := fits_sum (cut r) hc
  rw [h] at this
  unfold cut at this
  rw [List.take_append_drop] at this
  exact this
end Go.Proofs.Ytepifjimfcnggaa.pack
