/- utf: the plain mathematics: runes of bytes, their UTF-8, units of sixteen bits. No program is named here. -/
import Derived.Test.YtebaepkghbihkaaLaneM
import Derived.Lib.ValidLaws
namespace Go.Proofs.Ytebaepkghbihkaa.utf
open Go.PlainAid Go.Lib Go.Proofs.Ytebaepkghbihkaa.lane

/-! ### the runes of a text -/
def runesF : Nat → List UInt8 → List Int
  | 0, _ => []
  | n + 1, l => if l = [] then [] else ((decodeL l).1 : Int) :: runesF n (l.drop (decodeL l).2)
def runesU (l : List UInt8) : List Int := runesF l.length l
theorem runesF_nil : ∀ n, runesF n [] = []
  | 0 => rfl
  | _ + 1 => by simp [runesF]
theorem runesF_fuel : ∀ (n m : Nat) (l : List UInt8), l.length ≤ n → l.length ≤ m → runesF n l = runesF m l
  | 0, m, l, hn, _ => by
    have : l = [] := List.eq_nil_of_length_eq_zero (by omega)
    subst this
    rw [runesF_nil, runesF_nil]
  | n + 1, 0, l, _, hm => by
    have : l = [] := List.eq_nil_of_length_eq_zero (by omega)
    subst this
    rw [runesF_nil, runesF_nil]
  | n + 1, m + 1, l, hn, hm => by
    by_cases hne : l = []
    · subst hne
      rw [runesF_nil, runesF_nil]
    · have hw := decodeL_width l
      have hl : 0 < l.length := List.length_pos_iff.2 hne
      simp only [runesF, if_neg hne]
      rw [runesF_fuel n m _ (by rw [List.length_drop]; omega) (by rw [List.length_drop]; omega)]
theorem runesU_nil : runesU [] = [] := rfl
theorem runesU_step (l : List UInt8) (hne : l ≠ []) : runesU l = ((decodeL l).1 : Int) :: runesU (l.drop (decodeL l).2) := by
  have hw := decodeL_width l
  have hl : 0 < l.length := List.length_pos_iff.2 hne
  unfold runesU
  obtain ⟨n, hn⟩ : ∃ n, l.length = n + 1 := ⟨l.length - 1, by omega⟩
  rw [hn]
  simp only [runesF, if_neg hne]
  rw [runesF_fuel n _ _ (by rw [List.length_drop]; omega) (Nat.le_refl _)]

/-- a rune: no half of a pair, at most 1114111 -/
def okR (r : Int) : Prop := (0 ≤ r ∧ r < 55296) ∨ (57344 ≤ r ∧ r ≤ 1114111)
theorem decodeL_ok (l : List UInt8) : okR ((decodeL l).1 : Int) := by
  rw [decodeL_N]
  have k0 := (l.getD 0 0).toNat_lt
  have k1 := (l.getD 1 0).toNat_lt
  have k2 := (l.getD 2 0).toNat_lt
  have k3 := (l.getD 3 0).toNat_lt
  unfold okR
  rcases decodeN_shape l.length (l.getD 0 0).toNat (l.getD 1 0).toNat (l.getD 2 0).toNat (l.getD 3 0).toNat with ⟨c, e⟩ | ⟨c1, c2, c3, cv, e⟩ | ⟨c1, c2, c3, c4, cv, cs, e⟩ | ⟨c1, c2, c3, c4, c5, cv, cw, e⟩ | e
  all_goals (rw [e]; dsimp only; omega)
theorem runesU_ok : ∀ (n : Nat) (l : List UInt8), l.length ≤ n → ∀ r ∈ runesU l, okR r
  | 0, l, h => by
    have : l = [] := List.eq_nil_of_length_eq_zero (by omega)
    subst this
    intro r hr; cases hr
  | n + 1, l, h => by
    by_cases hne : l = []
    · subst hne; intro r hr; cases hr
    · rw [runesU_step l hne]
      have hw := decodeL_width l
      have hl : 0 < l.length := List.length_pos_iff.2 hne
      intro r hr
      rcases List.mem_cons.1 hr with rfl | hr
      · exact decodeL_ok l
      · exact runesU_ok n _ (by rw [List.length_drop]; omega) r hr

/-- runes in UTF-8 -/
def encs (rs : List Int) : List Int := rs.flatMap encodeRuneZ
theorem encs_nil : encs [] = [] := rfl
theorem encs_cons (r : Int) (rs : List Int) : encs (r :: rs) = encodeRuneZ r ++ encs rs := rfl
theorem encs_append (a b : List Int) : encs (a ++ b) = encs a ++ encs b := by simp [encs]
theorem encs_byt (rs : List Int) : Byt (encs rs) := by
  intro x hx
  obtain ⟨r, _, h⟩ := List.mem_flatMap.1 hx
  have := encodeRuneZ_byte r x h
  omega
theorem encs_length (rs : List Int) : rs.length ≤ (encs rs).length ∧ (encs rs).length ≤ 4 * rs.length := by
  induction rs with
  | nil => simp [encs]
  | cons r rs ih =>
    have := encodeRuneZ_length r
    rw [encs_cons, List.length_append, List.length_cons]
    omega
def bys (l : List Int) : List UInt8 := l.map fun n => UInt8.ofNat n.toNat
theorem bys_append (a b : List Int) : bys (a ++ b) = bys a ++ bys b := by simp [bys]
theorem bys_length (a : List Int) : (bys a).length = a.length := by simp [bys]
theorem str_bys (l : List Int) : (strOfNums l).data.toList = bys l := strOfNums_data l
theorem byn {x : Int} (h0 : 0 ≤ x) (h1 : x < 256) : (UInt8.ofNat x.toNat).toNat = x.toNat := by
  rw [UInt8.toNat_ofNat']; omega

set_option maxHeartbeats 2000000 in
/-- a rune's bytes are decoded as that rune, whatever follows -/
theorem decode_enc (r : Int) (h : okR r) (rest : List UInt8) : decodeL (bys (encodeRuneZ r) ++ rest) = (r.toNat, (encodeRuneZ r).length) := by
  rw [decodeL_N]
  unfold okR at h
  by_cases h1 : r ≤ 127
  · rw [encodeRuneZ_one (by omega) h1]
    simp only [bys, List.map_cons, List.map_nil, List.cons_append, List.nil_append, List.getD_cons_zero, List.length_cons, List.length_nil]
    rw [byn (by omega) (by omega)]
    unfold decodeN
    rw [if_pos (by omega)]
  · by_cases h2 : r ≤ 2047
    · rw [encodeRuneZ_two (by omega) h2]
      simp only [bys, List.map_cons, List.map_nil, List.cons_append, List.nil_append, List.getD_cons_zero, List.getD_cons_succ, List.length_cons, List.length_nil]
      rw [byn (by omega) (by omega), byn (by omega) (by omega)]
      unfold decodeN
      rw [if_neg (by omega), if_pos (by omega), if_pos (by omega)]
      apply Prod.ext <;> simp only <;> omega
    · by_cases h3 : r ≤ 65535
      · rw [encodeRuneZ_three (by omega)]
        simp only [bys, List.map_cons, List.map_nil, List.cons_append, List.nil_append, List.getD_cons_zero, List.getD_cons_succ, List.length_cons, List.length_nil]
        rw [byn (by omega) (by omega), byn (by omega) (by omega), byn (by omega) (by omega)]
        unfold decodeN
        rw [if_neg (by omega), if_neg (by omega), if_pos (by omega), if_pos (by omega)]
        apply Prod.ext <;> simp only <;> omega
      · rw [encodeRuneZ_four (by omega) (by omega)]
        simp only [bys, List.map_cons, List.map_nil, List.cons_append, List.nil_append, List.getD_cons_zero, List.getD_cons_succ, List.length_cons, List.length_nil]
        rw [byn (by omega) (by omega), byn (by omega) (by omega), byn (by omega) (by omega), byn (by omega) (by omega)]
        unfold decodeN
        rw [if_neg (by omega), if_neg (by omega), if_neg (by omega), if_pos (by omega), if_pos (by omega)]
        apply Prod.ext <;> simp only <;> omega
theorem drop_enc (r : Int) (rest : List UInt8) : (bys (encodeRuneZ r) ++ rest).drop (encodeRuneZ r).length = rest := by
  rw [← bys_length]; simp
theorem enc_ne (r : Int) (rest : List UInt8) : bys (encodeRuneZ r) ++ rest ≠ [] := by
  intro h
  have h := congrArg List.length h
  have := (encodeRuneZ_length r).1
  rw [List.length_append, bys_length, List.length_nil] at h
  omega
theorem runes_encs (rs : List Int) (h : ∀ r ∈ rs, okR r) (rest : List UInt8) : runesU (bys (encs rs) ++ rest) = rs ++ runesU rest := by
  induction rs with
  | nil => rfl
  | cons r rs ih =>
    have hr := h r (by simp)
    rw [encs_cons, bys_append, List.append_assoc, runesU_step _ (enc_ne _ _), decode_enc r hr]
    simp only
    rw [drop_enc, ih (fun x hx => h x (by simp [hx]))]
    unfold okR at hr
    rw [List.cons_append, Int.toNat_of_nonneg (by omega)]
theorem valid_encs (rs : List Int) (h : ∀ r ∈ rs, okR r) (rest : List UInt8) : validD (bys (encs rs) ++ rest) = validD rest := by
  induction rs with
  | nil => rfl
  | cons r rs ih =>
    have hr := h r (by simp)
    rw [encs_cons, bys_append, List.append_assoc, validD_step _ (enc_ne _ _), decode_enc r hr]
    simp only
    rw [drop_enc, ih (fun x hx => h x (by simp [hx])), if_neg]
    rintro ⟨h1, h2⟩
    have e : r = 65533 := by omega
    subst e
    simp [encodeRuneZ] at h2
theorem encodeRune_bys (r : Int) : encodeRune r = bys (encodeRuneZ r) := rfl
/-- a text of runes is its runes in UTF-8 -/
theorem valid_same : ∀ (n : Nat) (l : List UInt8), l.length ≤ n → validD l = true → bys (encs (runesU l)) = l
  | 0, l, h, _ => by
    have : l = [] := List.eq_nil_of_length_eq_zero (by omega)
    subst this; rfl
  | n + 1, l, h, hv => by
    by_cases hne : l = []
    · subst hne; rfl
    · have hw := decodeL_width l
      have hl : 0 < l.length := List.length_pos_iff.2 hne
      rw [validD_step l hne] at hv
      split at hv
      · cases hv
      · rename_i hn
        rw [runesU_step l hne, encs_cons, bys_append, ← encodeRune_bys, encode_decode l hne hn, valid_same n _ (by rw [List.length_drop]; omega) hv, List.take_append_drop]

/-! ### units -/
/-- a rune's units, two bytes each -/
def wu (r : Int) : List Int :=
  if r < 65536 then [r % 256, r / 256]
  else [(55296 + (r - 65536) / 1024) % 256, (55296 + (r - 65536) / 1024) / 256, (56320 + (r - 65536) % 1024) % 256, (56320 + (r - 65536) % 1024) / 256]
def wideL (rs : List Int) : List Int := rs.flatMap wu
theorem wideL_nil : wideL [] = [] := rfl
theorem wideL_cons (r : Int) (rs : List Int) : wideL (r :: rs) = wu r ++ wideL rs := rfl
theorem wideL_append (a b : List Int) : wideL (a ++ b) = wideL a ++ wideL b := by simp [wideL]
theorem wu_one {r : Int} (h : r < 65536) : wu r = [r % 256, r / 256] := by simp [wu, h]
theorem wu_two {r : Int} (h : ¬ r < 65536) : wu r = [(55296 + (r - 65536) / 1024) % 256, (55296 + (r - 65536) / 1024) / 256, (56320 + (r - 65536) % 1024) % 256, (56320 + (r - 65536) % 1024) / 256] := by simp [wu, h]
theorem wu_byt {r : Int} (h : okR r) : Byt (wu r) := by
  unfold okR at h
  intro x hx
  by_cases h1 : r < 65536
  · rw [wu_one h1] at hx
    simp at hx
    omega
  · rw [wu_two h1] at hx
    simp at hx
    omega
theorem wideL_byt {rs : List Int} (h : ∀ r ∈ rs, okR r) : Byt (wideL rs) := by
  intro x hx
  obtain ⟨r, hr, h1⟩ := List.mem_flatMap.1 hx
  exact wu_byt (h r hr) x h1
/-- how many units -/
def wn (r : Int) : Nat := if r < 65536 then 1 else 2
theorem wu_length (r : Int) : (wu r).length = 2 * wn r := by
  unfold wu wn; split <;> simp
def cnt : List Int → Nat
  | [] => 0
  | r :: rs => wn r + cnt rs
theorem cnt_append (a b : List Int) : cnt (a ++ b) = cnt a + cnt b := by
  induction a with
  | nil => simp [cnt]
  | cons r a ih => rw [List.cons_append, cnt, cnt, ih]; omega
theorem wideL_length (rs : List Int) : (wideL rs).length = 2 * cnt rs := by
  induction rs with
  | nil => rfl
  | cons r rs ih => rw [wideL_cons, List.length_append, wu_length, ih, cnt]; omega
theorem wn_pos (r : Int) : 1 ≤ wn r ∧ wn r ≤ 2 := by unfold wn; split <;> omega
theorem cnt_le (rs : List Int) : rs.length ≤ cnt rs ∧ cnt rs ≤ 2 * rs.length := by
  induction rs with
  | nil => simp [cnt]
  | cons r rs ih => have := wn_pos r; rw [cnt, List.length_cons]; omega
theorem runesU_length : ∀ (n : Nat) (l : List UInt8), l.length ≤ n → (runesU l).length ≤ l.length
  | 0, l, h => by
    have : l = [] := List.eq_nil_of_length_eq_zero (by omega)
    subst this; simp [runesU_nil]
  | n + 1, l, h => by
    by_cases hne : l = []
    · subst hne; simp [runesU_nil]
    · have hw := decodeL_width l
      have hl : 0 < l.length := List.length_pos_iff.2 hne
      have := runesU_length n (l.drop (decodeL l).2) (by rw [List.length_drop]; omega)
      rw [runesU_step l hne, List.length_cons]
      rw [List.length_drop] at this
      omega

/-- the units of bytes -/
def unitsL : List Int → List Int
  | a :: b :: r => (a + 256 * b) :: unitsL r
  | _ => []
theorem unitsL_two (a b : Int) (r : List Int) : unitsL (a :: b :: r) = (a + 256 * b) :: unitsL r := rfl
theorem unitsL_nil : unitsL [] = [] := rfl
theorem unitsL_length (l : List Int) (h : l.length % 2 = 0) : 2 * (unitsL l).length = l.length := by
  match l, h with
  | [], _ => rfl
  | [a], h => simp at h
  | a :: b :: r, h =>
    have := unitsL_length r (by simp only [List.length_cons] at h; omega)
    rw [unitsL_two, List.length_cons, List.length_cons, List.length_cons]; omega
theorem unitsL_bound (l : List Int) (h : Byt l) : ∀ u ∈ unitsL l, 0 ≤ u ∧ u ≤ 65535 := by
  match l, h with
  | [], _ => intro u hu; cases hu
  | [a], _ => intro u hu; cases hu
  | a :: b :: r, h =>
    intro u hu
    rcases List.mem_cons.1 hu with rfl | hu
    · have h1 := h a (by simp); have h2 := h b (by simp); omega
    · exact unitsL_bound r (fun x hx => h x (by simp [hx])) u hu
/-- one unit by itself -/
def loneU (u : Int) : Int := if 55296 ≤ u ∧ u ≤ 57343 then 65533 else u
abbrev isPair (u v : Int) : Prop := (55296 ≤ u ∧ u ≤ 56319) ∧ (56320 ≤ v ∧ v ≤ 57343)
def pairR (u v : Int) : Int := 65536 + (u - 55296) * 1024 + (v - 56320)
/-- the runes of units, from the front -/
def pairL : List Int → List Int
  | [] => []
  | [u] => [loneU u]
  | u :: v :: r => if isPair u v then pairR u v :: pairL r else loneU u :: pairL (v :: r)
theorem pairL_nil : pairL [] = [] := by simp [pairL]
theorem pairL_one (u : Int) : pairL [u] = [loneU u] := by simp [pairL]
theorem pairL_pair {u v : Int} (h : isPair u v) (r : List Int) : pairL (u :: v :: r) = pairR u v :: pairL r := by simp [pairL, h]
theorem pairL_not {u v : Int} (h : ¬ isPair u v) (r : List Int) : pairL (u :: v :: r) = loneU u :: pairL (v :: r) := by simp [pairL, h]
/-- a unit that is no first half stands by itself -/
theorem pairL_lone {u : Int} (h : ¬ (55296 ≤ u ∧ u ≤ 56319)) (r : List Int) : pairL (u :: r) = loneU u :: pairL r := by
  cases r with
  | nil => rw [pairL_one, pairL_nil]
  | cons v r => exact pairL_not (fun hp => h hp.1) r
theorem pairL_ok_in : ∀ (n : Nat) (us : List Int), us.length ≤ n → (∀ u ∈ us, 0 ≤ u ∧ u ≤ 65535) → (∀ r ∈ pairL us, okR r) ∧ cnt (pairL us) = us.length
  | _, [], _, _ => by simp [pairL_nil, cnt]
  | _, [u], _, h => by
    have h0 := h u (by simp)
    rw [pairL_one]
    constructor
    · intro r hr
      have : r = loneU u := by simpa using hr
      subst this
      unfold loneU okR; split <;> omega
    · have : wn (loneU u) = 1 := by unfold loneU wn; split <;> rw [if_pos (by omega)]
      simp [cnt, this]
  | 0, u :: v :: r, hn, _ => by simp at hn
  | n + 1, u :: v :: r, hn, h => by
    have h0 := h u (by simp)
    have h1 := h v (by simp)
    simp only [List.length_cons] at hn
    by_cases hp : isPair u v
    · have ih := pairL_ok_in n r (by omega) (fun x hx => h x (by simp [hx]))
      rw [pairL_pair hp]
      have hb : 65536 ≤ pairR u v ∧ pairR u v ≤ 1114111 := by unfold isPair at hp; unfold pairR; omega
      constructor
      · intro x hx
        rcases List.mem_cons.1 hx with rfl | hx
        · unfold okR; omega
        · exact ih.1 x hx
      · have : wn (pairR u v) = 2 := by unfold wn; rw [if_neg (by omega)]
        rw [cnt, this, ih.2, List.length_cons, List.length_cons]; omega
    · have ih := pairL_ok_in n (v :: r) (by simp only [List.length_cons]; omega) (fun x hx => h x (by simp only [List.mem_cons] at hx ⊢; exact .inr hx))
      rw [pairL_not hp]
      constructor
      · intro x hx
        rcases List.mem_cons.1 hx with rfl | hx
        · unfold loneU okR; split <;> omega
        · exact ih.1 x hx
      · have : wn (loneU u) = 1 := by unfold loneU wn; split <;> rw [if_pos (by omega)]
        rw [cnt, this, ih.2]; simp only [List.length_cons]; omega
theorem pairL_ok (us : List Int) (h : ∀ u ∈ us, 0 ≤ u ∧ u ≤ 65535) : (∀ r ∈ pairL us, okR r) ∧ cnt (pairL us) = us.length := pairL_ok_in _ us (Nat.le_refl _) h
/-- what was made wide is read as it was -/
theorem pair_wide (rs : List Int) (h : ∀ r ∈ rs, okR r) : pairL (unitsL (wideL rs)) = rs := by
  induction rs with
  | nil => rw [wideL_nil, unitsL_nil, pairL_nil]
  | cons r rs ih =>
    have hr := h r (by simp)
    have ih := ih (fun x hx => h x (by simp [hx]))
    unfold okR at hr
    rw [wideL_cons]
    by_cases h1 : r < 65536
    · rw [wu_one h1, List.cons_append, List.cons_append, List.nil_append, unitsL_two, show r % 256 + 256 * (r / 256) = r by omega, pairL_lone (by omega), ih]
      congr 1
      unfold loneU; rw [if_neg (by omega)]
    · rw [wu_two h1]
      simp only [List.cons_append, List.nil_append]
      rw [unitsL_two, unitsL_two, pairL_pair (by unfold isPair; omega), ih]
      congr 1
      unfold pairR; omega

/-! ### the rune in front of a wide text, and how many bytes it takes there -/
def frL : List Int → Int × Nat
  | a :: b :: c :: d :: _ => if isPair (a + 256 * b) (c + 256 * d) then (pairR (a + 256 * b) (c + 256 * d), 4) else (loneU (a + 256 * b), 2)
  | a :: b :: _ => (loneU (a + 256 * b), 2)
  | _ => (0, 2)
theorem pair_front (l : List Int) (h2 : 2 ≤ l.length) (he : l.length % 2 = 0) : pairL (unitsL l) = (frL l).1 :: pairL (unitsL (l.drop (frL l).2)) := by
  match l, h2, he with
  | [], h, _ => simp at h
  | [_], h, _ => simp at h
  | [a, b], _, _ => simp [unitsL, pairL_one, pairL_nil, frL]
  | [_, _, _], _, he => simp at he
  | a :: b :: c :: d :: r, _, _ =>
    by_cases hp : isPair (a + 256 * b) (c + 256 * d)
    · have e : frL (a :: b :: c :: d :: r) = (pairR (a + 256 * b) (c + 256 * d), 4) := if_pos hp
      rw [e]
      simp [unitsL, pairL_pair hp]
    · have e : frL (a :: b :: c :: d :: r) = (loneU (a + 256 * b), 2) := if_neg hp
      rw [e]
      simp [unitsL, pairL_not hp]
theorem frL_two (l : List Int) : (frL l).2 = 2 ∨ ((frL l).2 = 4 ∧ 4 ≤ l.length) := by
  unfold frL
  split
  · split
    · right; simp
    · left; rfl
  · left; rfl
  · left; rfl
end Go.Proofs.Ytebaepkghbihkaa.utf
