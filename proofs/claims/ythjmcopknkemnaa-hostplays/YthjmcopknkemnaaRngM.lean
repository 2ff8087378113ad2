/- ring: the plain mathematics: cells, marks that go on, what was put, got and learned. No program is named here. -/
import Derived.WalkKit
namespace Go.Proofs.Ythjmcopknkemnaa.ring
set_option linter.unusedVariables false

/-- a cell: its word, its bit, is it the link -/
abbrev Ce := Int × Int × Bool
structure Rg where
  C : List Ce
  pa : Int
  pb : Int
  ga : Int
  gb : Int
  sn : Int
def zR : Rg := ⟨[], 0, 0, 0, 0, 0⟩
def cz : Ce := (0, 0, false)
def bitB (x : Int) : Bool := x == 0 || x == 1
def plB (n : Nat) (x : Int) : Bool := decide (0 ≤ x) && decide (x < (n : Int) - 1)
def cnB (n : Int) : Bool := decide (3 ≤ n) && decide (n ≤ 64)
theorem bit_between (x : Int) : (decide (0 ≤ x) && decide (x ≤ 1)) = bitB x := by
  unfold bitB
  rw [Bool.eq_iff_iff]
  simp only [Bool.and_eq_true, Bool.or_eq_true, decide_eq_true_eq, beq_iff_eq]
  omega
theorem bit_iff {x : Int} : bitB x = true ↔ x = 0 ∨ x = 1 := by
  unfold bitB; simp
theorem pl_iff {n : Nat} {x : Int} : plB n x = true ↔ 0 ≤ x ∧ x < (n : Int) - 1 := by
  unfold plB; simp
theorem pl_between (n : Nat) (x : Int) : (decide (0 ≤ x) && decide (x ≤ (n : Int) - 2)) = plB n x := by
  unfold plB
  rw [Bool.eq_iff_iff]
  simp only [Bool.and_eq_true, decide_eq_true_eq]
  omega
theorem cn_iff {n : Int} : cnB n = true ↔ 3 ≤ n ∧ n ≤ 64 := by
  unfold cnB; simp
/-- one cell at place k of n -/
def ceB (n k : Nat) (c : Ce) : Bool := bitB c.2.1 && (c.2.2 == decide (k + 1 = n))
def okL (n : Nat) : Nat → List Ce → Bool
  | _, [] => true
  | k, c :: r => ceB n k c && okL n (k + 1) r
def okC (n : Nat) : Nat → List Ce → Bool
  | _, [] => true
  | k, c :: r => (ceB n k c && (decide (k + 1 < n) || c.1 == 0)) && okC n (k + 1) r
theorem okL_at {n : Nat} {L : List Ce} {k i : Nat} {c : Ce} (h : L[k]? = some c) : okL n i (L.drop k) = (ceB n i c && okL n (i + 1) (L.drop (k + 1))) := by
  have hk := (List.getElem?_eq_some_iff.1 h).1
  have hx := (List.getElem?_eq_some_iff.1 h).2
  rw [List.drop_eq_getElem_cons hk, hx]
  rfl
theorem okC_at {n : Nat} {L : List Ce} {k i : Nat} {c : Ce} (h : L[k]? = some c) : okC n i (L.drop k) = ((ceB n i c && (decide (i + 1 < n) || c.1 == 0)) && okC n (i + 1) (L.drop (k + 1))) := by
  have hk := (List.getElem?_eq_some_iff.1 h).1
  have hx := (List.getElem?_eq_some_iff.1 h).2
  rw [List.drop_eq_getElem_cons hk, hx]
  rfl
theorem okC_last {n : Nat} {d : Ce} : ∀ (L : List Ce) (k : Nat), k + L.length = n → L[n - 1 - k]? = some d → okC n k L = (okL n k L && (d.1 == 0))
  | [], k, _, h => by simp at h
  | [c], k, hk, h => by
    simp only [List.length_singleton] at hk
    have : n - 1 - k = 0 := by omega
    rw [this] at h
    simp at h
    subst h
    simp only [okC, okL, Bool.and_true]
    rw [decide_eq_false (by omega), Bool.false_or]
  | c :: e :: r, k, hk, h => by
    simp only [List.length_cons] at hk
    have hn : n - 1 - k = (n - 1 - (k + 1)) + 1 := by omega
    rw [hn, List.getElem?_cons_succ] at h
    have ih := okC_last (e :: r) (k + 1) (by simp only [List.length_cons]; omega) h
    rw [okC, ih, show okL n k (c :: e :: r) = (ceB n k c && okL n (k + 1) (e :: r)) from rfl, decide_eq_true (by omega), Bool.true_or, Bool.and_true, Bool.and_assoc]
theorem okC_iff {n : Nat} : ∀ {L : List Ce} {k : Nat}, okC n k L = true ↔ ∀ j c, L[j]? = some c → (c.2.1 = 0 ∨ c.2.1 = 1) ∧ c.2.2 = decide (k + j + 1 = n) ∧ (k + j + 1 < n ∨ c.1 = 0)
  | [], k => by simp [okC]
  | c :: r, k => by
    rw [okC, Bool.and_eq_true, okC_iff (L := r) (k := k + 1)]
    constructor
    · rintro ⟨h1, h2⟩ j d hd
      cases j with
      | zero =>
        simp at hd
        subst hd
        simp only [ceB, Bool.and_eq_true, bit_iff, beq_iff_eq, Bool.or_eq_true, decide_eq_true_eq] at h1
        exact ⟨h1.1.1, h1.1.2, h1.2⟩
      | succ j =>
        have := h2 j d (by simpa using hd)
        rw [show k + (j + 1) + 1 = k + 1 + j + 1 by omega]
        exact this
    · intro h
      refine ⟨?_, fun j d hd => ?_⟩
      · have := h 0 c rfl
        simp only [ceB, Bool.and_eq_true, bit_iff, beq_iff_eq, Bool.or_eq_true, decide_eq_true_eq]
        exact ⟨⟨this.1, this.2.1⟩, this.2.2⟩
      · have := h (j + 1) d (by simpa using hd)
        rw [show k + (j + 1) + 1 = k + 1 + j + 1 by omega] at this
        exact this
/-- what there is to say against a ring -/
def rgB (r : Rg) : Bool := okC r.C.length 0 r.C && ((plB r.C.length r.pa && bitB r.pb) && ((plB r.C.length r.ga && bitB r.gb) && plB r.C.length r.sn))
def chk (r : Rg) : Int := if cnB r.C.length = false then 1 else if rgB r = false then 4 else 0
structure Rt (r : Rg) : Prop where
  n3 : 3 ≤ r.C.length
  n64 : r.C.length ≤ 64
  C : okC r.C.length 0 r.C = true
  pa0 : 0 ≤ r.pa
  pa1 : r.pa < (r.C.length : Int) - 1
  pb : r.pb = 0 ∨ r.pb = 1
  ga0 : 0 ≤ r.ga
  ga1 : r.ga < (r.C.length : Int) - 1
  gb : r.gb = 0 ∨ r.gb = 1
  sn0 : 0 ≤ r.sn
  sn1 : r.sn < (r.C.length : Int) - 1
theorem chk_ok {r : Rg} : chk r = 0 ↔ Rt r := by
  unfold chk
  constructor
  · intro h
    split at h
    · omega
    · split at h
      · omega
      · rename_i h1 h2
        rw [Bool.not_eq_false, cn_iff] at h1
        rw [Bool.not_eq_false] at h2
        simp only [rgB, Bool.and_eq_true, pl_iff, bit_iff] at h2
        obtain ⟨q1, ⟨⟨q2, q3⟩, q4⟩, ⟨⟨q5, q6⟩, q7⟩, q8, q9⟩ := h2
        exact ⟨by omega, by omega, q1, q2, q3, q4, q5, q6, q7, q8, q9⟩
  · intro h
    rw [if_neg (by rw [Bool.not_eq_false, cn_iff]; have := h.n3; have := h.n64; omega), if_neg]
    rw [Bool.not_eq_false]
    simp only [rgB, Bool.and_eq_true, pl_iff, bit_iff]
    exact ⟨h.C, ⟨⟨h.pa0, h.pa1⟩, h.pb⟩, ⟨⟨h.ga0, h.ga1⟩, h.gb⟩, h.sn0, h.sn1⟩
theorem Rt.cell {r : Rg} (h : Rt r) {j : Nat} {c : Ce} (hc : r.C[j]? = some c) : (c.2.1 = 0 ∨ c.2.1 = 1) ∧ c.2.2 = decide (j + 1 = r.C.length) ∧ (j + 1 < r.C.length ∨ c.1 = 0) := by
  have := okC_iff.1 h.C j c hc
  rw [Nat.zero_add] at this
  exact this
theorem Rt.last {r : Rg} (h : Rt r) : ∃ b, r.C[r.C.length - 1]? = some (0, b, true) ∧ (b = 0 ∨ b = 1) := by
  have h3 := h.n3
  obtain ⟨c, hc⟩ : ∃ c, r.C[r.C.length - 1]? = some c := ⟨_, List.getElem?_eq_getElem (by omega)⟩
  obtain ⟨q1, q2, q3⟩ := h.cell hc
  obtain ⟨w, b, l⟩ := c
  simp only at q1 q2 q3
  rw [decide_eq_true (by omega)] at q2
  have : w = 0 := by rcases q3 with q | q; omega; exact q
  subst q2 this
  exact ⟨b, hc, q1⟩
/-- a mark goes on -/
def on (n : Nat) (a b : Int) : Int × Int := if a + 1 = (n : Int) - 1 then (0, 1 - b) else (a + 1, b)
theorem on_ok {n : Nat} {a b : Int} (hn : 3 ≤ n) (h0 : 0 ≤ a) (h1 : a < (n : Int) - 1) (hb : b = 0 ∨ b = 1) : (0 ≤ (on n a b).1 ∧ (on n a b).1 < (n : Int) - 1) ∧ ((on n a b).2 = 0 ∨ (on n a b).2 = 1) := by
  unfold on
  split
  · simp only; omega
  · simp only; omega
/-- what putting does with the cells -/
def putL (r : Rg) (w : Int) : List Ce := if (on r.C.length r.pa r.pb).1 = 0 then (r.C.set r.pa.toNat (w, r.pb, false)).set (r.C.length - 1) (0, r.pb, true) else r.C.set r.pa.toNat (w, r.pb, false)
def putV (r : Rg) (w : Int) : Rg := ⟨putL r w, (on r.C.length r.pa r.pb).1, (on r.C.length r.pa r.pb).2, r.ga, r.gb, r.sn⟩
def putB (r : Rg) : Bool := !((on r.C.length r.pa r.pb).1 == r.sn)
def atG (r : Rg) : Ce := r.C.getD r.ga.toNat cz
def getB (r : Rg) : Bool := (atG r).2.1 == r.gb
def onG (r : Rg) : Rg := ⟨r.C, r.pa, r.pb, (on r.C.length r.ga r.gb).1, (on r.C.length r.ga r.gb).2, r.sn⟩
def getV (r : Rg) : Rg := if getB r = true then onG r else r
def getW (r : Rg) : Int := if getB r = true then (atG r).1 else 0
def lrn (r : Rg) : Rg := ⟨r.C, r.pa, r.pb, r.ga, r.gb, r.ga⟩
theorem putL_len (r : Rg) (w : Int) : (putL r w).length = r.C.length := by unfold putL; split <;> simp
/-- what the calls answer -/
def ptC (r : Rg) : Int := if chk r = 0 then (if putB r = true then 0 else 11) else chk r
def ptV (r : Rg) (w : Int) : Rg := if chk r = 0 then (if putB r = true then putV r w else zR) else zR
def gtV (r : Rg) : Rg := if chk r = 0 then getV r else zR
def gtW (r : Rg) : Int := if chk r = 0 then getW r else 0
def gtB (r : Rg) : Bool := if chk r = 0 then getB r else false
def lnV (r : Rg) : Rg := if chk r = 0 then lrn r else zR
theorem put_rt {r : Rg} (h : Rt r) (w : Int) : Rt (putV r w) := by
  obtain ⟨⟨o1, o2⟩, o3⟩ := on_ok h.n3 h.pa0 h.pa1 h.pb
  have hl := putL_len r w
  have key : okC (putL r w).length 0 (putL r w) = true := by
    rw [okC_iff, hl]
    intro j c hc
    rw [Nat.zero_add]
    have hj : j < r.C.length := by rw [← hl]; exact (List.getElem?_eq_some_iff.1 hc).1
    have hset : ∀ d, (r.C.set r.pa.toNat (w, r.pb, false))[j]? = some d → (d.2.1 = 0 ∨ d.2.1 = 1) ∧ d.2.2 = decide (j + 1 = r.C.length) ∧ (j + 1 < r.C.length ∨ d.1 = 0) := by
      intro d hd
      rw [List.getElem?_set] at hd
      split at hd
      · rename_i q
        rw [if_pos (by omega)] at hd
        injection hd with hd
        subst hd
        have := h.pa1
        have := h.pa0
        refine ⟨h.pb, ?_, .inl (by omega)⟩
        simp only
        rw [decide_eq_false (by omega)]
      · exact h.cell hd
    unfold putL at hc
    split at hc
    · rw [List.getElem?_set] at hc
      split at hc
      · rename_i q
        rw [if_pos (by simp; omega)] at hc
        injection hc with hc
        subst hc
        refine ⟨h.pb, ?_, .inr rfl⟩
        simp only
        rw [decide_eq_true (by omega)]
      · exact hset c hc
    · exact hset c hc
  exact ⟨by show 3 ≤ (putL r w).length; rw [hl]; exact h.n3, by show (putL r w).length ≤ 64; rw [hl]; exact h.n64, key, o1, by show _ < ((putL r w).length : Int) - 1; rw [hl]; exact o2, o3,
    h.ga0, by show _ < ((putL r w).length : Int) - 1; rw [hl]; exact h.ga1, h.gb, h.sn0, by show _ < ((putL r w).length : Int) - 1; rw [hl]; exact h.sn1⟩
theorem onG_rt {r : Rg} (h : Rt r) : Rt (onG r) := by
  obtain ⟨⟨o1, o2⟩, o3⟩ := on_ok h.n3 h.ga0 h.ga1 h.gb
  exact ⟨h.n3, h.n64, h.C, h.pa0, h.pa1, h.pb, o1, o2, o3, h.sn0, h.sn1⟩
theorem get_rt {r : Rg} (h : Rt r) : Rt (getV r) := by
  unfold getV
  split
  · exact onG_rt h
  · exact h
theorem lrn_rt {r : Rg} (h : Rt r) : Rt (lrn r) := ⟨h.n3, h.n64, h.C, h.pa0, h.pa1, h.pb, h.ga0, h.ga1, h.gb, h.ga0, h.ga1⟩
/-- the mark behind so many words -/
def mk (p k : Nat) : Int × Int := (((k % p : Nat) : Int), (((k / p + 1) % 2 : Nat) : Int))
theorem dm {p : Nat} (hp : 0 < p) (k : Nat) : (k % p + 1 = p ∧ (k + 1) % p = 0 ∧ (k + 1) / p = k / p + 1) ∨ (k % p + 1 < p ∧ (k + 1) % p = k % p + 1 ∧ (k + 1) / p = k / p) := by
  have h1 := Nat.mod_lt k hp
  have h2 := Nat.div_add_mod k p
  by_cases h : k % p + 1 = p
  · left
    have e : k + 1 = p * (k / p + 1) := by rw [Nat.mul_add, Nat.mul_one]; omega
    refine ⟨h, ?_, ?_⟩
    · rw [e]; exact Nat.mul_mod_right _ _
    · rw [e]; exact Nat.mul_div_cancel_left _ hp
  · right
    have hlt : k % p + 1 < p := by omega
    have e : k + 1 = (k % p + 1) + p * (k / p) := by omega
    refine ⟨hlt, ?_, ?_⟩
    · rw [e, Nat.add_mul_mod_self_left, Nat.mod_eq_of_lt hlt]
      try (congr 1; rw [Nat.add_mod, Nat.mul_mod_right]; omega)
    · rw [e, Nat.add_mul_div_left _ _ hp, Nat.div_eq_of_lt hlt, Nat.zero_add]
theorem mk_on {p : Nat} (hp : 2 ≤ p) (k : Nat) : on (p + 1) (mk p k).1 (mk p k).2 = mk p (k + 1) := by
  unfold on mk
  rcases dm (show 0 < p by omega) k with ⟨h1, h2, h3⟩ | ⟨h1, h2, h3⟩
  · rw [if_pos (by simp only; omega)]
    rw [h2, h3]
    simp only
    congr 1
    omega
  · rw [if_neg (by simp only; omega)]
    rw [h2, h3]
    simp only
    congr 1
theorem mk_bit {p k : Nat} : (mk p k).2 = 0 ∨ (mk p k).2 = 1 := by unfold mk; simp only; omega
theorem mk_at {p k : Nat} (hp : 0 < p) : 0 ≤ (mk p k).1 ∧ (mk p k).1 < (p : Int) := by
  have := Nat.mod_lt k hp
  unfold mk; simp only; omega
/-- the places behind the first k of these words -/
def csk (p : Nat) (all : List Int) : Nat → List Ce
  | 0 => List.replicate p cz
  | k + 1 => (csk p all k).set (k % p) (all.getD k 0, (mk p k).2, false)
theorem csk_len (p : Nat) (all : List Int) : ∀ k, (csk p all k).length = p
  | 0 => by simp [csk]
  | k + 1 => by simp [csk, csk_len p all k]
theorem csk_more (p : Nat) (all l : List Int) : ∀ k, k ≤ all.length → csk p (all ++ l) k = csk p all k
  | 0, _ => rfl
  | k + 1, h => by
    rw [csk, csk, csk_more p all l k (by omega)]
    congr 2
    simp only [List.getD_eq_getElem?_getD]
    rw [List.getElem?_append_left (by omega)]
theorem csk_new {p : Nat} {all : List Int} : ∀ {k j : Nat}, k ≤ j → j < p → (csk p all k)[j]? = some cz
  | 0, j, _, h => by simp [csk, h]
  | k + 1, j, h1, h2 => by
    rw [csk, List.getElem?_set_ne (by rw [Nat.mod_eq_of_lt (by omega)]; omega)]
    exact csk_new (by omega) h2
theorem csk_at {p : Nat} {all : List Int} (hp : 0 < p) : ∀ {k i : Nat}, i < k → k ≤ i + p → (csk p all k)[i % p]? = some (all.getD i 0, (mk p i).2, false)
  | 0, i, h, _ => by omega
  | k + 1, i, h1, h2 => by
    rw [csk]
    by_cases h : i = k
    · subst h
      rw [List.getElem?_set_self (by rw [csk_len]; exact Nat.mod_lt _ hp)]
    · rw [List.getElem?_set_ne]
      · exact csk_at hp (by omega) (by omega)
      · intro q
        have q : k % p = i % p := by omega
        have e1 := Nat.div_add_mod k p
        have e2 := Nat.div_add_mod i p
        have hlt : k - i < p := by omega
        have : p ∣ k - i := Nat.dvd_of_mod_eq_zero (Nat.sub_mod_eq_zero_of_mod_eq q)
        have := Nat.le_of_dvd (by omega) this
        omega
def stL (p : Nat) (all : List Int) : List Ce := csk p all all.length ++ [(0, ((all.length / p % 2 : Nat) : Int), true)]
def st (p : Nat) (all : List Int) (got seen : Nat) : Rg := ⟨stL p all, (mk p all.length).1, (mk p all.length).2, (mk p got).1, (mk p got).2, ((seen % p : Nat) : Int)⟩
structure Inv (p : Nat) (all : List Int) (got seen : Nat) : Prop where
  p2 : 2 ≤ p
  p63 : p ≤ 63
  sg : seen ≤ got
  ga : got ≤ all.length
  room : all.length + 1 ≤ seen + p
theorem stL_len (p : Nat) (all : List Int) : (stL p all).length = p + 1 := by simp [stL, csk_len]
theorem csk_ok {p : Nat} {all : List Int} (hp : 0 < p) : ∀ {k j : Nat} {c : Ce}, (csk p all k)[j]? = some c → (c.2.1 = 0 ∨ c.2.1 = 1) ∧ c.2.2 = false
  | 0, j, c, h => by
    rw [csk, List.getElem?_replicate] at h
    split at h
    · injection h with h; subst h; exact ⟨.inl rfl, rfl⟩
    · cases h
  | k + 1, j, c, h => by
    rw [csk, List.getElem?_set] at h
    split at h
    · split at h
      · injection h with h; subst h; exact ⟨mk_bit, rfl⟩
      · cases h
    · exact csk_ok hp h
theorem st_rt {p got seen : Nat} {all : List Int} (h : Inv p all got seen) : Rt (st p all got seen) := by
  have hl := stL_len p all
  have hp : 0 < p := by have := h.p2; omega
  have hn : (st p all got seen).C.length = p + 1 := hl
  have m1 := mk_at (k := all.length) hp
  have m2 := mk_at (k := got) hp
  have m3 := Nat.mod_lt seen hp
  refine ⟨by rw [hn]; have := h.p2; omega, by rw [hn]; have := h.p63; omega, ?_, m1.1, by rw [hn]; show (mk p all.length).1 < _; omega, mk_bit, m2.1, by rw [hn]; show (mk p got).1 < _; omega, mk_bit, by show (0 : Int) ≤ ((seen % p : Nat) : Int); omega, by rw [hn]; show ((seen % p : Nat) : Int) < _; omega⟩
  rw [okC_iff, hn]
  intro j c hc
  rw [Nat.zero_add]
  have hc : (csk p all all.length ++ [(0, ((all.length / p % 2 : Nat) : Int), true)])[j]? = some c := hc
  have hk := csk_len p all all.length
  by_cases hj : j < p
  · rw [List.getElem?_append_left (by omega)] at hc
    obtain ⟨q1, q2⟩ := csk_ok hp hc
    exact ⟨q1, by rw [q2, decide_eq_false (by omega)], .inl (by omega)⟩
  · rw [List.getElem?_append_right (by omega)] at hc
    have hj2 : j - (csk p all all.length).length = 0 := by
      have := (List.getElem?_eq_some_iff.1 hc).1
      simp at this
      omega
    rw [hj2] at hc
    simp at hc
    subst hc
    refine ⟨by simp only; omega, ?_, .inr rfl⟩
    simp only
    rw [decide_eq_true (by omega)]
theorem st_new (p : Nat) : st p [] 0 0 = ⟨List.replicate p cz ++ [(0, 0, true)], 0, 1, 0, 1, 0⟩ := by
  simp [st, stL, csk, mk]
theorem mod_gap {p a b : Nat} (hp : 0 < p) (h1 : a < b) (h2 : b ≤ a + p) : b % p = a % p ↔ b = a + p := by
  constructor
  · intro q
    have : p ∣ b - a := Nat.dvd_of_mod_eq_zero (Nat.sub_mod_eq_zero_of_mod_eq q)
    have := Nat.le_of_dvd (by omega) this
    omega
  · rintro rfl
    exact Nat.add_mod_right a p
theorem st_room {p got seen : Nat} {all : List Int} (h : Inv p all got seen) : putB (st p all got seen) = decide (all.length - seen < p - 1) := by
  have hp := h.p2
  have h1 := h.room
  have h2 := h.sg
  have h3 := h.ga
  unfold putB
  have hn : (st p all got seen).C.length = p + 1 := stL_len p all
  rw [hn]
  show (!((on (p + 1) (mk p all.length).1 (mk p all.length).2).1 == ((seen % p : Nat) : Int))) = _
  rw [mk_on hp]
  have g := mod_gap (p := p) (a := seen) (b := all.length + 1) (by omega) (by omega) (by omega)
  show (!((((all.length + 1) % p : Nat) : Int) == ((seen % p : Nat) : Int))) = _
  by_cases q : all.length + 1 = seen + p
  · rw [g.2 q, decide_eq_false (by omega)]
    simp
  · have : ¬ (all.length + 1) % p = seen % p := fun e => q (g.1 e)
    have q2 : (((all.length + 1) % p : Nat) : Int) ≠ ((seen % p : Nat) : Int) := by omega
    rw [decide_eq_true (by omega), beq_eq_false_iff_ne.2 q2]
    rfl
theorem st_put {p got seen : Nat} {all : List Int} (h : Inv p all got seen) (w : Int) : putV (st p all got seen) w = st p (all ++ [w]) got seen := by
  have hp := h.p2
  have hn : (st p all got seen).C.length = p + 1 := stL_len p all
  have hon : on (st p all got seen).C.length (st p all got seen).pa (st p all got seen).pb = mk p (all.length + 1) := by rw [hn]; exact mk_on hp all.length
  unfold putV putL
  rw [hon, hn]
  show Rg.mk (if (((all.length + 1) % p : Nat) : Int) = 0 then ((stL p all).set ((((all.length % p : Nat) : Int)).toNat) (w, (mk p all.length).2, false)).set (p + 1 - 1) (0, (mk p all.length).2, true) else (stL p all).set ((((all.length % p : Nat) : Int)).toNat) (w, (mk p all.length).2, false)) _ _ _ _ _ = _
  have e1 : (stL p all).set ((((all.length % p : Nat) : Int)).toNat) (w, (mk p all.length).2, false) = csk p (all ++ [w]) (all.length + 1) ++ [(0, ((all.length / p % 2 : Nat) : Int), true)] := by
    rw [Int.toNat_natCast, csk, csk_more p all [w] all.length (Nat.le_refl _)]
    unfold stL
    rw [List.set_append_left _ _ (by rw [csk_len]; exact Nat.mod_lt _ (by omega))]
    congr 3
    simp
  rw [e1]
  unfold st stL
  rw [List.length_append, List.length_singleton]
  have e2 : (if (((all.length + 1) % p : Nat) : Int) = 0 then (csk p (all ++ [w]) (all.length + 1) ++ [(0, ((all.length / p % 2 : Nat) : Int), true)]).set (p + 1 - 1) (0, (mk p all.length).2, true) else csk p (all ++ [w]) (all.length + 1) ++ [(0, ((all.length / p % 2 : Nat) : Int), true)])
      = csk p (all ++ [w]) (all.length + 1) ++ [(0, (((all.length + 1) / p % 2 : Nat) : Int), true)] := by
    rcases dm (show 0 < p by omega) all.length with ⟨h1, h2, h3⟩ | ⟨h1, h2, h3⟩
    · rw [if_pos (by omega), List.set_append_right _ _ (by rw [csk_len]; omega), csk_len, h3]
      simp [mk]
    · rw [if_neg (by omega), h3]
  rw [e2]
  try rfl
theorem st_atG {p got seen : Nat} {all : List Int} (h : Inv p all got seen) : atG (st p all got seen) = (csk p all all.length).getD (got % p) cz := by
  have hp := h.p2
  unfold atG
  show (stL p all).getD ((((got % p : Nat) : Int)).toNat) cz = _
  rw [Int.toNat_natCast, List.getD_eq_getElem?_getD, List.getD_eq_getElem?_getD, stL, List.getElem?_append_left (by rw [csk_len]; exact Nat.mod_lt _ (by omega))]
theorem st_has {p got seen : Nat} {all : List Int} (h : Inv p all got seen) (hg : got < all.length) : atG (st p all got seen) = (all.getD got 0, (mk p got).2, false) := by
  have hp := h.p2
  have h1 := h.room
  have h2 := h.sg
  rw [st_atG h, List.getD_eq_getElem?_getD, csk_at (by omega) hg (by omega)]
  rfl
theorem st_get {p got seen : Nat} {all : List Int} (h : Inv p all got seen) : getB (st p all got seen) = decide (got < all.length) := by
  have hp := h.p2
  have h3 := h.ga
  unfold getB
  show ((atG (st p all got seen)).2.1 == (mk p got).2) = _
  by_cases hg : got < all.length
  · rw [st_has h hg, decide_eq_true hg]
    simp
  · have hg2 : all.length = got := by omega
    rw [decide_eq_false hg, st_atG h, List.getD_eq_getElem?_getD, hg2, beq_eq_false_iff_ne]
    by_cases hlt : got < p
    · rw [Nat.mod_eq_of_lt hlt, csk_new (Nat.le_refl _) hlt]
      simp [mk, cz, Nat.div_eq_of_lt hlt]
    · obtain ⟨i, hi⟩ : ∃ i, got = i + p := ⟨got - p, by omega⟩
      have := csk_at (p := p) (all := all) (k := got) (i := i) (by omega) (by omega) (by omega)
      rw [hi, Nat.add_mod_right, ← hi, this]
      simp only [Option.getD_some, mk]
      rw [hi, Nat.add_div_right _ (by omega)]
      omega
theorem st_getW {p got seen : Nat} {all : List Int} (h : Inv p all got seen) (hg : got < all.length) : getW (st p all got seen) = all.getD got 0 := by
  unfold getW
  rw [st_get h, if_pos (by simpa using hg), st_has h hg]
theorem st_onG {p got seen : Nat} {all : List Int} (h : Inv p all got seen) : onG (st p all got seen) = st p all (got + 1) seen := by
  have hn : (st p all got seen).C.length = p + 1 := stL_len p all
  have hon : on (st p all got seen).C.length (st p all got seen).ga (st p all got seen).gb = mk p (got + 1) := by rw [hn]; exact mk_on h.p2 got
  unfold onG
  rw [hon]
  rfl
theorem st_getV {p got seen : Nat} {all : List Int} (h : Inv p all got seen) : getV (st p all got seen) = st p all (if got < all.length then got + 1 else got) seen := by
  unfold getV
  rw [st_get h]
  by_cases hg : got < all.length
  · rw [if_pos (by simpa using hg), if_pos hg, st_onG h]
  · rw [if_neg (by simpa using hg), if_neg hg]
theorem st_lrn (p got seen : Nat) (all : List Int) : lrn (st p all got seen) = st p all got got := rfl
theorem inv_new {p : Nat} (h1 : 2 ≤ p) (h2 : p ≤ 63) : Inv p [] 0 0 := ⟨h1, h2, Nat.le_refl _, Nat.le_refl _, by simp; omega⟩
theorem inv_put {p got seen : Nat} {all : List Int} (h : Inv p all got seen) (hr : all.length - seen < p - 1) (w : Int) : Inv p (all ++ [w]) got seen := by
  have := h.p2
  have := h.sg
  have := h.ga
  have := h.room
  exact ⟨h.p2, h.p63, h.sg, by rw [List.length_append, List.length_singleton]; omega, by rw [List.length_append, List.length_singleton]; omega⟩
theorem inv_get {p got seen : Nat} {all : List Int} (h : Inv p all got seen) (hg : got < all.length) : Inv p all (got + 1) seen := ⟨h.p2, h.p63, by have := h.sg; omega, hg, h.room⟩
theorem inv_lrn {p got seen : Nat} {all : List Int} (h : Inv p all got seen) : Inv p all got got := ⟨h.p2, h.p63, Nat.le_refl _, h.ga, by have := h.sg; have := h.room; omega⟩
end Go.Proofs.Ythjmcopknkemnaa.ring
