/- crc: the plain mathematics: a register as a number, a text as a number, long division. No program is named here. -/
import Derived.Test.YtdnmjeiljpdmcaaLaneM
namespace Go.Proofs.Ytdnmjeiljpdmcaa.crc
open Go.PlainAid Go.Proofs.Ytdnmjeiljpdmcaa.lane
set_option linter.unusedVariables false
def st (t r : Nat) : Nat := if r % 2 = 1 then (r / 2) ^^^ t else r / 2
def sts (t : Nat) : Nat → Nat → Nat
  | 0, r => r
  | k + 1, r => sts t k (st t r)
theorem half_xor (a b : Nat) : (a ^^^ b) / 2 = a / 2 ^^^ b / 2 := Nat.xor_div_two
theorem par_xor (a b : Nat) : (a ^^^ b) % 2 = (a + b) % 2 := by
  have h := @Nat.xor_mod_two_eq_one a b
  rcases Nat.mod_two_eq_zero_or_one (a ^^^ b) with hc | hc <;> rcases Nat.mod_two_eq_zero_or_one a with ha | ha <;> rcases Nat.mod_two_eq_zero_or_one b with hb | hb <;> simp only [ha, hb, hc] at h <;> simp at h <;> omega
theorem xor_left (a b c : Nat) : a ^^^ (b ^^^ c) = b ^^^ (a ^^^ c) := by rw [← Nat.xor_assoc, Nat.xor_comm a b, Nat.xor_assoc]
theorem xor_cancel (a b : Nat) : a ^^^ (a ^^^ b) = b := by rw [← Nat.xor_assoc, Nat.xor_self, Nat.zero_xor]
theorem xor_inj {a b : Nat} (h : a ^^^ b = 0) : a = b := by
  have := xor_cancel a b; rw [h, Nat.xor_zero] at this; exact this
theorem st_xor (t a b : Nat) : st t (a ^^^ b) = st t a ^^^ st t b := by
  unfold st
  rw [half_xor, par_xor]
  rcases Nat.mod_two_eq_zero_or_one a with ha | ha <;> rcases Nat.mod_two_eq_zero_or_one b with hb | hb
  · rw [if_neg (by omega), if_neg (by omega), if_neg (by omega)]
  · rw [if_pos (by omega), if_neg (by omega), if_pos (by omega), Nat.xor_assoc]
  · rw [if_pos (by omega), if_pos (by omega), if_neg (by omega), Nat.xor_assoc, Nat.xor_assoc, Nat.xor_comm t]
  · rw [if_neg (by omega), if_pos (by omega), if_pos (by omega), Nat.xor_assoc, xor_left t, xor_left (a / 2), Nat.xor_self, Nat.xor_zero, Nat.xor_comm]
theorem sts_xor (t k a b : Nat) : sts t k (a ^^^ b) = sts t k a ^^^ sts t k b := by
  induction k generalizing a b with
  | zero => rfl
  | succ k ih => simp only [sts, st_xor, ih]
theorem sts_add (t j k r : Nat) : sts t (j + k) r = sts t k (sts t j r) := by
  induction j generalizing r with
  | zero => rw [Nat.zero_add]; rfl
  | succ j ih => rw [show j + 1 + k = (j + k) + 1 by omega]; simp only [sts, ih]
theorem st_even (t m : Nat) : st t (2 * m) = m := by unfold st; rw [if_neg (by omega)]; omega
theorem sts_shift (t k m : Nat) : sts t k (2 ^ k * m) = m := by
  induction k generalizing m with
  | zero => simp [sts]
  | succ k ih =>
    rw [show 2 ^ (k + 1) * m = 2 * (2 ^ k * m) by rw [Nat.pow_succ]; rw [Nat.mul_comm (2 ^ k) 2, Nat.mul_assoc]]
    simp only [sts, st_even, ih]
theorem st_lt {t r n : Nat} (ht : t < 2 ^ (n + 1)) (hr : r < 2 ^ (n + 1)) : st t r < 2 ^ (n + 1) := by
  unfold st
  have : r / 2 < 2 ^ (n + 1) := by omega
  split
  · exact Nat.xor_lt_two_pow this ht
  · exact this
theorem sts_lt {t r n : Nat} (ht : t < 2 ^ (n + 1)) (k : Nat) (hr : r < 2 ^ (n + 1)) : sts t k r < 2 ^ (n + 1) := by
  induction k generalizing r with
  | zero => exact hr
  | succ k ih => exact ih (st_lt ht hr)
/-- a number of two parts -/
theorem add_xor (k a b : Nat) (h : a < 2 ^ k) : a + 2 ^ k * b = a ^^^ 2 ^ k * b := by
  apply Nat.eq_of_testBit_eq
  intro i
  rw [Nat.testBit_xor, Nat.add_comm, Nat.testBit_two_pow_mul_add _ h, Nat.testBit_two_pow_mul]
  by_cases hi : i < k
  · simp [hi, Nat.not_le.2 hi]
  · have : a.testBit i = false := Nat.testBit_lt_two_pow (Nat.lt_of_lt_of_le h (Nat.pow_le_pow_right (by omega) (by omega)))
    simp [hi, this, Nat.not_lt.1 hi]
/-- feeding: the lowest bit of n into the register, and so on -/
def fd (t : Nat) : Nat → Nat → Nat → Nat
  | 0, r, _ => r
  | c + 1, r, n => fd t c (st t (r ^^^ (n % 2))) (n / 2)
theorem fd_sts (t c r n : Nat) (h : n < 2 ^ c) : fd t c r n = sts t c (r ^^^ n) := by
  induction c generalizing r n with
  | zero =>
    have : n = 0 := by simpa using h
    subst this; simp [fd, sts]
  | succ c ih =>
    simp only [fd, sts]
    rw [ih _ _ (by rw [Nat.pow_succ] at h; omega)]
    congr 1
    have e : n = (n % 2) ^^^ 2 ^ 1 * (n / 2) := by rw [← add_xor 1 _ _ (by omega)]; omega
    conv => rhs; rw [e, ← Nat.xor_assoc, st_xor, st_even t (n / 2)]

/-- a text as a number, the first byte lowest -/
def txt : List Int → Nat
  | [] => 0
  | b :: r => b.toNat + 256 * txt r
/-- a register of sixteen bits, fed byte by byte -/
def mreg : Nat → List Int → Nat
  | r, [] => r
  | r, b :: l => mreg (fd 40961 8 r b.toNat) l
theorem byt_tail {x : Int} {l : List Int} (h : Byt (x :: l)) : Byt l := fun y hy => h y (by simp [hy])
theorem byt_head {x : Int} {l : List Int} (h : Byt (x :: l)) : x.toNat < 256 := by have := h x (by simp); omega
theorem mreg_sts (r : Nat) (l : List Int) (h : Byt l) : mreg r l = sts 40961 (8 * l.length) (r ^^^ txt l) := by
  induction l generalizing r with
  | nil => simp [mreg, sts, txt]
  | cons b l ih =>
    have hb := byt_head h
    rw [mreg, ih _ (byt_tail h), fd_sts _ _ _ _ (by omega), txt, List.length_cons, show 8 * (l.length + 1) = 8 + 8 * l.length by omega, sts_add]
    congr 1
    have e := add_xor 8 b.toNat (txt l) (by omega)
    rw [show (2 : Nat) ^ 8 = 256 from rfl] at e
    rw [e, ← Nat.xor_assoc, sts_xor _ 8 (r ^^^ b.toNat), show 256 * txt l = 2 ^ 8 * txt l from rfl, sts_shift]
theorem mreg_append (r : Nat) (a b : List Int) : mreg r (a ++ b) = mreg (mreg r a) b := by
  induction a generalizing r with
  | nil => rfl
  | cons x a ih => simp only [List.cons_append, mreg, ih]
theorem fd_lt {t n c r m : Nat} (ht : t < 2 ^ (n + 1)) (hr : r < 2 ^ (n + 1)) : fd t c r m < 2 ^ (n + 1) := by
  induction c generalizing r m with
  | zero => exact hr
  | succ c ih =>
    refine ih (st_lt ht (Nat.xor_lt_two_pow hr ?_))
    have : 2 ^ 1 ≤ 2 ^ (n + 1) := Nat.pow_le_pow_right (by omega) (by omega)
    omega
theorem mreg_lt {r : Nat} (l : List Int) (h : r < 65536) : mreg r l < 65536 := by
  induction l generalizing r with
  | nil => exact h
  | cons b l ih => exact ih (fd_lt (n := 15) (by decide) h)
theorem xor_lt16 {a b : Nat} (ha : a < 65536) (hb : b < 65536) : a ^^^ b < 65536 := Nat.xor_lt_two_pow (n := 16) ha hb
theorem xor_lt8 {a b : Nat} (ha : a < 256) (hb : b < 256) : a ^^^ b < 256 := Nat.xor_lt_two_pow (n := 8) ha hb
/-- what More answers -/
def more (s : Nat) (l : List Int) : Nat := mreg (s ^^^ 65535) l ^^^ 65535
theorem more_lt {s : Nat} (l : List Int) (h : s < 65536) : more s l < 65536 := xor_lt16 (mreg_lt l (xor_lt16 h (by decide))) (by decide)
theorem more_append (s : Nat) (a b : List Int) : more s (a ++ b) = more (more s a) b := by
  unfold more
  rw [mreg_append, Nat.xor_assoc, Nat.xor_self, Nat.xor_zero]
/-- what Five answers -/
def five (n : Nat) : Nat := fd 20 11 31 n ^^^ 31
theorem five_lt (n : Nat) : five n < 32 := Nat.xor_lt_two_pow (n := 5) (fd_lt (n := 4) (by decide) (by decide)) (by decide)
/-- three texts of one length -/
def mix : List Int → List Int → List Int → List Int
  | a :: l, b :: m, c :: n => ((a.toNat ^^^ b.toNat ^^^ c.toNat : Nat) : Int) :: mix l m n
  | _, _, _ => []
theorem mix_more (s : Nat) (a b c : List Int) (ha : Byt a) (hb : Byt b) (hc : Byt c) (h1 : a.length = b.length) (h2 : a.length = c.length) :
    Byt (mix a b c) ∧ (mix a b c).length = a.length ∧ txt (mix a b c) = txt a ^^^ txt b ^^^ txt c := by
  induction a generalizing b c with
  | nil =>
    cases b with
    | nil => cases c with
      | nil => exact ⟨fun x hx => by simp [mix] at hx, rfl, by simp [mix, txt]⟩
      | cons _ _ => simp at h2
    | cons _ _ => simp at h1
  | cons x a ih =>
    cases b with
    | nil => simp at h1
    | cons y b =>
      cases c with
      | nil => simp at h2
      | cons z c =>
        obtain ⟨i1, i2, i3⟩ := ih b c (byt_tail ha) (byt_tail hb) (byt_tail hc) (by simpa using h1) (by simpa using h2)
        have hx := byt_head ha
        have hy := byt_head hb
        have hz := byt_head hc
        have hq := xor_lt8 (xor_lt8 hx hy) hz
        refine ⟨?_, by simp [mix, i2], ?_⟩
        · intro v hv
          simp only [mix, List.mem_cons] at hv
          rcases hv with rfl | hv
          · omega
          · exact i1 v hv
        · simp only [mix, txt, i3, Int.toNat_natCast]
          have e := fun (a b : Nat) (h : a < 256) => add_xor 8 a b h
          simp only [show (2 : Nat) ^ 8 = 256 from rfl] at e
          rw [e _ _ hq, e _ _ hx, e _ _ hy, e _ _ hz]
          have d : ∀ a b : Nat, 256 * (a ^^^ b) = 256 * a ^^^ 256 * b := by
            intro a b
            apply Nat.eq_of_testBit_eq
            intro i
            rw [Nat.testBit_xor, show 256 * (a ^^^ b) = 2 ^ 8 * (a ^^^ b) from rfl, show 256 * a = 2 ^ 8 * a from rfl, show 256 * b = 2 ^ 8 * b from rfl, Nat.testBit_two_pow_mul, Nat.testBit_two_pow_mul, Nat.testBit_two_pow_mul, Nat.testBit_xor]
            cases decide (8 ≤ i) <;> simp
          rw [d, d]
          apply Nat.eq_of_testBit_eq
          intro i
          simp only [Nat.testBit_xor]
          cases x.toNat.testBit i <;> cases y.toNat.testBit i <;> cases z.toNat.testBit i <;> cases (256 * txt a).testBit i <;> cases (256 * txt b).testBit i <;> cases (256 * txt c).testBit i <;> rfl
theorem linear (s : Nat) (a b c : List Int) (ha : Byt a) (hb : Byt b) (hc : Byt c) (h1 : a.length = b.length) (h2 : a.length = c.length) :
    more s (mix a b c) = more s a ^^^ more s b ^^^ more s c := by
  obtain ⟨i1, i2, i3⟩ := mix_more s a b c ha hb hc h1 h2
  unfold more
  rw [mreg_sts _ _ i1, mreg_sts _ _ ha, mreg_sts _ _ hb, mreg_sts _ _ hc, i2, i3, ← h1, ← h2]
  generalize 8 * a.length = n
  simp only [sts_xor]
  generalize sts 40961 n (s) = S
  generalize sts 40961 n (65535) = T
  generalize sts 40961 n (txt a) = A
  generalize sts 40961 n (txt b) = B
  generalize sts 40961 n (txt c) = C
  apply Nat.eq_of_testBit_eq
  intro i
  simp only [Nat.testBit_xor]
  cases S.testBit i <;> cases T.testBit i <;> cases A.testBit i <;> cases B.testBit i <;> cases C.testBit i <;> cases Nat.testBit 65535 i <;> rfl
/-- a text with its own sum behind it -/
theorem rest (l : List Int) (h : Byt l) (n : Nat) (hn : n = more 0 l) : more 0 (l ++ [((n % 256 : Nat) : Int), ((n / 256 : Nat) : Int)]) = 20478 := by
  have hlt : n < 65536 := by rw [hn]; exact more_lt l (by decide)
  rw [more_append, ← hn]
  unfold more
  have hb : Byt [((n % 256 : Nat) : Int), ((n / 256 : Nat) : Int)] := by
    intro x hx
    simp at hx
    rcases hx with rfl | rfl <;> omega
  rw [mreg_sts _ _ hb]
  have e : txt [((n % 256 : Nat) : Int), ((n / 256 : Nat) : Int)] = n := by
    simp only [txt]
    omega
  rw [e, Nat.xor_comm n 65535, Nat.xor_assoc, Nat.xor_self]
  show sts 40961 16 (65535 ^^^ 0) ^^^ 65535 = 20478
  decide
/-- how many bits are 1, of k -/
def pop : Nat → Nat → Nat
  | 0, _ => 0
  | k + 1, n => n % 2 + pop k (n / 2)
theorem pop_xor (k a b : Nat) : pop k (a ^^^ b) % 2 = (pop k a + pop k b) % 2 := by
  induction k generalizing a b with
  | zero => rfl
  | succ k ih =>
    have h1 := ih (a / 2) (b / 2)
    have h2 := par_xor a b
    simp only [pop, half_xor]
    omega
theorem pop_lt (k n : Nat) (h : n < 2 ^ k) : pop (k + 1) n = pop k n := by
  induction k generalizing n with
  | zero => simp at h; subst h; rfl
  | succ k ih =>
    have := ih (n / 2) (by rw [Nat.pow_succ] at h; omega)
    rw [pop, this, ← pop]
theorem pop_and (k n : Nat) (h0 : 0 < n) (h : n < 2 ^ k) : pop k (n &&& (n - 1)) + 1 = pop k n := by
  induction k generalizing n with
  | zero => simp at h; omega
  | succ k ih =>
    rw [pop, pop, Nat.and_div_two]
    have hm : (n &&& (n - 1)) % 2 = 0 := by
      have := @Nat.and_mod_two_eq_one n (n - 1)
      rcases Nat.mod_two_eq_zero_or_one (n &&& (n - 1)) with h | h
      · exact h
      · have := this.1 h; omega
    rw [hm]
    rcases Nat.mod_two_eq_zero_or_one n with e | e
    · have := ih (n / 2) (by omega) (by rw [Nat.pow_succ] at h; omega)
      rw [show (n - 1) / 2 = n / 2 - 1 by omega]
      omega
    · rw [show (n - 1) / 2 = n / 2 by omega, Nat.and_self]
      omega
theorem pop_st (r : Nat) (h : r < 65536) : pop 64 (st 40961 r) % 2 = pop 64 r % 2 := by
  have e : pop 64 r = r % 2 + pop 64 (r / 2) := by
    rw [← pop_lt 64 r (Nat.lt_of_lt_of_le h (by decide))]; rfl
  unfold st
  split
  · have := pop_xor 64 (r / 2) 40961
    have h3 : pop 64 40961 = 3 := by decide
    omega
  · omega
theorem pop_sts (k r : Nat) (h : r < 65536) : pop 64 (sts 40961 k r) % 2 = pop 64 r % 2 := by
  induction k generalizing r with
  | zero => rfl
  | succ k ih => rw [sts, ih _ (st_lt (n := 15) (by decide) h), pop_st r h]
/-- in how many bits two texts differ -/
def dif : List Int → List Int → Nat
  | a :: l, b :: m => pop 64 (a.toNat ^^^ b.toNat) + dif l m
  | _, _ => 0
theorem pop_mreg (r q : Nat) (a b : List Int) (ha : Byt a) (hb : Byt b) (h : a.length = b.length) (hr : r < 65536) (hq : q < 65536) :
    (pop 64 (mreg r a) + pop 64 (mreg q b)) % 2 = (pop 64 r + pop 64 q + dif a b) % 2 := by
  induction a generalizing b r q with
  | nil =>
    cases b with
    | nil => simp only [mreg, dif, Nat.add_zero]
    | cons _ _ => simp at h
  | cons x a ih =>
    cases b with
    | nil => simp at h
    | cons y b =>
      have hx := byt_head ha
      have hy := byt_head hb
      rw [mreg, mreg, ih _ _ b (byt_tail ha) (byt_tail hb) (by simpa using h) (fd_lt (n := 15) (by decide) hr) (fd_lt (n := 15) (by decide) hq)]
      rw [fd_sts _ _ _ _ (by omega), fd_sts _ _ _ _ (by omega)]
      have h1 := pop_sts 8 (r ^^^ x.toNat) (xor_lt16 hr (by omega))
      have h2 := pop_sts 8 (q ^^^ y.toNat) (xor_lt16 hq (by omega))
      have h3 := pop_xor 64 r x.toNat
      have h4 := pop_xor 64 q y.toNat
      have h5 := pop_xor 64 x.toNat y.toNat
      rw [dif]
      omega
theorem parity (a b : List Int) (ha : Byt a) (hb : Byt b) (h : a.length = b.length) : pop 64 (more 0 a ^^^ more 0 b) % 2 = dif a b % 2 := by
  have h1 := pop_xor 64 (more 0 a) (more 0 b)
  have h2 := pop_xor 64 (mreg (0 ^^^ 65535) a) 65535
  have h3 := pop_xor 64 (mreg (0 ^^^ 65535) b) 65535
  have h4 := pop_mreg (0 ^^^ 65535) (0 ^^^ 65535) a b ha hb h (by decide) (by decide)
  unfold more at *
  omega
/-- bits that are turned within sixteen in a row -/
theorem st_ne {r : Nat} (h : r < 65536) (h0 : r ≠ 0) : st 40961 r ≠ 0 := by
  unfold st
  split
  · intro e
    have := xor_inj e
    omega
  · omega
theorem sts_ne (k : Nat) {r : Nat} (h : r < 65536) (h0 : r ≠ 0) : sts 40961 k r ≠ 0 := by
  induction k generalizing r with
  | zero => exact h0
  | succ k ih => exact ih (st_lt (n := 15) (by decide) h) (st_ne h h0)
theorem burst (s t : List Int) (hs : Byt s) (ht : Byt t) (hl : t.length = s.length) (at_ bits : Nat) (ha : at_ ≤ 8 * s.length) (hb : bits < 65536) (h0 : bits ≠ 0)
    (h : txt t = txt s ^^^ 2 ^ at_ * bits) : more 0 t ≠ more 0 s := by
  intro e
  unfold more at e
  have e2 : mreg (0 ^^^ 65535) t = mreg (0 ^^^ 65535) s := by
    have := congrArg (· ^^^ 65535) e
    simpa [Nat.xor_assoc] using this
  rw [mreg_sts _ _ ht, mreg_sts _ _ hs, hl, h] at e2
  simp only [sts_xor] at e2
  have e3 : sts 40961 (8 * s.length) (2 ^ at_ * bits) = 0 := by
    have := congrArg (fun z => (sts 40961 (8 * s.length) 0 ^^^ sts 40961 (8 * s.length) 65535 ^^^ sts 40961 (8 * s.length) (txt s)) ^^^ z) e2
    simp only [Nat.xor_self] at this
    rw [← this]
    generalize sts 40961 (8 * s.length) 0 = A
    generalize sts 40961 (8 * s.length) 65535 = B
    generalize sts 40961 (8 * s.length) (txt s) = C
    generalize sts 40961 (8 * s.length) (2 ^ at_ * bits) = D
    apply Nat.eq_of_testBit_eq
    intro i
    simp only [Nat.testBit_xor]
    cases A.testBit i <;> cases B.testBit i <;> cases C.testBit i <;> cases D.testBit i <;> rfl
  rw [show 8 * s.length = at_ + (8 * s.length - at_) by omega, sts_add, sts_shift] at e3
  exact sts_ne _ hb h0 e3
theorem txt_set (l : List Int) (j i : Nat) (x : Int) (hl : Byt l) (hj : l[j]? = some x) (hi : i < 8) : txt (l.set j ((x.toNat ^^^ 2 ^ i : Nat) : Int)) = txt l ^^^ 2 ^ (8 * j + i) := by
  have hp : ∀ i : Fin 8, 2 ^ i.val < 256 := by decide
  have hp := hp ⟨i, hi⟩
  simp only at hp
  have e := fun (a b : Nat) (h : a < 256) => add_xor 8 a b h
  simp only [show (2 : Nat) ^ 8 = 256 from rfl] at e
  induction l generalizing j with
  | nil => simp at hj
  | cons y l ih =>
    have hy := byt_head hl
    cases j with
    | zero =>
      simp at hj
      subst hj
      simp only [List.set_cons_zero, txt, Int.toNat_natCast]
      rw [e _ _ (xor_lt8 hy hp), e _ _ hy, show 8 * 0 + i = i by omega, Nat.xor_assoc, Nat.xor_assoc, Nat.xor_comm (2 ^ i)]
    | succ j =>
      simp at hj
      simp only [List.set_cons_succ, txt]
      rw [ih j (byt_tail hl) hj, e _ _ hy, e _ _ hy, Nat.xor_assoc]
      congr 1
      apply Nat.eq_of_testBit_eq
      intro q
      rw [Nat.testBit_xor, show 256 * (txt l ^^^ 2 ^ (8 * j + i)) = 2 ^ 8 * (txt l ^^^ 2 ^ (8 * j + i)) from rfl, show 256 * txt l = 2 ^ 8 * txt l from rfl, Nat.testBit_two_pow_mul, Nat.testBit_two_pow_mul, Nat.testBit_xor, Nat.testBit_two_pow, Nat.testBit_two_pow]
      by_cases h8 : 8 ≤ q
      · simp [h8]
        by_cases hq : 8 * j + i = q - 8
        · simp [hq]; omega
        · simp [hq]; omega
      · simp [h8]; omega
theorem low_step (b k : Nat) : b % 2 ^ (k + 1) = if b / 2 ^ k % 2 = 1 then b % 2 ^ k ^^^ 2 ^ k else b % 2 ^ k := by
  have h := Nat.mod_pow_succ (b := 2) (x := b) (k := k)
  rw [h]
  rcases Nat.mod_two_eq_zero_or_one (b / 2 ^ k) with e | e
  · rw [e, if_neg (by omega)]; simp
  · rw [e, if_pos rfl, add_xor k _ _ (Nat.mod_lt _ (Nat.two_pow_pos k))]; simp
/-- two bits of a token -/
theorem five_word (n : Nat) (h : n < 2048) : sts 20 11 (31 ^^^ (n ^^^ 2048 * five n)) = 31 := by
  unfold five
  rw [fd_sts _ _ _ _ (by exact h), ← Nat.xor_assoc, sts_xor _ _ (31 ^^^ n), show 2048 * (sts 20 11 (31 ^^^ n) ^^^ 31) = 2 ^ 11 * (sts 20 11 (31 ^^^ n) ^^^ 31) from rfl, sts_shift, xor_cancel]
theorem five_told (o : Nat) (e : five (o % 2048) = o / 2048) : sts 20 11 (31 ^^^ o) = 31 := by
  have h := five_word (o % 2048) (by omega)
  rw [e] at h
  have := add_xor 11 (o % 2048) (o / 2048) (by omega)
  simp only [show (2 : Nat) ^ 11 = 2048 from rfl] at this
  rw [← this, show o % 2048 + 2048 * (o / 2048) = o by omega] at h
  exact h
theorem turned_told : ∀ i j : Fin 16, sts 20 11 (if i = j then 2 ^ i.val else 2 ^ i.val ^^^ 2 ^ j.val) ≠ 0 := by decide +kernel
theorem two_told (n : Nat) (h : n < 2048) (i j : Fin 16) :
    five (((n ^^^ 2048 * five n) ^^^ (if i = j then 2 ^ i.val else 2 ^ i.val ^^^ 2 ^ j.val)) % 2048) ≠ ((n ^^^ 2048 * five n) ^^^ (if i = j then 2 ^ i.val else 2 ^ i.val ^^^ 2 ^ j.val)) / 2048 := by
  intro e
  have h1 := five_told _ e
  rw [← Nat.xor_assoc, sts_xor, five_word n h] at h1
  have : sts 20 11 (if i = j then 2 ^ i.val else 2 ^ i.val ^^^ 2 ^ j.val) = 0 := by
    have := congrArg (31 ^^^ ·) h1
    simpa [xor_cancel] using this
  exact turned_told i j this
theorem mul_xor (k a b : Nat) : 2 ^ k * (a ^^^ b) = 2 ^ k * a ^^^ 2 ^ k * b := by
  apply Nat.eq_of_testBit_eq
  intro i
  rw [Nat.testBit_xor, Nat.testBit_two_pow_mul, Nat.testBit_two_pow_mul, Nat.testBit_two_pow_mul, Nat.testBit_xor]
  cases decide (k ≤ i) <;> simp
/-- the number of a row of bits, the lowest first -/
def vb : List Bool → Nat
  | [] => 0
  | x :: r => x.toNat + 2 * vb r
theorem tn_lt (x : Bool) : x.toNat < 2 ^ 1 := by cases x <;> decide
theorem vb_cons (x : Bool) (r : List Bool) : vb (x :: r) = x.toNat ^^^ 2 ^ 1 * vb r := by
  rw [← add_xor 1 _ _ (tn_lt x)]; rfl
theorem vb_shift (k : Nat) (x : Bool) (r : List Bool) : 2 ^ k * vb (x :: r) = 2 ^ k * x.toNat ^^^ 2 ^ (k + 1) * vb r := by
  rw [vb_cons, mul_xor, ← Nat.mul_assoc, ← Nat.pow_add]
theorem vb_set (c : List Bool) (j : Nat) (y x : Bool) (h : c[j]? = some y) : vb (c.set j (y != x)) = vb c ^^^ 2 ^ j * x.toNat := by
  induction c generalizing j with
  | nil => simp at h
  | cons z c ih =>
    cases j with
    | zero =>
      simp at h
      subst h
      have e : (z != x).toNat = z.toNat ^^^ x.toNat := by cases z <;> cases x <;> rfl
      rw [List.set_cons_zero, vb_cons, vb_cons, e, Nat.pow_zero, Nat.one_mul, Nat.xor_assoc, Nat.xor_assoc, Nat.xor_comm x.toNat]
    | succ j =>
      simp at h
      rw [List.set_cons_succ, vb_cons, vb_cons, ih j h, mul_xor, ← Nat.mul_assoc, ← Nat.pow_add, Nat.add_comm 1 j, Nat.xor_assoc]
theorem vb_drop (c : List Bool) (i : Nat) : vb c / 2 ^ i = vb (c.drop i) := by
  induction i generalizing c with
  | zero => simp
  | succ i ih =>
    cases c with
    | nil => simp [vb]
    | cons x c =>
      rw [List.drop_succ_cons, ← ih c, Nat.pow_succ, Nat.mul_comm, ← Nat.div_div_eq_div_mul]
      congr 1
      have := tn_lt x
      rw [vb]; omega
theorem vb_at (c : List Bool) (i : Nat) (y : Bool) (h : c[i]? = some y) : vb c / 2 ^ i = y.toNat + 2 * (vb c / 2 ^ (i + 1)) := by
  rw [vb_drop, vb_drop]
  obtain ⟨hi, e⟩ := List.getElem?_eq_some_iff.1 h
  rw [List.drop_eq_getElem_cons hi, e]; rfl
theorem vb_zeros (a : List Bool) (n : Nat) : vb (a ++ List.replicate n false) = vb a := by
  induction a with
  | nil =>
    induction n with
    | zero => rfl
    | succ n ih => rw [List.nil_append] at *; rw [List.replicate_succ]; show 0 + 2 * vb (List.replicate n false) = 0; rw [ih]; rfl
  | cons x a ih => rw [List.cons_append, vb, vb, ih]
theorem vb_append (a b : List Bool) : vb (a ++ b) = vb a + 2 ^ a.length * vb b := by
  induction a with
  | nil => simp [vb]
  | cons x a ih =>
    rw [List.cons_append, vb, vb, ih, List.length_cons, Nat.pow_succ, Nat.mul_comm (2 ^ a.length) 2, Nat.mul_assoc]
    omega
theorem vb_lt (a : List Bool) : vb a < 2 ^ a.length := by
  induction a with
  | nil => simp [vb]
  | cons x a ih => have := tn_lt x; rw [vb, List.length_cons, Nat.pow_succ]; omega
/-- a step of the division, where the bit is 1, and where it is 0 -/
theorem div_one (t n i : Nat) (c c' : List Bool) (hi : i < n) (h : c[i]? = some true) (hc : vb c' = vb c ^^^ 2 ^ (i + 1) * t) :
    sts t (n - (i + 1)) (vb c' / 2 ^ (i + 1)) = sts t (n - i) (vb c / 2 ^ i) := by
  rw [show n - i = (n - (i + 1)) + 1 by omega, sts, hc, Nat.xor_div_two_pow, Nat.mul_div_cancel_left _ (Nat.two_pow_pos _)]
  congr 1
  rw [vb_at c i true h]
  unfold st
  rw [if_pos (by show (1 + 2 * (vb c / 2 ^ (i + 1))) % 2 = 1; omega)]
  congr 1
  show _ = (1 + 2 * (vb c / 2 ^ (i + 1))) / 2
  omega
theorem div_zero (t n i : Nat) (c : List Bool) (hi : i < n) (h : c[i]? = some false) :
    sts t (n - (i + 1)) (vb c / 2 ^ (i + 1)) = sts t (n - i) (vb c / 2 ^ i) := by
  rw [show n - i = (n - (i + 1)) + 1 by omega, sts]
  congr 1
  rw [vb_at c i false h]
  unfold st
  rw [if_neg (by show ¬ (0 + 2 * (vb c / 2 ^ (i + 1))) % 2 = 1; omega)]
  show _ = (0 + 2 * (vb c / 2 ^ (i + 1))) / 2
  omega
/-- a number's bits -/
def bitsB (x : Nat) : Nat → List Bool
  | 0 => []
  | n + 1 => (x % 2 == 1) :: bitsB (x / 2) n
theorem bitsB_length (x n : Nat) : (bitsB x n).length = n := by
  induction n generalizing x with
  | zero => rfl
  | succ n ih => simp [bitsB, ih]
theorem vb_bitsB (x n : Nat) : vb (bitsB x n) = x % 2 ^ n := by
  induction n generalizing x with
  | zero => simp [bitsB, vb, Nat.mod_one]
  | succ n ih =>
    rw [bitsB, vb, ih, Nat.pow_succ, Nat.mul_comm (2 ^ n) 2, Nat.mod_mul]
    congr 1
    rcases Nat.mod_two_eq_zero_or_one x with e | e <;> rw [e] <;> rfl
theorem bitsB_drop (x n k : Nat) (h : k < n) : (bitsB x n).drop k = (x / 2 ^ k % 2 == 1) :: (bitsB x n).drop (k + 1) := by
  induction n generalizing x k with
  | zero => omega
  | succ n ih =>
    cases k with
    | zero => simp [bitsB]
    | succ k =>
      rw [bitsB, List.drop_succ_cons, ih _ _ (by omega), List.drop_succ_cons, Nat.div_div_eq_div_mul, Nat.pow_succ, Nat.mul_comm 2]
/-- all bits turned -/
theorem vb_not (b : List Bool) : vb (b.map (! ·)) = vb b ^^^ (2 ^ b.length - 1) ∧ vb (b.map (! ·)) + vb b = 2 ^ b.length - 1 := by
  induction b with
  | nil => simp [vb]
  | cons x b ih =>
    have hp := Nat.two_pow_pos b.length
    have e : 2 ^ (x :: b).length - 1 = 1 ^^^ 2 ^ 1 * (2 ^ b.length - 1) := by
      rw [← add_xor 1 _ _ (by decide), List.length_cons, Nat.pow_succ]; omega
    refine ⟨?_, ?_⟩
    · rw [List.map_cons, vb_cons, vb_cons, ih.1, e, mul_xor]
      have e2 : (!x).toNat = x.toNat ^^^ 1 := by cases x <;> rfl
      rw [e2]
      generalize x.toNat = A
      generalize 2 ^ 1 * vb b = B
      generalize 2 ^ 1 * (2 ^ b.length - 1) = C
      apply Nat.eq_of_testBit_eq
      intro i
      simp only [Nat.testBit_xor]
      cases A.testBit i <;> cases B.testBit i <;> cases C.testBit i <;> cases Nat.testBit 1 i <;> rfl
    · have := ih.2
      rw [List.map_cons, vb, vb, List.length_cons, Nat.pow_succ]
      cases x <;> simp only [Bool.not_true, Bool.not_false, Bool.toNat_true, Bool.toNat_false] <;> omega
theorem turned16 (s : Nat) (h : s < 65536) : 65535 - s = s ^^^ 65535 := by
  have h1 := vb_not (bitsB s 16)
  rw [vb_bitsB, bitsB_length, Nat.mod_eq_of_lt (by exact h)] at h1
  have e : 2 ^ 16 - 1 = 65535 := rfl
  rw [e] at h1
  omega
/-- the bits of a text -/
def bitsT : List Int → List Bool
  | [] => []
  | b :: r => bitsB b.toNat 8 ++ bitsT r
theorem bitsT_length (l : List Int) : (bitsT l).length = 8 * l.length := by
  induction l with
  | nil => rfl
  | cons b l ih => rw [bitsT, List.length_append, bitsB_length, ih, List.length_cons]; omega
theorem vb_bitsT (l : List Int) (h : Byt l) : vb (bitsT l) = txt l := by
  induction l with
  | nil => rfl
  | cons b l ih =>
    have := byt_head h
    rw [bitsT, vb_append, ih (byt_tail h), vb_bitsB, bitsB_length, txt, Nat.mod_eq_of_lt (by exact this)]
theorem ref_more (s : Nat) (l : List Int) (hl : Byt l) : more s l = sts 40961 (bitsT l).length (vb (bitsT l) ^^^ (s ^^^ 65535)) ^^^ 65535 := by
  unfold more
  rw [mreg_sts _ _ hl, bitsT_length, vb_bitsT l hl, Nat.xor_comm (txt l)]
theorem ref_five (n : Nat) (h : n < 2048) : five n = sts 20 11 (n ^^^ 31) ^^^ 31 := by
  unfold five
  rw [fd_sts _ _ _ _ (by exact h), Nat.xor_comm 31 n]
end Go.Proofs.Ytdnmjeiljpdmcaa.crc
