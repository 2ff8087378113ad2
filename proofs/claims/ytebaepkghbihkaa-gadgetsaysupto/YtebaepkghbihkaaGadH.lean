/- gadget: bits: what haltOf answers, and what is put into a set of bits, and taken out. -/
import Derived.Test.YtebaepkghbihkaaSetG
import Derived.Laws.BitsAllLaws
import Derived.Laws.BitsLemmas
namespace Go.Proofs.Ytebaepkghbihkaa.gadget
open Go.RowKit Go.PlainAid Go.Proofs.Ytebaepkghbihkaa.lane
set_option linter.unusedVariables false
set_option linter.unusedSimpArgs false

def had (h : Int) (n : Nat) : Bool := h / 2 ^ n % 2 == 1
def hOn (h : Int) (n : Nat) : Int := if had h n = true then h else h + 2 ^ n
def hOff (h : Int) (n : Nat) : Int := if had h n = true then h - 2 ^ n else h
theorem pow_le32 : ∀ j : Fin 32, (1 : Int) ≤ 2 ^ j.val ∧ (2 : Int) ^ j.val ≤ 2147483648 := by decide
theorem pow_pos (n : Nat) : (0 : Int) < 2 ^ n := by
  have := Nat.pow_pos (n := n) (show 0 < 2 by omega)
  have e : ((2 ^ n : Nat) : Int) = 2 ^ n := by simp
  omega
theorem had_nat (n k : Nat) : had (n : Int) k = decide (n / 2 ^ k % 2 = 1) := by
  unfold had
  have e : ((2 ^ k : Nat) : Int) = 2 ^ k := by simp
  rw [← e, Bool.eq_iff_iff, beq_iff_eq, decide_eq_true_eq, ← Int.natCast_ediv]
  omega
theorem or_one (q : Nat) : (q ||| 1) / 2 = q / 2 ∧ (q ||| 1) % 2 = 1 := by
  have e1 := Nat.or_div_two_pow (a := q) (b := 1) (n := 1)
  have e2 := Nat.or_mod_two_pow (a := q) (b := 1) (n := 1)
  simp at e1 e2
  refine ⟨e1, ?_⟩
  rw [e2]
  rcases Nat.mod_two_eq_zero_or_one q with h | h <;> rw [h] <;> rfl
/-- a bit is put in -/
theorem nat_or (n k : Nat) : (n ||| 2 ^ k) = if n / 2 ^ k % 2 = 1 then n else n + 2 ^ k := by
  have hP : 0 < 2 ^ k := Nat.pow_pos (by omega)
  have e1 := Nat.or_div_two_pow (a := n) (b := 2 ^ k) (n := k)
  have e2 := Nat.or_mod_two_pow (a := n) (b := 2 ^ k) (n := k)
  rw [Nat.div_self hP] at e1
  rw [Nat.mod_self, Nat.or_zero] at e2
  obtain ⟨o1, o2⟩ := or_one (n / 2 ^ k)
  rw [← e1] at o1 o2
  have d1 := Nat.div_add_mod n (2 ^ k)
  have d2 := Nat.div_add_mod (n ||| 2 ^ k) (2 ^ k)
  rw [e2] at d2
  generalize (n ||| 2 ^ k) / 2 ^ k = Q at *
  generalize n / 2 ^ k = q at *
  by_cases h : q % 2 = 1
  · have : Q = q := by omega
    rw [if_pos h, ← d2, this, d1]
  · have : Q = q + 1 := by omega
    rw [if_neg h, ← d2, this, Nat.mul_add, Nat.mul_one]
    omega
theorem mask_parts : ∀ k : Fin 32, (18446744073709551615 - 2 ^ k.val) % 2 ^ k.val = 2 ^ k.val - 1 ∧ (18446744073709551615 - 2 ^ k.val) / 2 ^ k.val % 2 = 0 ∧ (18446744073709551615 - 2 ^ k.val) / 2 ^ k.val / 2 = 2 ^ (63 - k.val) - 1 ∧ (~~~ BitVec.ofInt 64 (2 ^ k.val)).toNat = 18446744073709551615 - 2 ^ k.val ∧ (BitVec.ofInt 64 (2 ^ k.val)).toNat = 2 ^ k.val ∧ 4294967296 ≤ 2 ^ (63 - k.val) * 2 := by decide +kernel
/-- a bit is taken out -/
theorem nat_not (n k : Nat) (hk : k < 32) (hn : n < 4294967296) : (n &&& (18446744073709551615 - 2 ^ k)) = if n / 2 ^ k % 2 = 1 then n - 2 ^ k else n := by
  obtain ⟨m1, m2, m3, _, _, m6⟩ := mask_parts ⟨k, hk⟩
  simp only at m1 m2 m3 m6
  generalize 18446744073709551615 - 2 ^ k = M at *
  have hP : 0 < 2 ^ k := Nat.pow_pos (by omega)
  have e1 := Nat.and_div_two_pow (a := n) (b := M) (n := k)
  have e2 := Nat.and_mod_two_pow (a := n) (b := M) (n := k)
  have e3 := Nat.and_div_two_pow (a := n / 2 ^ k) (b := M / 2 ^ k) (n := 1)
  have e4 := Nat.and_mod_two_pow (a := n / 2 ^ k) (b := M / 2 ^ k) (n := 1)
  simp only [Nat.pow_one] at e3 e4
  rw [m1, Nat.and_two_pow_sub_one_eq_mod, Nat.mod_mod] at e2
  rw [m2, Nat.and_zero] at e4
  have hq : n / 2 ^ k / 2 < 2 ^ (63 - k) := by
    have : n / 2 ^ k ≤ n := Nat.div_le_self _ _
    omega
  rw [m3, Nat.and_two_pow_sub_one_eq_mod, Nat.mod_eq_of_lt hq] at e3
  rw [← e1] at e3 e4
  have d1 := Nat.div_add_mod n (2 ^ k)
  have d2 := Nat.div_add_mod (n &&& M) (2 ^ k)
  rw [e2] at d2
  generalize (n &&& M) / 2 ^ k = Q at *
  generalize n / 2 ^ k = q at *
  by_cases h : q % 2 = 1
  · have : q = Q + 1 := by omega
    rw [if_pos h, ← d2]
    rw [this, Nat.mul_add, Nat.mul_one] at d1
    omega
  · have : Q = q := by omega
    rw [if_neg h, ← d2, this, d1]
theorem or_i64 (h : Int) (k : Nat) (hk : k < 32) (h0 : 0 ≤ h) (h1 : h ≤ 4294967295) : bits .or .i64 h (2 ^ k) = hOn h k := by
  obtain ⟨n, rfl⟩ : ∃ n : Nat, h = (n : Int) := ⟨h.toNat, by omega⟩
  have hm := (mask_parts ⟨k, hk⟩).2.2.2.2.1
  simp only at hm
  show IntKind.i64.wrap ((BitVec.ofInt 64 (n : Int) ||| BitVec.ofInt 64 (2 ^ k)).toNat : Int) = _
  have en : (BitVec.ofInt 64 (n : Int)).toNat = n := by rw [BitVec.toNat_ofInt]; omega
  rw [BitVec.toNat_or, hm, en, nat_or]
  unfold hOn
  rw [had_nat, IntKind.wrap_i64]
  have e : ((2 ^ k : Nat) : Int) = 2 ^ k := by simp
  have hp := pow_le32 ⟨k, hk⟩
  simp only at hp
  by_cases c : n / 2 ^ k % 2 = 1
  · rw [if_pos c, if_pos (by simpa using c)]; omega
  · rw [if_neg c, if_neg (by simpa using c), ← e]; omega
theorem not_i64 (h : Int) (k : Nat) (hk : k < 32) (h0 : 0 ≤ h) (h1 : h ≤ 4294967295) : bits .andNot .i64 h (2 ^ k) = hOff h k := by
  obtain ⟨n, rfl⟩ : ∃ n : Nat, h = (n : Int) := ⟨h.toNat, by omega⟩
  have hm := (mask_parts ⟨k, hk⟩).2.2.2.1
  simp only at hm
  show IntKind.i64.wrap ((BitVec.ofInt 64 (n : Int) &&& ~~~ BitVec.ofInt 64 (2 ^ k)).toNat : Int) = _
  have en : (BitVec.ofInt 64 (n : Int)).toNat = n := by rw [BitVec.toNat_ofInt]; omega
  rw [BitVec.toNat_and, hm, en, nat_not n k hk (by omega)]
  unfold hOff
  rw [had_nat, IntKind.wrap_i64]
  have e : ((2 ^ k : Nat) : Int) = 2 ^ k := by simp
  have hp := pow_le32 ⟨k, hk⟩
  simp only at hp
  by_cases c : n / 2 ^ k % 2 = 1
  · rw [if_pos c, if_pos (by simpa using c), ← e]
    have : 2 ^ k ≤ n := by
      rcases Nat.lt_or_ge n (2 ^ k) with q | q
      · rw [Nat.div_eq_of_lt q] at c; omega
      · exact q
    omega
  · rw [if_neg c, if_neg (by simpa using c)]; omega
set_option maxRecDepth 100000 in
theorem haltOf_out (k : Nat) (hk : k < 16) (w : World) : Calls Try.prog 88 #[.int .i64 (k : Int)] w fun e w' => e = .returned (.int .i64 (2 ^ k)) ∧ w = w' := by
  have hp := pow_le32 ⟨k, by omega⟩
  simp only at hp
  go_enter Try.func88, Try.ntmps88
  go_wp2
  go_ret
  exact ⟨rfl, rfl⟩
set_option maxRecDepth 100000 in
theorem haltOf_in (k : Nat) (hk : k < 16) (w : World) : Calls Try.prog 88 #[.int .i64 (128 + (k : Int))] w fun e w' => e = .returned (.int .i64 (2 ^ (16 + k))) ∧ w = w' := by
  have hp := pow_le32 ⟨16 + k, by omega⟩
  simp only at hp
  have e1 : (16 : Int) + (128 + (k : Int)) - 128 = ((16 + k : Nat) : Int) := by omega
  go_enter Try.func88, Try.ntmps88
  go_wp2
  go_ret
  exact ⟨rfl, rfl⟩
end Go.Proofs.Ytebaepkghbihkaa.gadget
