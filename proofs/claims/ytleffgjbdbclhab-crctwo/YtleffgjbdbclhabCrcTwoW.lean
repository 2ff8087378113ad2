/- CrcTwo: the walk. -/
import Derived.Test.YtleffgjbdbclhabCrcA
import Derived.Below
import Derived.OpenShut
namespace Go.Proofs.Ytleffgjbdbclhab.crcTwo
open Go.RowKit Go.PlainAid Go.Proofs.Ytleffgjbdbclhab.lane Go.Proofs.Ytleffgjbdbclhab.crc

theorem and2047 (n : Nat) (h : n < 65536) : bits BinOp.and IntKind.u16 (n : Int) 2047 = ((n % 2048 : Nat) : Int) := by
  have := u16_and_nat n 2047 h (by decide)
  rw [show (2047 : Nat) = 2 ^ 11 - 1 from rfl, Nat.and_two_pow_sub_one_eq_mod] at this
  exact this

theorem word_or (n f : Nat) (hn : n < 2048) : n + 2048 * f = n ^^^ 2048 * f := add_xor 11 n f hn
theorem or_word (n f : Nat) (hn : n < 2048) (hf : f < 32) : bits BinOp.or IntKind.u16 (n : Int) ((f : Int) * 2048) = ((n ^^^ 2048 * f : Nat) : Int) := by
  have h := u16_or_nat n (2048 * f) (by omega) (by omega)
  rw [show ((2048 * f : Nat) : Int) = (f : Int) * 2048 by omega] at h
  rw [h, ← word_or n f hn, Nat.or_comm, show 2048 * f = 2 ^ 11 * f from rfl, ← Nat.two_pow_add_eq_or_of_lt (by exact hn), Nat.add_comm]
theorem shl_all : ∀ i : Fin 16, (2 ^ i.val < 65536) ∧ IntKind.u16.wrap (2 ^ i.val) = ((2 ^ i.val : Nat) : Int) := by decide +kernel
theorem shl_one (i : Nat) (hi : i ≤ 15) : ∃ p : Nat, p = 2 ^ i ∧ p < 65536 ∧ IntKind.u16.wrap (2 ^ i) = (p : Int) :=
  ⟨_, rfl, (shl_all ⟨i, by omega⟩).1, (shl_all ⟨i, by omega⟩).2⟩
set_option linter.unusedVariables false
set_option maxHeartbeats 2000000 in
theorem walk (a0 : Int) (a1 : Int) (a2 : Int) (w0 : (Lit.int .u16 a0).wf = true) (w1 : (Lit.int .i64 a1).wf = true) (w2 : (Lit.int .i64 a2).wf = true) (w : World) :
    Calls Try.prog 4 #[.int .u16 a0, .int .i64 a1, .int .i64 a2] w fun e w' => e = .returned (.bool true) ∧ Below w.heap.size w w' := by
  have b0 := bounds_u16 w0
  have b1 := bounds_i64 w1
  have b2 := bounds_i64 w2
  clear w0 w1 w2
  obtain ⟨n0, rfl⟩ := Int.eq_ofNat_of_zero_le b0.1
  have hn0 : n0 < 65536 := by omega
  have e1 := and2047 n0 hn0
  obtain ⟨n, hn⟩ : ∃ n, n = n0 % 2048 := ⟨_, rfl⟩
  rw [← hn] at e1
  have hn1 : n < 2048 := by omega
  clear hn b0
  have hf := five_lt n
  by_cases hr : 0 ≤ a1 ∧ a1 ≤ 15 ∧ 0 ≤ a2 ∧ a2 ≤ 15
  · obtain ⟨i, rfl⟩ := Int.eq_ofNat_of_zero_le hr.1
    obtain ⟨j, rfl⟩ := Int.eq_ofNat_of_zero_le hr.2.2.1
    have hi : i ≤ 15 := by omega
    have hj : j ≤ 15 := by omega
    clear hr b1 b2
    obtain ⟨W, hW, hWl, eo⟩ : ∃ W : Nat, W = n ^^^ 2048 * five n ∧ W < 65536 ∧ bits BinOp.or IntKind.u16 (n : Int) (((five n : Nat) : Int) * 2048) = (W : Int) := ⟨_, rfl, by rw [← word_or n (five n) hn1]; omega, or_word n (five n) hn1 hf⟩
    obtain ⟨f, hfe⟩ : ∃ f, f = five n := ⟨_, rfl⟩
    rw [← hfe] at eo hf
    have hfc : (f : Int) ≤ 31 := by omega
    have HF : Hid (f = five n) := hfe
    have HW : Hid (W = n ^^^ 2048 * five n) := hW
    obtain ⟨p, hp, hpl, ep⟩ := shl_one i hi
    obtain ⟨q, hq, hql, eq⟩ := shl_one j hj
    have HP : Hid (p = 2 ^ i) := hp
    have HQ : Hid (q = 2 ^ j) := hq
    clear hW hp hq hfe
    by_cases hij : i = j
    · subst hij
      obtain ⟨O, hO, hOl, ex⟩ : ∃ O : Nat, O = W ^^^ p ∧ O < 65536 ∧ bits BinOp.xor IntKind.u16 (W : Int) (p : Int) = (O : Int) := ⟨_, rfl, xor_lt16 hWl hpl, xor_u16 W p _ _ hWl hpl rfl rfl⟩
      have hne : five (O % 2048) ≠ O / 2048 := by
        have h := two_told n hn1 ⟨i, by omega⟩ ⟨i, by omega⟩
        simp only [if_true] at h
        rw [hO, HW.out, HP.out]; exact h
      clear hO
      have ea := and2047 O hOl
      obtain ⟨m, hm⟩ : ∃ m, m = O % 2048 := ⟨_, rfl⟩
      rw [← hm] at ea hne
      have hml : m < 2048 := by omega
      have hgl := five_lt m
      have hfin : (((five m : Nat) : Int) != (O : Int) / 2048) = true := by simp; omega
      clear hm hne
      go_enter Try.func4, Try.ntmps4
      go_wp2_with fail
      refine (five_ok n hn1 _).mono ?_
      rw [← HF.out]
      rintro e w' ⟨rfl, rfl⟩
      go_wp2_with fail
      refine (lives_any _).mono ?_
      rintro e w' ⟨rfl, rfl⟩
      go_wp2_with fail
      refine (five_ok m hml _).mono ?_
      rintro e w' ⟨rfl, rfl⟩
      go_wp2
      go_ret
      exact ⟨rfl, Below.refl _ _⟩
    · obtain ⟨U, hU, hUl, ex⟩ : ∃ O : Nat, O = W ^^^ p ∧ O < 65536 ∧ bits BinOp.xor IntKind.u16 (W : Int) (p : Int) = (O : Int) := ⟨_, rfl, xor_lt16 hWl hpl, xor_u16 W p _ _ hWl hpl rfl rfl⟩
      obtain ⟨O, hO, hOl, ey⟩ : ∃ O : Nat, O = U ^^^ q ∧ O < 65536 ∧ bits BinOp.xor IntKind.u16 (U : Int) (q : Int) = (O : Int) := ⟨_, rfl, xor_lt16 hUl hql, xor_u16 U q _ _ hUl hql rfl rfl⟩
      have hne : five (O % 2048) ≠ O / 2048 := by
        have h := two_told n hn1 ⟨i, by omega⟩ ⟨j, by omega⟩
        rw [if_neg (by simpa using hij), ← Nat.xor_assoc] at h
        rw [hO, hU, HW.out, HP.out, HQ.out]; exact h
      clear hO hU
      have ea := and2047 O hOl
      obtain ⟨m, hm⟩ : ∃ m, m = O % 2048 := ⟨_, rfl⟩
      rw [← hm] at ea hne
      have hml : m < 2048 := by omega
      have hgl := five_lt m
      have hfin : (((five m : Nat) : Int) != (O : Int) / 2048) = true := by simp; omega
      have hij' : ((i : Int) != (j : Int)) = true := by simp; omega
      clear hm hne hij
      go_enter Try.func4, Try.ntmps4
      go_wp2_with fail
      refine (five_ok n hn1 _).mono ?_
      rw [← HF.out]
      rintro e w' ⟨rfl, rfl⟩
      go_wp2_with fail
      refine (lives_any _).mono ?_
      rintro e w' ⟨rfl, rfl⟩
      go_wp2_with fail
      refine (five_ok m hml _).mono ?_
      rintro e w' ⟨rfl, rfl⟩
      go_wp2
      go_ret
      exact ⟨rfl, Below.refl _ _⟩
  · go_enter Try.func4, Try.ntmps4
    go_wp2_with (first
      | (go_at_call 5; refine (lives_any _).mono ?_; rintro e w' ⟨rfl, rfl⟩)
      | (go_at_call 7; refine (five_ok n hn1 _).mono ?_; rintro e w' ⟨rfl, rfl⟩))
    all_goals go_ret
    all_goals exact ⟨rfl, Below.refl _ _⟩
end Go.Proofs.Ytleffgjbdbclhab.crcTwo
