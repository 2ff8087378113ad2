/- crc: how many bits are 1 (plugkeep's ones). -/
import Derived.Test.YtepifjimfcnggabCrcA
namespace Go.Proofs.Ytepifjimfcnggab.crc
open Go.RowKit Go.PlainAid Go.Proofs.Ytepifjimfcnggab.lane

theorem and_u64 (a b : Nat) (c d : Int) (ha : a < 18446744073709551616) (hb : b < 18446744073709551616) (hc : c = (a : Int)) (hd : d = (b : Int)) : bits BinOp.and IntKind.u64 c d = ((a &&& b : Nat) : Int) := by
  subst hc hd; exact u64_and_nat a b ha hb
theorem pop_le (k n : Nat) : pop k n ≤ k := by
  induction k generalizing n with
  | zero => exact Nat.le_refl _
  | succ k ih => have := ih (n / 2); rw [pop]; omega
theorem pop_zero (k : Nat) : pop k 0 = 0 := by
  induction k with
  | zero => rfl
  | succ k ih => rw [pop, Nat.zero_div, ih]
theorem ret_i64n {a b : Nat} (h : a = b) : Ending.returned (.int .i64 (a : Int)) = .returned (.int .i64 (b : Int)) := by rw [h]
set_option maxHeartbeats 400000 in
theorem ones_any (n : Nat) (hn : n < 18446744073709551616) (w : World) :
    Calls Try.prog 9 #[.int .u64 (n : Int)] w fun e w' => e = .returned (.int .i64 (pop 64 n : Nat)) ∧ w' = w := by
  go_enter Try.func9, Try.ntmps9
  go_wp2
  go_loop [0, 3] (fun nv kv => ∃ m k : Nat, m < 18446744073709551616 ∧ k ≤ 64 ∧ nv = .int .u64 (m : Int) ∧ kv = .int .i64 (k : Int) ∧ Hid (k + pop 64 m = pop 64 n)) (fun nv _ => (intOf nv).toNat)
  case atStart => exact ⟨n, 0, hn, by omega, rfl, rfl, Nat.zero_add _⟩
  case round =>
    obtain ⟨m, k, hm, hk, rfl, rfl, HR⟩ := hrel
    by_cases h0 : 0 < m
    · have e1 := and_u64 m (m - 1) (m : Int) ((m : Int) - 1) hm (by omega) rfl (by omega)
      have hp := pop_and 64 m h0 hm
      have hle : m &&& (m - 1) ≤ m - 1 := Nat.and_le_right
      obtain ⟨q, hq⟩ : ∃ q, q = m &&& (m - 1) := ⟨_, rfl⟩
      rw [← hq] at hp hle e1
      have hk2 : k + 1 ≤ 64 := by have h1 := HR.out; have h2 := pop_le 64 n; omega
      have H2 : Hid (k + 1 + pop 64 q = pop 64 n) := by show _ = _; have h := HR.out; omega
      clear hp HR hq
      go_wp2
      go_round
      case rel => exact ⟨q, k + 1, by omega, hk2, rfl, by go_num, H2⟩
      case measure => simp [intOf]; omega
    · obtain rfl : m = 0 := by omega
      go_wp2
      go_ret
      have h := HR.out
      rw [pop_zero, Nat.add_zero] at h
      exact ⟨ret_i64n h, rfl⟩
end Go.Proofs.Ytepifjimfcnggab.crc
