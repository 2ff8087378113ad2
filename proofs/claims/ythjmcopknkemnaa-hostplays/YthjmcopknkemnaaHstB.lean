/- host: words of commands and of events: what fits, part, Pack, Unpack, packEvent, unpackEvent, isNoCmd and isNoEvent answer. -/
import Derived.Test.YthjmcopknkemnaaHstA
import Derived.Laws.BitsAllLaws
import Derived.Laws.BitsLemmas
namespace Go.Proofs.Ythjmcopknkemnaa.host
open Go Go.RowKit
open Go.Proofs.Ythjmcopknkemnaa
open Go.Proofs.Ythjmcopknkemnaa.slots (Row row_board row_cmd Chg ag fl Wf)
open Go.Proofs.Ythjmcopknkemnaa.ring (Ces Rcs rgV rgW Rg Ce ceV)
set_option linter.unusedVariables false
set_option linter.unusedSimpArgs false
set_option maxRecDepth 100000

theorem or_hi (x y : Int) (j : Nat) (hj : j ≤ 63) (hx0 : 0 ≤ x) (hx : x < 18446744073709551616) (hm : x % ((2 ^ j : Nat) : Int) = 0) (hy0 : 0 ≤ y) (hy : y < ((2 ^ j : Nat) : Int)) (hs : x + y < 18446744073709551616) : bits .or .u64 x y = x + y := by
  obtain ⟨n, rfl⟩ := Int.eq_ofNat_of_zero_le hx0
  obtain ⟨k, rfl⟩ := Int.eq_ofNat_of_zero_le hy0
  have hk : k < 2 ^ j := by exact_mod_cast hy
  have hn : n % 2 ^ j = 0 := by exact_mod_cast hm
  have hd : n = 2 ^ j * (n / 2 ^ j) := by have := Nat.div_add_mod n (2 ^ j); omega
  have e : n ||| k = n + k := by
    have := Nat.two_pow_add_eq_or_of_lt hk (n / 2 ^ j)
    rw [← hd] at this
    exact this.symm
  have t1 : (BitVec.ofInt 64 (n : Int)).toNat = n := by rw [BitVec.toNat_ofInt]; omega
  have t2 : (BitVec.ofInt 64 (k : Int)).toNat = k := by rw [BitVec.toNat_ofInt]; omega
  show IntKind.u64.wrap (((BitVec.ofInt 64 (n : Int)) ||| (BitVec.ofInt 64 (k : Int))).toNat : Nat) = _
  rw [BitVec.toNat_or, t1, t2, e, IntKind.wrap_u64]
  omega
theorem or_lo (x y : Int) (j : Nat) (hj : j ≤ 63) (hx0 : 0 ≤ x) (hx : x < ((2 ^ j : Nat) : Int)) (hy0 : 0 ≤ y) (hy : y < 18446744073709551616) (hm : y % ((2 ^ j : Nat) : Int) = 0) (hs : x + y < 18446744073709551616) : bits .or .u64 x y = x + y := by
  have := or_hi y x j hj hy0 hy hm hx0 hx (by omega)
  have c : bits .or .u64 x y = bits .or .u64 y x := by
    show IntKind.u64.wrap (((BitVec.ofInt 64 x) ||| (BitVec.ofInt 64 y)).toNat : Nat) = IntKind.u64.wrap (((BitVec.ofInt 64 y) ||| (BitVec.ofInt 64 x)).toNat : Nat)
    rw [BitVec.or_comm]
  rw [c, this]; omega
theorem and_low (x : Int) (j : Nat) (hj : j ≤ 63) (hx0 : 0 ≤ x) (hx : x < 18446744073709551616) : bits .and .u64 x (((2 ^ j : Nat) : Int) - 1) = x % ((2 ^ j : Nat) : Int) := by
  obtain ⟨n, rfl⟩ := Int.eq_ofNat_of_zero_le hx0
  have hp : 0 < 2 ^ j := Nat.pow_pos (by omega)
  have hq : 2 ^ j ≤ 2 ^ 63 := Nat.pow_le_pow_right (by omega) hj
  have t1 : (BitVec.ofInt 64 (n : Int)).toNat = n := by rw [BitVec.toNat_ofInt]; omega
  have t2 : (BitVec.ofInt 64 (((2 ^ j : Nat) : Int) - 1)).toNat = 2 ^ j - 1 := by rw [BitVec.toNat_ofInt]; omega
  have hl := Nat.mod_lt n hp
  show IntKind.u64.wrap (((BitVec.ofInt 64 (n : Int)) &&& (BitVec.ofInt 64 (((2 ^ j : Nat) : Int) - 1))).toNat : Nat) = _
  rw [BitVec.toNat_and, t1, t2, Nat.and_two_pow_sub_one_eq_mod, IntKind.wrap_u64, ← Int.natCast_emod]
  have : n % 2 ^ j < 2 ^ 63 := by omega
  omega
theorem fits4 (n : Int) (w : World) : Calls Try.prog 31 #[.int .i64 n, .int .i64 4] w fun e w' => e = .returned (.bool (decide (0 ≤ n) && decide (n ≤ 15))) ∧ w = w' := by
  cases h : decide (0 ≤ n)
  · go_enter Try.func31, Try.ntmps31
    go_wp2
    go_ret
    exact ⟨rfl, rfl⟩
  · have h0 := of_decide_eq_true h
    have e : (n / 16 == 0) = decide (n ≤ 15) := by
      rw [Bool.eq_iff_iff]
      simp only [beq_iff_eq, decide_eq_true_eq]
      omega
    clear h0
    go_enter Try.func31, Try.ntmps31
    go_wp2
    go_ret
    exact ⟨by first | rfl | (rw [← e]; rfl), rfl⟩
theorem fits5 (n : Int) (w : World) : Calls Try.prog 31 #[.int .i64 n, .int .i64 5] w fun e w' => e = .returned (.bool (decide (0 ≤ n) && decide (n ≤ 31))) ∧ w = w' := by
  cases h : decide (0 ≤ n)
  · go_enter Try.func31, Try.ntmps31
    go_wp2
    go_ret
    exact ⟨rfl, rfl⟩
  · have h0 := of_decide_eq_true h
    have e : (n / 32 == 0) = decide (n ≤ 31) := by
      rw [Bool.eq_iff_iff]
      simp only [beq_iff_eq, decide_eq_true_eq]
      omega
    clear h0
    go_enter Try.func31, Try.ntmps31
    go_wp2
    go_ret
    exact ⟨by first | rfl | (rw [← e]; rfl), rfl⟩
theorem fits32 (n : Int) (w : World) : Calls Try.prog 31 #[.int .i64 n, .int .i64 32] w fun e w' => e = .returned (.bool (decide (0 ≤ n) && decide (n ≤ 4294967295))) ∧ w = w' := by
  cases h : decide (0 ≤ n)
  · go_enter Try.func31, Try.ntmps31
    go_wp2
    go_ret
    exact ⟨rfl, rfl⟩
  · have h0 := of_decide_eq_true h
    have e : (n / 4294967296 == 0) = decide (n ≤ 4294967295) := by
      rw [Bool.eq_iff_iff]
      simp only [beq_iff_eq, decide_eq_true_eq]
      omega
    clear h0
    go_enter Try.func31, Try.ntmps31
    go_wp2
    go_ret
    exact ⟨by first | rfl | (rw [← e]; rfl), rfl⟩
theorem part41_4 (x : Int) (w : World) (h0 : 0 ≤ x) (h1 : x < 18446744073709551616) : Calls Try.prog 34 #[.int .u64 x, .int .i64 41, .int .i64 4] w fun e w' => e = .returned (.int .i64 (x / 2199023255552 % 16)) ∧ Below w.heap.size w w' := by
  obtain ⟨y, hy⟩ : ∃ y, x / 2199023255552 = y := ⟨_, rfl⟩
  have hy0 : 0 ≤ y := by omega
  have hy1 : y < 18446744073709551616 := by omega
  have hb : bits .and .u64 y 15 = y % 16 := and_low y 4 (by omega) hy0 hy1
  obtain ⟨z, hz⟩ : ∃ z, y % 16 = z := ⟨_, rfl⟩
  have hz0 : 0 ≤ z := by omega
  have hz1 : z < 16 := by omega
  rw [hz] at hb
  rw [hy, hz]
  clear hz hy0 hy1 h0 h1
  go_enter Try.func34, Try.ntmps34
  go_wp2_with fail
  go_quiet (fail)
  go_wp2
  go_ret
  exact ⟨by first | rfl | simp, ring.below_drewN (Below.refl _ _) _⟩
theorem part37_4 (x : Int) (w : World) (h0 : 0 ≤ x) (h1 : x < 18446744073709551616) : Calls Try.prog 34 #[.int .u64 x, .int .i64 37, .int .i64 4] w fun e w' => e = .returned (.int .i64 (x / 137438953472 % 16)) ∧ Below w.heap.size w w' := by
  obtain ⟨y, hy⟩ : ∃ y, x / 137438953472 = y := ⟨_, rfl⟩
  have hy0 : 0 ≤ y := by omega
  have hy1 : y < 18446744073709551616 := by omega
  have hb : bits .and .u64 y 15 = y % 16 := and_low y 4 (by omega) hy0 hy1
  obtain ⟨z, hz⟩ : ∃ z, y % 16 = z := ⟨_, rfl⟩
  have hz0 : 0 ≤ z := by omega
  have hz1 : z < 16 := by omega
  rw [hz] at hb
  rw [hy, hz]
  clear hz hy0 hy1 h0 h1
  go_enter Try.func34, Try.ntmps34
  go_wp2_with fail
  go_quiet (fail)
  go_wp2
  go_ret
  exact ⟨by first | rfl | simp, ring.below_drewN (Below.refl _ _) _⟩
theorem part32_5 (x : Int) (w : World) (h0 : 0 ≤ x) (h1 : x < 18446744073709551616) : Calls Try.prog 34 #[.int .u64 x, .int .i64 32, .int .i64 5] w fun e w' => e = .returned (.int .i64 (x / 4294967296 % 32)) ∧ Below w.heap.size w w' := by
  obtain ⟨y, hy⟩ : ∃ y, x / 4294967296 = y := ⟨_, rfl⟩
  have hy0 : 0 ≤ y := by omega
  have hy1 : y < 18446744073709551616 := by omega
  have hb : bits .and .u64 y 31 = y % 32 := and_low y 5 (by omega) hy0 hy1
  obtain ⟨z, hz⟩ : ∃ z, y % 32 = z := ⟨_, rfl⟩
  have hz0 : 0 ≤ z := by omega
  have hz1 : z < 32 := by omega
  rw [hz] at hb
  rw [hy, hz]
  clear hz hy0 hy1 h0 h1
  go_enter Try.func34, Try.ntmps34
  go_wp2_with fail
  go_quiet (fail)
  go_wp2
  go_ret
  exact ⟨by first | rfl | simp, ring.below_drewN (Below.refl _ _) _⟩
theorem part0_32 (x : Int) (w : World) (h0 : 0 ≤ x) (h1 : x < 18446744073709551616) : Calls Try.prog 34 #[.int .u64 x, .int .i64 0, .int .i64 32] w fun e w' => e = .returned (.int .i64 (x / 1 % 4294967296)) ∧ Below w.heap.size w w' := by
  obtain ⟨y, hy⟩ : ∃ y, x / 1 = y := ⟨_, rfl⟩
  have hy0 : 0 ≤ y := by omega
  have hy1 : y < 18446744073709551616 := by omega
  have hb : bits .and .u64 y 4294967295 = y % 4294967296 := and_low y 32 (by omega) hy0 hy1
  obtain ⟨z, hz⟩ : ∃ z, y % 4294967296 = z := ⟨_, rfl⟩
  have hz0 : 0 ≤ z := by omega
  have hz1 : z < 4294967296 := by omega
  rw [hz] at hb
  rw [hy, hz]
  clear hz hy0 hy1 h0 h1
  go_enter Try.func34, Try.ntmps34
  go_wp2_with fail
  go_quiet (fail)
  go_wp2
  go_ret
  exact ⟨by first | rfl | simp, ring.below_drewN (Below.refl _ _) _⟩
theorem part0_8 (x : Int) (w : World) (h0 : 0 ≤ x) (h1 : x < 18446744073709551616) : Calls Try.prog 34 #[.int .u64 x, .int .i64 0, .int .i64 8] w fun e w' => e = .returned (.int .i64 (x / 1 % 256)) ∧ Below w.heap.size w w' := by
  obtain ⟨y, hy⟩ : ∃ y, x / 1 = y := ⟨_, rfl⟩
  have hy0 : 0 ≤ y := by omega
  have hy1 : y < 18446744073709551616 := by omega
  have hb : bits .and .u64 y 255 = y % 256 := and_low y 8 (by omega) hy0 hy1
  obtain ⟨z, hz⟩ : ∃ z, y % 256 = z := ⟨_, rfl⟩
  have hz0 : 0 ≤ z := by omega
  have hz1 : z < 256 := by omega
  rw [hz] at hb
  rw [hy, hz]
  clear hz hy0 hy1 h0 h1
  go_enter Try.func34, Try.ntmps34
  go_wp2_with fail
  go_quiet (fail)
  go_wp2
  go_ret
  exact ⟨by first | rfl | simp, ring.below_drewN (Below.refl _ _) _⟩
theorem part8_8 (x : Int) (w : World) (h0 : 0 ≤ x) (h1 : x < 18446744073709551616) : Calls Try.prog 34 #[.int .u64 x, .int .i64 8, .int .i64 8] w fun e w' => e = .returned (.int .i64 (x / 256 % 256)) ∧ Below w.heap.size w w' := by
  obtain ⟨y, hy⟩ : ∃ y, x / 256 = y := ⟨_, rfl⟩
  have hy0 : 0 ≤ y := by omega
  have hy1 : y < 18446744073709551616 := by omega
  have hb : bits .and .u64 y 255 = y % 256 := and_low y 8 (by omega) hy0 hy1
  obtain ⟨z, hz⟩ : ∃ z, y % 256 = z := ⟨_, rfl⟩
  have hz0 : 0 ≤ z := by omega
  have hz1 : z < 256 := by omega
  rw [hz] at hb
  rw [hy, hz]
  clear hz hy0 hy1 h0 h1
  go_enter Try.func34, Try.ntmps34
  go_wp2_with fail
  go_quiet (fail)
  go_wp2
  go_ret
  exact ⟨by first | rfl | simp, ring.below_drewN (Below.refl _ _) _⟩
theorem part16_8 (x : Int) (w : World) (h0 : 0 ≤ x) (h1 : x < 18446744073709551616) : Calls Try.prog 34 #[.int .u64 x, .int .i64 16, .int .i64 8] w fun e w' => e = .returned (.int .i64 (x / 65536 % 256)) ∧ Below w.heap.size w w' := by
  obtain ⟨y, hy⟩ : ∃ y, x / 65536 = y := ⟨_, rfl⟩
  have hy0 : 0 ≤ y := by omega
  have hy1 : y < 18446744073709551616 := by omega
  have hb : bits .and .u64 y 255 = y % 256 := and_low y 8 (by omega) hy0 hy1
  obtain ⟨z, hz⟩ : ∃ z, y % 256 = z := ⟨_, rfl⟩
  have hz0 : 0 ≤ z := by omega
  have hz1 : z < 256 := by omega
  rw [hz] at hb
  rw [hy, hz]
  clear hz hy0 hy1 h0 h1
  go_enter Try.func34, Try.ntmps34
  go_wp2_with fail
  go_quiet (fail)
  go_wp2
  go_ret
  exact ⟨by first | rfl | simp, ring.below_drewN (Below.refl _ _) _⟩
end Go.Proofs.Ythjmcopknkemnaa.host
