/- crc: what feed, Five, More and Sixteen answer. -/
import Derived.Test.YtepifjimfcnggaaRows
import Derived.Test.YtepifjimfcnggaaCrcM
import Derived.WalkKit
import Derived.Handy
import Derived.Laws.BitsAllLaws
namespace Go.Proofs.Ytepifjimfcnggaa.crc
open Go.RowKit Go.PlainAid Go.Proofs.Ytepifjimfcnggaa.lane

theorem and1_u16 (n : Nat) (h : n < 65536) : bits BinOp.and IntKind.u16 (n : Int) 1 = ((n : Int) % 2) := by
  have := u16_and_nat n 1 h (by decide)
  rw [Nat.and_one_is_mod] at this
  simpa using this
theorem and1_u8 (n : Nat) (h : n < 256) : bits BinOp.and IntKind.u8 (n : Int) 1 = ((n : Int) % 2) := by
  have := u8_and_nat n 1 h (by decide)
  rw [Nat.and_one_is_mod] at this
  simpa using this
theorem xor_u16 (a b : Nat) (c d : Int) (ha : a < 65536) (hb : b < 65536) (hc : c = (a : Int)) (hd : d = (b : Int)) : bits BinOp.xor IntKind.u16 c d = ((a ^^^ b : Nat) : Int) := by
  subst hc hd; exact u16_xor_nat a b ha hb
theorem xor_u8 (a b : Nat) (c d : Int) (ha : a < 256) (hb : b < 256) (hc : c = (a : Int)) (hd : d = (b : Int)) : bits BinOp.xor IntKind.u8 c d = ((a ^^^ b : Nat) : Int) := by
  subst hc hd; exact u8_xor_nat a b ha hb
theorem fd_same (t c r n : Nat) (h : n % 2 = r % 2) : fd t (c + 1) r n = fd t c (r / 2) (n / 2) := by
  rw [fd]
  congr 1
  have e : (r ^^^ n % 2) / 2 = r / 2 := by rw [half_xor, show n % 2 / 2 = 0 by omega, Nat.xor_zero]
  have p := par_xor r (n % 2)
  unfold st
  rw [if_neg (by omega), e]
theorem fd_other (t c r n : Nat) (h : ¬ n % 2 = r % 2) : fd t (c + 1) r n = fd t c (r / 2 ^^^ t) (n / 2) := by
  rw [fd]
  congr 1
  have e : (r ^^^ n % 2) / 2 = r / 2 := by rw [half_xor, show n % 2 / 2 = 0 by omega, Nat.xor_zero]
  have p := par_xor r (n % 2)
  unfold st
  rw [if_pos (by omega), e]
theorem ret_u16 {a b : Nat} (h : a = b) : Ending.returned (.int .u16 (a : Int)) = .returned (.int .u16 (b : Int)) := by rw [h]
theorem ret_u8 {a b : Nat} (h : a = b) : Ending.returned (.int .u8 (a : Int)) = .returned (.int .u8 (b : Int)) := by rw [h]

set_option maxHeartbeats 400000 in
theorem feed16_any (r n c : Nat) (hr : r < 65536) (hn : n < 65536) (hc : c ≤ 64) (w : World) :
    Calls Try.prog 39 #[.int .u16 (r : Int), .int .u16 40961, .int .u16 (n : Int), .int .i64 (c : Int)] w fun e w' => e = .returned (.int .u16 (fd 40961 c r n : Nat)) ∧ w = w' := by
  go_enter Try.func39, Try.ntmps39
  go_wp2
  go_loop [0, 2, 11] (fun rv nv i => ∃ k a b : Nat, k ≤ c ∧ a < 65536 ∧ b < 65536 ∧ i = .int .i64 (k : Int) ∧ rv = .int .u16 (a : Int) ∧ nv = .int .u16 (b : Int) ∧ Hid (fd 40961 (c - k) a b = fd 40961 c r n)) (fun _ _ i => c - (intOf i).toNat)
  case atStart => exact ⟨0, r, n, Nat.zero_le _, hr, hn, rfl, rfl, rfl, rfl⟩
  case round =>
    obtain ⟨k, a, b, hk, ha, hb, rfl, rfl, rfl, HR⟩ := hrel
    by_cases hlt : k < c
    · have e1 := and1_u16 a ha
      have e2 := and1_u16 b hb
      have e3 := xor_u16 (a / 2) 40961 ((a : Int) / 2) 40961 (by omega) (by decide) (by omega) rfl
      by_cases hp : b % 2 = a % 2
      · have hp' : ((b : Int) % 2 != (a : Int) % 2) = false := by simp; omega
        have H2 : Hid (fd 40961 (c - (k + 1)) (a / 2) (b / 2) = fd 40961 c r n) := by
          show _ = _
          rw [← fd_same _ _ _ _ hp, show c - (k + 1) + 1 = c - k by omega]; exact HR.out
        clear hp HR
        go_wp2
        go_round
        case rel => exact ⟨k + 1, a / 2, b / 2, by omega, by omega, by omega, by go_num, by go_num, by go_num, H2⟩
        case measure => simp [intOf]; omega
      · have hp' : ((b : Int) % 2 != (a : Int) % 2) = true := by simp; omega
        have H2 : Hid (fd 40961 (c - (k + 1)) (a / 2 ^^^ 40961) (b / 2) = fd 40961 c r n) := by
          show _ = _
          rw [← fd_other _ _ _ _ hp, show c - (k + 1) + 1 = c - k by omega]; exact HR.out
        have hx : a / 2 ^^^ 40961 < 65536 := xor_lt16 (by omega) (by decide)
        clear hp HR
        go_wp2
        go_round
        case rel => exact ⟨k + 1, a / 2 ^^^ 40961, b / 2, by omega, hx, by omega, by go_num, by go_num, by go_num, H2⟩
        case measure => simp [intOf]; omega
    · obtain rfl : k = c := by omega
      go_wp2
      go_ret
      have h := HR.out
      rw [Nat.sub_self] at h
      exact ⟨ret_u16 h, rfl⟩
set_option maxHeartbeats 400000 in
theorem feed8_any (r n c : Nat) (hr : r < 256) (hn : n < 65536) (hc : c ≤ 64) (w : World) :
    Calls Try.prog 38 #[.int .u8 (r : Int), .int .u8 20, .int .u16 (n : Int), .int .i64 (c : Int)] w fun e w' => e = .returned (.int .u8 (fd 20 c r n : Nat)) ∧ w = w' := by
  go_enter Try.func38, Try.ntmps38
  go_wp2
  go_loop [0, 2, 11] (fun rv nv i => ∃ k a b : Nat, k ≤ c ∧ a < 256 ∧ b < 65536 ∧ i = .int .i64 (k : Int) ∧ rv = .int .u8 (a : Int) ∧ nv = .int .u16 (b : Int) ∧ Hid (fd 20 (c - k) a b = fd 20 c r n)) (fun _ _ i => c - (intOf i).toNat)
  case atStart => exact ⟨0, r, n, Nat.zero_le _, hr, hn, rfl, rfl, rfl, rfl⟩
  case round =>
    obtain ⟨k, a, b, hk, ha, hb, rfl, rfl, rfl, HR⟩ := hrel
    by_cases hlt : k < c
    · have e1 := and1_u8 a ha
      have e2 := and1_u16 b hb
      have e3 := xor_u8 (a / 2) 20 ((a : Int) / 2) 20 (by omega) (by decide) (by omega) rfl
      by_cases hp : b % 2 = a % 2
      · have hp' : ((b : Int) % 2 != (a : Int) % 2) = false := by simp; omega
        have H2 : Hid (fd 20 (c - (k + 1)) (a / 2) (b / 2) = fd 20 c r n) := by
          show _ = _
          rw [← fd_same _ _ _ _ hp, show c - (k + 1) + 1 = c - k by omega]; exact HR.out
        clear hp HR
        go_wp2
        go_round
        case rel => exact ⟨k + 1, a / 2, b / 2, by omega, by omega, by omega, by go_num, by go_num, by go_num, H2⟩
        case measure => simp [intOf]; omega
      · have hp' : ((b : Int) % 2 != (a : Int) % 2) = true := by simp; omega
        have H2 : Hid (fd 20 (c - (k + 1)) (a / 2 ^^^ 20) (b / 2) = fd 20 c r n) := by
          show _ = _
          rw [← fd_other _ _ _ _ hp, show c - (k + 1) + 1 = c - k by omega]; exact HR.out
        have hx : a / 2 ^^^ 20 < 256 := xor_lt8 (by omega) (by decide)
        clear hp HR
        go_wp2
        go_round
        case rel => exact ⟨k + 1, a / 2 ^^^ 20, b / 2, by omega, hx, by omega, by go_num, by go_num, by go_num, H2⟩
        case measure => simp [intOf]; omega
    · obtain rfl : k = c := by omega
      go_wp2
      go_ret
      have h := HR.out
      rw [Nat.sub_self] at h
      exact ⟨ret_u8 h, rfl⟩
set_option maxHeartbeats 400000 in
theorem five_ok (n : Nat) (hn : n < 2048) (w : World) :
    Calls Try.prog 33 #[.int .u16 (n : Int)] w fun e w' => e = .returned (.tuple #[.int .u8 (five n : Nat), .int .i64 0]) ∧ w = w' := by
  have hf : fd 20 11 31 n < 32 := fd_lt (n := 4) (by decide) (by decide)
  have hx := xor_u8 (fd 20 11 31 n) 31 ((fd 20 11 31 n : Nat) : Int) 31 (by omega) (by decide) rfl rfl
  go_enter Try.func33, Try.ntmps33
  go_wp2_with (go_at_call 38; refine (feed8_any 31 n 11 (by decide) (by omega) (by decide) _).mono ?_; rintro e w' ⟨rfl, rfl⟩)
  go_ret2
  exact ⟨rfl, rfl⟩
set_option maxHeartbeats 400000 in
theorem five_no (n : Nat) (hn : 2048 ≤ n) (w : World) :
    Calls Try.prog 33 #[.int .u16 (n : Int)] w fun e w' => e = .returned (.tuple #[.int .u8 0, .int .i64 1]) ∧ w = w' := by
  go_enter Try.func33, Try.ntmps33
  go_wp2
  go_ret2
  exact ⟨rfl, rfl⟩
set_option maxHeartbeats 400000 in
theorem more_any (x : Nat) (s : ByteArray) (hx : x < 65536) (hs : s.size ≤ maxLen) (w : World) :
    Calls Try.prog 34 #[.int .u16 (x : Int), .string s] w fun e w' => e = .returned (.int .u16 (more x (nums s) : Nat)) ∧ w = w' := by
  unfold maxLen at hs
  have hb := get_bt s
  have e0 := xor_u16 x 65535 (x : Int) 65535 hx (by decide) rfl rfl
  have hx0 : x ^^^ 65535 < 65536 := xor_lt16 hx (by decide)
  go_enter Try.func34, Try.ntmps34
  go_wp2
  go_loop [5, 11] (fun rv i => ∃ k a : Nat, k ≤ s.size ∧ a < 65536 ∧ i = .int .i64 (k : Int) ∧ rv = .int .u16 (a : Int) ∧ Hid (mreg a ((nums s).drop k) = mreg (x ^^^ 65535) (nums s))) (fun _ i => s.size - (intOf i).toNat)
  case atStart => exact ⟨0, x ^^^ 65535, Nat.zero_le _, hx0, rfl, rfl, rfl⟩
  case round =>
    clear e0 hx0
    obtain ⟨k, a, hk, ha, rfl, rfl, HR⟩ := hrel
    by_cases hlt : k < s.size
    · have h0 := bt_nonneg s k
      have h1 := bt_le s k
      have HD : Hid (mreg (fd 40961 8 a (bt s k).toNat) ((nums s).drop (k + 1)) = mreg (x ^^^ 65535) (nums s)) := by
        have h := HR.out; rw [drop_nums s k hlt] at h; exact h
      have hf : fd 40961 8 a (bt s k).toNat < 65536 := fd_lt (n := 15) (by decide) ha
      have HC : Hid (∀ w : World, Calls Try.prog 39 #[.int .u16 (a : Int), .int .u16 40961, .int .u16 (bt s k), .int .i64 8] w fun e w' => e = .returned (.int .u16 (fd 40961 8 a (bt s k).toNat : Nat)) ∧ w = w') := by
        intro w
        have h := feed16_any a (bt s k).toNat 8 ha (by omega) (by decide) w
        rw [show (((bt s k).toNat : Nat) : Int) = bt s k by omega] at h
        exact h
      clear HR
      go_wp2_with (go_at_call 39; refine (HC.out _).mono ?_; rintro e w' ⟨rfl, rfl⟩)
      go_round
      case rel => exact ⟨k + 1, fd 40961 8 a (bt s k).toNat, by omega, hf, by go_num, rfl, HD⟩
      case measure => simp [intOf]; omega
    · have e0 := xor_u16 a 65535 (a : Int) 65535 ha (by decide) rfl rfl
      go_wp2
      go_ret
      have h := HR.out
      rw [drop_end s k (by omega)] at h
      exact ⟨ret_u16 (by unfold more; rw [← h]; rfl), rfl⟩
theorem sixteen_any (s : ByteArray) (hs : s.size ≤ maxLen) (w : World) :
    Calls Try.prog 24 #[.string s] w fun e w' => e = .returned (.int .u16 (more 0 (nums s) : Nat)) ∧ w = w' := by
  go_enter Try.func24, Try.ntmps24
  go_wp2_with (go_at_call 34; refine (more_any 0 s (by decide) hs _).mono ?_; rintro e w' ⟨rfl, rfl⟩)
  go_ret
  exact ⟨rfl, rfl⟩
end Go.Proofs.Ytepifjimfcnggaa.crc
