/- CrcParity: the walk. -/
import Derived.Test.YtleffgjbdbclhaaCrcB
import Derived.Below
import Derived.Deep.QuietTactic
import Derived.BigQuiet
import Derived.WalkSmall
namespace Go.Proofs.Ytleffgjbdbclhaa.crcParity
open Go.RowKit Go.PlainAid Go.Proofs.Ytleffgjbdbclhaa.lane Go.Proofs.Ytleffgjbdbclhaa.crc

theorem drop_ext (s : ByteArray) (n k : Nat) (h : k < n) (hn : n ≤ s.size) : (nums (s.extract 0 n)).drop k = bt s k :: (nums (s.extract 0 n)).drop (k + 1) := by
  have hz : (s.extract 0 n).size = n := by rw [ByteArray.size_extract]; omega
  rw [drop_nums _ k (by omega)]
  congr 1
  rw [bt_nums _ k (by omega), bt_nums s k (by omega), nums_extract, List.drop_zero]
  simp [List.getD, h]
theorem ext_len (s : ByteArray) (n : Nat) (hn : n ≤ s.size) : (nums (s.extract 0 n)).length = n := by
  rw [nums_length, ByteArray.size_extract]; omega
theorem parity' (a b : ByteArray) (n : Nat) (ha : n ≤ a.size) (hb : n ≤ b.size) :
    dif (nums (a.extract 0 n)) (nums (b.extract 0 n)) % 2 = pop 64 (more 0 (nums (a.extract 0 n)) ^^^ more 0 (nums (b.extract 0 n))) % 2 :=
  (parity _ _ (nums_byt _) (nums_byt _) (by rw [ext_len a n ha, ext_len b n hb])).symm
set_option linter.unusedVariables false
set_option maxHeartbeats 2000000 in
theorem walk (a0 : ByteArray) (a1 : ByteArray) (w0 : a0.size ≤ maxLen) (w1 : a1.size ≤ maxLen) (hs0 : a0.size ≤ 140737488351232) (hs1 : a1.size ≤ 140737488351232) (w : World) :
    Calls Try.prog 8 #[.string a0, .string a1] w fun e w' => e = .returned (.bool true) ∧ Below w.heap.size w w' := by
  clear w0 w1
  have hb0 := get_bt a0
  have hb1 := get_bt a1
  obtain ⟨n, hn0, hn1, hm⟩ : ∃ n : Nat, n ≤ a0.size ∧ n ≤ a1.size ∧ (if a1.size < a0.size then (a1.size : Int) else (a0.size : Int)) = (n : Int) := by
    by_cases h : a1.size < a0.size
    · exact ⟨a1.size, by omega, by omega, if_pos h⟩
    · exact ⟨a0.size, by omega, by omega, if_neg h⟩
  go_enter Try.func8, Try.ntmps8
  go_wp2_with fail
  go_loopw [6, 14] (fun kv i wr => ∃ k p : Nat, k ≤ n ∧ p ≤ 1 ∧ i = .int .i64 (k : Int) ∧ kv = .int .i64 (p : Int) ∧ Below w.heap.size w wr ∧
      Hid ((p + dif ((nums (a0.extract 0 n)).drop k) ((nums (a1.extract 0 n)).drop k)) % 2 = dif (nums (a0.extract 0 n)) (nums (a1.extract 0 n)) % 2))
    (fun _ i _ => n - (intOf i).toNat)
  case atStart => exact ⟨0, 0, Nat.zero_le _, by omega, rfl, rfl, Below.refl _ _, by show _ = _; rw [Nat.zero_add]; rfl⟩
  case round =>
    clear hm
    obtain ⟨k, p, hk, hp, rfl, rfl, hbel, HR⟩ := hrel
    by_cases hlt : k < n
    · have HD : Hid ((p + (pop 64 ((bt a0 k).toNat ^^^ (bt a1 k).toNat) + dif ((nums (a0.extract 0 n)).drop (k + 1)) ((nums (a1.extract 0 n)).drop (k + 1)))) % 2 = dif (nums (a0.extract 0 n)) (nums (a1.extract 0 n)) % 2) := by
        have h := HR.out
        rw [drop_ext a0 n k hlt hn0, drop_ext a1 n k hlt hn1] at h
        exact h
      have b0 := bt_nonneg a0 k
      have b1 := bt_le a0 k
      have c0 := bt_nonneg a1 k
      have c1 := bt_le a1 k
      have ex := xor_u8 (bt a0 k).toNat (bt a1 k).toNat (bt a0 k) (bt a1 k) (by omega) (by omega) (by omega) (by omega)
      have hx : (bt a0 k).toNat ^^^ (bt a1 k).toNat < 256 := xor_lt8 (by omega) (by omega)
      obtain ⟨x, hxe⟩ : ∃ x, x = (bt a0 k).toNat ^^^ (bt a1 k).toNat := ⟨_, rfl⟩
      rw [← hxe] at ex hx HD
      have hpl := pop_le 64 x
      obtain ⟨q, hq⟩ : ∃ q, q = pop 64 x := ⟨_, rfl⟩
      have HO : Hid (∀ w : World, Calls Try.prog 15 #[.int .u64 (x : Int)] w fun e w' => e = .returned (.int .i64 (q : Nat)) ∧ w' = w) := by
        intro w; rw [hq]; exact ones_any x (by omega) w
      rw [← hq] at hpl HD
      have g0 : (k : Int) < (a0.size : Int) := by omega
      have g1 : (k : Int) < (a1.size : Int) := by omega
      clear HR hxe hq b0 b1 c0 c1
      go_wp2
      go_quiet ((go_at_call 15; exact Calls.quiet_of_same (HO.out _)))
      go_wp2
      go_roundw
      case rel => exact ⟨k + 1, (p + q) % 2, by omega, by omega, by go_num, by go_num, below_drewN hbel _, by show _ = _; have h := HD.out; omega⟩
      case measure => simp [intOf]; omega
    · obtain rfl : k = n := by omega
      have hfin : ((p : Int) == (pop 64 (more 0 (nums (a0.extract 0 k)) ^^^ more 0 (nums (a1.extract 0 k))) : Nat) % 2) = true := by
        have h := HR.out
        rw [List.drop_eq_nil_of_le (by rw [ext_len a0 k hn0]; omega), parity' a0 a1 k hn0 hn1] at h
        simp only [dif, Nat.add_zero] at h
        simp
        omega
      have hA : (a0.extract 0 k).size ≤ maxLen := by rw [ByteArray.size_extract]; unfold maxLen; omega
      have hB : (a1.extract 0 k).size ≤ maxLen := by rw [ByteArray.size_extract]; unfold maxLen; omega
      have hX : more 0 (nums (a0.extract 0 k)) < 65536 := more_lt _ (by decide)
      have hY : more 0 (nums (a1.extract 0 k)) < 65536 := more_lt _ (by decide)
      have HA : Hid (∀ w : World, Calls Try.prog 11 #[.string (a0.extract 0 k)] w fun e w' => e = .returned (.int .u16 (more 0 (nums (a0.extract 0 k)) : Nat)) ∧ w' = w) :=
        fun w => (sixteen_any _ hA w).mono fun e w' ⟨h1, h2⟩ => ⟨h1, h2.symm⟩
      have HB : Hid (∀ w : World, Calls Try.prog 11 #[.string (a1.extract 0 k)] w fun e w' => e = .returned (.int .u16 (more 0 (nums (a1.extract 0 k)) : Nat)) ∧ w' = w) :=
        fun w => (sixteen_any _ hB w).mono fun e w' ⟨h1, h2⟩ => ⟨h1, h2.symm⟩
      have HL : Hid (∀ w : World, Calls Try.prog 14 #[] w fun e w' => e = .returned (.bool true) ∧ w' = w) :=
        fun w => (lives_any w).mono fun e w' ⟨h1, h2⟩ => ⟨h1, h2.symm⟩
      clear hA hB HR
      obtain ⟨X, hXe⟩ : ∃ X, X = more 0 (nums (a0.extract 0 k)) := ⟨_, rfl⟩
      obtain ⟨Y, hYe⟩ : ∃ Y, Y = more 0 (nums (a1.extract 0 k)) := ⟨_, rfl⟩
      rw [← hXe] at hX HA hfin
      rw [← hYe] at hY HB hfin
      have ex := xor_u16 X Y (X : Int) (Y : Int) hX hY rfl rfl
      have hZ := xor_lt16 hX hY
      obtain ⟨Z, hZe⟩ : ∃ Z, Z = X ^^^ Y := ⟨_, rfl⟩
      rw [← hZe] at ex hZ hfin
      have hpl := pop_le 64 Z
      obtain ⟨q, hq⟩ : ∃ q, q = pop 64 Z := ⟨_, rfl⟩
      have HO : Hid (∀ w : World, Calls Try.prog 15 #[.int .u64 (Z : Int)] w fun e w' => e = .returned (.int .i64 (q : Nat)) ∧ w' = w) := by
        intro w; rw [hq]; exact ones_any Z (by omega) w
      rw [← hq] at hpl hfin
      clear hXe hYe hZe hq
      have g0 : (k : Int) ≤ (a0.size : Int) := by omega
      have g1 : (k : Int) ≤ (a1.size : Int) := by omega
      go_wp2_with fail
      go_quiet (first
        | (go_at_call 14; exact Calls.quiet_of_same (HL.out _))
        | (go_at_call 11; exact Calls.quiet_of_same (HA.out _))
        | (go_at_call 11; exact Calls.quiet_of_same (HB.out _))
        | (go_at_call 15; exact Calls.quiet_of_same (HO.out _)))
      go_wp2
      go_ret
      exact ⟨rfl, below_drewN hbel _⟩
end Go.Proofs.Ytleffgjbdbclhaa.crcParity
