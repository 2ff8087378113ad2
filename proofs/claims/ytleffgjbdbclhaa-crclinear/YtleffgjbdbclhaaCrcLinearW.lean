/- CrcLinear: the walk. -/
import Derived.Test.YtleffgjbdbclhaaCrcA
import Derived.Test.YtleffgjbdbclhaaOwnB
import Derived.Deep.QuietTactic
import Derived.BigQuiet
import Derived.Deep.RegionHeld3
import Derived.Laws.Cover1
namespace Go.Proofs.Ytleffgjbdbclhaa.crcLinear
open Go.RowKit Go.PlainAid Go.Proofs.Ytleffgjbdbclhaa.lane Go.Proofs.Ytleffgjbdbclhaa.crc

theorem drop_ext (s : ByteArray) (n k : Nat) (h : k < n) (hn : n ≤ s.size) : (nums (s.extract 0 n)).drop k = bt s k :: (nums (s.extract 0 n)).drop (k + 1) := by
  have hz : (s.extract 0 n).size = n := by rw [ByteArray.size_extract]; omega
  rw [drop_nums _ k (by omega)]
  congr 1
  rw [bt_nums _ k (by omega), bt_nums s k (by omega), nums_extract, List.drop_zero]
  simp [List.getD, h]
theorem ext_len (s : ByteArray) (n : Nat) (hn : n ≤ s.size) : (nums (s.extract 0 n)).length = n := by
  rw [nums_length, ByteArray.size_extract]; omega
theorem the_min (a b : Nat) : ∃ n : Nat, n ≤ a ∧ n ≤ b ∧ (if b < a then (b : Int) else (a : Int)) = (n : Int) := by
  by_cases h : b < a
  · exact ⟨b, by omega, by omega, if_pos h⟩
  · exact ⟨a, by omega, by omega, if_neg h⟩

set_option linter.unusedVariables false
set_option maxRecDepth 100000 in
set_option maxHeartbeats 2000000 in
theorem walk (a0 : ByteArray) (a1 : ByteArray) (a2 : ByteArray) (w0 : a0.size ≤ maxLen) (w1 : a1.size ≤ maxLen) (w2 : a2.size ≤ maxLen) (hs0 : a0.size ≤ 140737488351232) (hs1 : a1.size ≤ 140737488351232) (hs2 : a2.size ≤ 140737488351232) (w : World) :
    Calls Try.prog 6 #[.string a0, .string a1, .string a2] w fun e w' => e = .returned (.bool true) ∧ Below w.heap.size w w' := by
  clear w0 w1 w2
  have hb0 := get_bt a0
  have hb1 := get_bt a1
  have hb2 := get_bt a2
  obtain ⟨i0, hi, hz0, hz1, hz2⟩ := info_parts infoB
  obtain ⟨m, hm0, hm1, hm⟩ := the_min a0.size a1.size
  obtain ⟨n, hnm, hn2, hn⟩ := the_min m a2.size
  have hn0 : n ≤ a0.size := by omega
  have hn1 : n ≤ a1.size := by omega
  go_enter Try.func6, Try.ntmps6
  go_wp2_with fail
  clear hm hn hm0 hm1 hnm
  go_loopw [8, 18] (fun v i wr => ∃ (k : Nat) (acc : List Int), k ≤ n ∧ acc.length = k ∧ i = .int .i64 (k : Int) ∧ Bys wr w.heap.size v acc ∧ Below w.heap.size w wr ∧
      Hid (acc ++ mix ((nums (a0.extract 0 n)).drop k) ((nums (a1.extract 0 n)).drop k) ((nums (a2.extract 0 n)).drop k) = mix (nums (a0.extract 0 n)) (nums (a1.extract 0 n)) (nums (a2.extract 0 n))))
    (fun _ i _ => n - (intOf i).toNat)
  case atStart => exact ⟨0, [], Nat.zero_le _, rfl, rfl, Bys.nil _ _, Below.refl _ _, rfl⟩
  case round =>
    obtain ⟨k, acc, hk, hl, rfl, hown, hbel, HR⟩ := hrel
    have hsz := hbel.size
    by_cases hlt : k < n
    · have b0 := bt_nonneg a0 k
      have b1 := bt_le a0 k
      have c0 := bt_nonneg a1 k
      have c1 := bt_le a1 k
      have d0 := bt_nonneg a2 k
      have d1 := bt_le a2 k
      have hx := xor_lt8 (show (bt a0 k).toNat < 256 by omega) (show (bt a1 k).toNat < 256 by omega)
      have ex := xor_u8 (bt a0 k).toNat (bt a1 k).toNat (bt a0 k) (bt a1 k) (by omega) (by omega) (by omega) (by omega)
      have ey := xor_u8 ((bt a0 k).toNat ^^^ (bt a1 k).toNat) (bt a2 k).toNat (((bt a0 k).toNat ^^^ (bt a1 k).toNat : Nat) : Int) (bt a2 k) hx (by omega) rfl (by omega)
      have HD : Hid ((acc ++ [(((bt a0 k).toNat ^^^ (bt a1 k).toNat ^^^ (bt a2 k).toNat : Nat) : Int)]) ++ mix ((nums (a0.extract 0 n)).drop (k + 1)) ((nums (a1.extract 0 n)).drop (k + 1)) ((nums (a2.extract 0 n)).drop (k + 1)) = mix (nums (a0.extract 0 n)) (nums (a1.extract 0 n)) (nums (a2.extract 0 n))) := by
        have h := HR.out
        rw [drop_ext a0 n k hlt hn0, drop_ext a1 n k hlt hn1, drop_ext a2 n k hlt hn2] at h
        show _ = _
        rw [← h]
        simp [mix]
      obtain ⟨x, hxe⟩ : ∃ x, x = (bt a0 k).toNat ^^^ (bt a1 k).toNat := ⟨_, rfl⟩
      rw [← hxe] at ex ey hx HD
      obtain ⟨y, hye⟩ : ∃ y, y = x ^^^ (bt a2 k).toNat := ⟨_, rfl⟩
      rw [← hye] at ey HD
      have g0 : (k : Int) < (a0.size : Int) := by omega
      have g1 : (k : Int) < (a1.size : Int) := by omega
      have g2 : (k : Int) < (a2.size : Int) := by omega
      have gk : (0 : Int) ≤ (k : Int) := by omega
      have HO : Hid (Bys wr w.heap.size u8 acc) := hown
      clear HR hxe hye b0 b1 c0 c1 d0 d1 hx hown
      subst hl
      go_wp2_with fail
      go_region_held3 (fun w' => True) (trivial)
        ((refine step_append_lies _ (by rfl) _ _ _ (by rfl) w.heap.size 5 i0 _ 1 1 Try.underlying32 hi hz0 hz1 hz2 rfl (by omega) u8 acc.length (acc.map (Value.int .u8)) (by rfl) ((World.ownsRow.alloc HO.out _).drew)
            ⟨wr.heap.size, 0, none⟩ 1 1 [.int .u8 (y : Int)] (by rfl) (by rfl) (World.news_of_block (cs := #[.int .u8 (y : Int)]) (t := 5) (fr := (0, 0)) (heap_alloc_new wr _)) (by simp [Value.oneCell'])
            (by omega) (by unfold maxLen; omega) (by omega) (by simp; omega) (wr.heap.size + 1) (by simp) ?_; intro g cap w1 hown1 hgrow hat hgl))
      all_goals
        go_wp2
        go_roundw
        case rel => exact ⟨acc.length + 1, acc ++ [(y : Int)], by omega, by simp, by go_num, Bys.push hown1, ((hbel.alloc hsz _).drew).grown hgrow (by simp; omega) HO.out.block, HD⟩
        case measure => simp [intOf]; omega
    · obtain rfl : k = n := by omega
      have hacc : acc = mix (nums (a0.extract 0 k)) (nums (a1.extract 0 k)) (nums (a2.extract 0 k)) := by
        have h := HR.out
        rw [List.drop_eq_nil_of_le (by rw [ext_len a0 k hn0]; omega)] at h
        simpa [mix] using h
      have l0 := ext_len a0 k hn0
      have l1 := ext_len a1 k hn1
      have l2 := ext_len a2 k hn2
      have hlin : more 0 (nums (strOfNums acc)) = more 0 (nums (a0.extract 0 k)) ^^^ more 0 (nums (a1.extract 0 k)) ^^^ more 0 (nums (a2.extract 0 k)) := by
        have hm := mix_more 0 _ _ _ (nums_byt (a0.extract 0 k)) (nums_byt (a1.extract 0 k)) (nums_byt (a2.extract 0 k)) (by omega) (by omega)
        rw [← hacc] at hm
        rw [nums_str acc hm.1, hacc]
        exact linear 0 _ _ _ (nums_byt _) (nums_byt _) (nums_byt _) (by omega) (by omega)
      have hS : (strOfNums acc).size ≤ maxLen := by rw [str_size, hl]; unfold maxLen; omega
      have hA : (a0.extract 0 k).size ≤ maxLen := by rw [ByteArray.size_extract]; unfold maxLen; omega
      have hB : (a1.extract 0 k).size ≤ maxLen := by rw [ByteArray.size_extract]; unfold maxLen; omega
      have hC : (a2.extract 0 k).size ≤ maxLen := by rw [ByteArray.size_extract]; unfold maxLen; omega
      have hX : more 0 (nums (a0.extract 0 k)) < 65536 := more_lt _ (by decide)
      have hY : more 0 (nums (a1.extract 0 k)) < 65536 := more_lt _ (by decide)
      have hZ : more 0 (nums (a2.extract 0 k)) < 65536 := more_lt _ (by decide)
      have HA : Hid (∀ w : World, Calls Try.prog 11 #[.string (a0.extract 0 k)] w fun e w' => e = .returned (.int .u16 (more 0 (nums (a0.extract 0 k)) : Nat)) ∧ w' = w) :=
        fun w => (sixteen_any _ hA w).mono fun e w' ⟨h1, h2⟩ => ⟨h1, h2.symm⟩
      have HB : Hid (∀ w : World, Calls Try.prog 11 #[.string (a1.extract 0 k)] w fun e w' => e = .returned (.int .u16 (more 0 (nums (a1.extract 0 k)) : Nat)) ∧ w' = w) :=
        fun w => (sixteen_any _ hB w).mono fun e w' ⟨h1, h2⟩ => ⟨h1, h2.symm⟩
      have HC : Hid (∀ w : World, Calls Try.prog 11 #[.string (a2.extract 0 k)] w fun e w' => e = .returned (.int .u16 (more 0 (nums (a2.extract 0 k)) : Nat)) ∧ w' = w) :=
        fun w => (sixteen_any _ hC w).mono fun e w' ⟨h1, h2⟩ => ⟨h1, h2.symm⟩
      have HS : Hid (∀ w : World, Calls Try.prog 11 #[.string (strOfNums acc)] w fun e w' => e = .returned (.int .u16 (more 0 (nums (a0.extract 0 k)) ^^^ more 0 (nums (a1.extract 0 k)) ^^^ more 0 (nums (a2.extract 0 k)) : Nat)) ∧ w' = w) :=
        fun w => (sixteen_any _ hS w).mono fun e w' ⟨h1, h2⟩ => ⟨by rw [h1, hlin], h2.symm⟩
      have HL : Hid (∀ w : World, Calls Try.prog 14 #[] w fun e w' => e = .returned (.bool true) ∧ w' = w) :=
        fun w => (lives_any w).mono fun e w' ⟨h1, h2⟩ => ⟨h1, h2.symm⟩
      have hcv : ∀ q, (convert 32 9 u8).run Try.prog (wr.drewN q) = .ok (.string (strOfNums acc)) (wr.drewN q) := fun q => Bys.conv (w := wr.drewN q) hown
      clear hA hB hC hS hlin hacc HR hown l0 l1 l2
      obtain ⟨X, hXe⟩ : ∃ X, X = more 0 (nums (a0.extract 0 k)) := ⟨_, rfl⟩
      obtain ⟨Y, hYe⟩ : ∃ Y, Y = more 0 (nums (a1.extract 0 k)) := ⟨_, rfl⟩
      obtain ⟨Z, hZe⟩ : ∃ Z, Z = more 0 (nums (a2.extract 0 k)) := ⟨_, rfl⟩
      rw [← hXe] at hX HA HS
      rw [← hYe] at hY HB HS
      rw [← hZe] at hZ HC HS
      have ex := xor_u16 X Y (X : Int) (Y : Int) hX hY rfl rfl
      have ey := xor_u16 (X ^^^ Y) Z ((X ^^^ Y : Nat) : Int) (Z : Int) (xor_lt16 hX hY) hZ rfl rfl
      obtain ⟨U, hU⟩ : ∃ U, U = X ^^^ Y := ⟨_, rfl⟩
      rw [← hU] at ex ey HS
      obtain ⟨V, hV⟩ : ∃ V, V = U ^^^ Z := ⟨_, rfl⟩
      rw [← hV] at ey HS
      clear hXe hYe hZe hU hV
      have g0 : (k : Int) ≤ (a0.size : Int) := by omega
      have g1 : (k : Int) ≤ (a1.size : Int) := by omega
      have g2 : (k : Int) ≤ (a2.size : Int) := by omega
      go_wp2_with fail
      go_quiet (first
        | (go_at_call 14; exact Calls.quiet_of_same (HL.out _))
        | (go_at_call 11; exact Calls.quiet_of_same (HS.out _))
        | (go_at_call 11; exact Calls.quiet_of_same (HA.out _))
        | (go_at_call 11; exact Calls.quiet_of_same (HB.out _))
        | (go_at_call 11; exact Calls.quiet_of_same (HC.out _)))
      go_wp2
      go_ret
      exact ⟨rfl, below_drewN hbel _⟩
end Go.Proofs.Ytleffgjbdbclhaa.crcLinear
