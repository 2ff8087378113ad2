/- lane: what Bits answers. -/
import Derived.Test.YtbkdalgmhmaofaaDoorLaneC
namespace Go.Proofs.YtbkdalgmhmaofaaDoor.lane
open Go.RowKit Go.PlainAid

theorem and_one_u8_all : ∀ n : Fin 256, bits BinOp.and IntKind.u8 (n.val : Int) 1 = (n.val : Int) % 2 := by decide +kernel
theorem and_one_u8 (x : Int) (h0 : 0 ≤ x) (h1 : x ≤ 255) : bits BinOp.and IntKind.u8 x 1 = x % 2 := by
  have h := and_one_u8_all ⟨x.toNat, by omega⟩
  have e : ((x.toNat : Nat) : Int) = x := by omega
  simp only [e] at h
  exact h

set_option maxHeartbeats 1000000 in
theorem bits_any (s : ByteArray) (w : World) (hs : s.size ≤ 35184372088832) :
    Calls Tryd.prog 12 #[.string s] w fun e w' => e = .returned (.string (strOfNums (bitsL (nums s)))) ∧ Below w.heap.size w w' := by
  have hb := get_bt s
  obtain ⟨i0, hi, hz0, hz1, hz2⟩ := info_parts info5
  go_enter Tryd.func12, Tryd.ntmps12
  go_wp2_with (at_make; (refine wpList_make_own _ rfl _ _ 38 rfl w.heap.size 5 i0 (.int .u8 0) 1 Tryd.underlying38 hi hz0 hz1 _ _ _ (8 * s.size) rfl rfl (by omega) (by rw [hz2]; omega) (by unfold maxLen; omega) (Nat.le_refl _) ?_); intro w1 hown hgrow)
  go_loopw [3, 12] (fun v i wr => ∃ (k m : Nat) (acc : List Int), k ≤ s.size ∧ m ≤ 8 * k ∧ i = .int .i64 k ∧ v = .slice (some ⟨w.heap.size, 0, none⟩) m (8 * s.size) ∧
      Row wr w.heap.size m (8 * s.size) acc ∧ Below w.heap.size w wr ∧ Hid (acc ++ bitsL ((nums s).drop k) = bitsL (nums s)))
    (fun _ i _ => s.size - (intOf i).toNat)
  case atStart => exact ⟨0, 0, [], Nat.zero_le _, Nat.zero_le _, rfl, rfl, hown, (Below.refl _ _).grown hgrow (Nat.le_refl _) (fun k hk => by cases hk), rfl⟩
  case round =>
    obtain ⟨k, m, acc, hk, hm, rfl, rfl, hrow, hbel, HR⟩ := hrel
    clear hown hgrow
    by_cases hlt : k < s.size
    · have HD : Hid ((nums s).drop k = bt s k :: (nums s).drop (k + 1)) := drop_nums s k hlt
      have h0 := bt_nonneg s k
      have h1 := bt_le s k
      obtain ⟨wo, rfl⟩ : ∃ wo : World, wo = wr := ⟨_, rfl⟩
      go_wp2
      go_loopw [3, 15] (fun v i wr => ∃ (q m : Nat) (acc : List Int), q ≤ 8 ∧ m ≤ 8 * k + q ∧ i = .int .i64 q ∧ v = .slice (some ⟨w.heap.size, 0, none⟩) m (8 * s.size) ∧
          Row wr w.heap.size m (8 * s.size) acc ∧ Below w.heap.size w wr ∧ Hid (acc ++ (byteBits (bt s k) q ++ bitsL ((nums s).drop (k + 1))) = bitsL (nums s)))
        (fun _ i _ => 8 - (intOf i).toNat)
      case atStart => exact ⟨0, m, acc, Nat.zero_le _, hm, rfl, rfl, hrow, hbel, by have h := HR.out; rw [HD.out, bitsL_cons] at h; exact h⟩
      case round =>
        clear hrow hbel HR hm
        obtain ⟨q, m, acc, hq, hm, rfl, rfl, hrow, hbel, HR⟩ := hrel
        have hsz := hbel.size
        by_cases hq8 : q < 8
        · have hbit := and_one_u8 (bt s k / 2 ^ q) (Int.ediv_nonneg h0 (by exact Int.le_of_lt (Int.pow_pos (by omega)))) (Int.le_trans (Int.ediv_le_self _ h0) h1)
          have HQ : Hid (byteBits (bt s k) q = bitS (bt s k) q :: byteBits (bt s k) (q + 1)) := byteBits_step _ _ hq8
          go_wp2_with (first
            | (go_at_call 25; refine (sign_any _ _).mono ?_; rintro e w' ⟨rfl, rfl⟩)
            | (at_builtin; (refine wpList_append_fits _ rfl _ _ 38 rfl w.heap.size 5 i0 1 Tryd.underlying38 hi hz1 w.heap.size m (8 * s.size) (_) rfl (World.ownsRow.alloc hrow _) ⟨wr.heap.size, 0, none⟩ 1 1 [.int .u8 (sgn (bt s k / 2 ^ q % 2 == 1))] rfl rfl (cell_one_new _ _ _) (by intro u hu; simp at hu; subst hu; rfl) (by omega) ?_); intro w2 hown2 hgrow2))
          obtain ⟨hrow2, hbel2⟩ := Row.push hown2 w hbel (by omega) hgrow2
          clear hown2 hgrow2 hrow hbel
          go_wp2
          go_roundw
          case rel => exact ⟨q + 1, m + 1, acc ++ [bitS (bt s k) q], by omega, by omega, by go_num, rfl, hrow2, hbel2, by have h := HR.out; rw [HQ.out] at h; show _ = _; simpa using h⟩
          case measure => simp [intOf]; omega
        · have hq' : q = 8 := by omega
          subst hq'
          go_wp2
          go_roundw
          case rel => exact ⟨k + 1, m, acc, by omega, by omega, by go_num, rfl, hrow, hbel, by have h := HR.out; rw [byteBits_end, List.nil_append] at h; exact h⟩
          case measure => simp [intOf]; omega
    · have hcv := hrow.conv
      go_wp2
      go_ret
      have h := HR.out
      rw [drop_end s k (by omega), bitsL_nil, List.append_nil] at h
      rw [h]
      exact ⟨rfl, hbel⟩
end Go.Proofs.YtbkdalgmhmaofaaDoor.lane
