/- plugref's lane: what Two, Bits and Bytes answer. -/
import Derived.Test.YtbkdalgmhmaofaaDoorLaneT
namespace Go.Proofs.YtbkdalgmhmaofaaDoor.lane
open Go.RowKit Go.PlainAid

theorem ret_i64 {a b : Int} (h : a = b) : Ending.returned (.int .i64 a) = .returned (.int .i64 b) := by rw [h]
theorem pow_bd : ∀ j : Fin 8, (1 : Int) ≤ 2 ^ j.val ∧ (2 : Int) ^ j.val ≤ 128 := by decide
set_option maxHeartbeats 400000 in
theorem two_any (k : Nat) (hk : k ≤ 7) (w : World) :
    Calls Tryd.prog 31 #[.int .i64 (k : Int)] w fun e w' => e = .returned (.int .i64 (2 ^ k)) ∧ w' = w := by
  go_enter Tryd.func31, Tryd.ntmps31
  go_wp2
  go_loop [3, 5] (fun n i => ∃ (j : Nat) (p : Int), j ≤ k ∧ 1 ≤ p ∧ p ≤ 128 ∧ i = .int .i64 j ∧ n = .int .i64 p ∧ Hid (p = 2 ^ j)) (fun _ i => k - (intOf i).toNat)
  case atStart => exact ⟨0, 1, Nat.zero_le _, by omega, by omega, rfl, rfl, rfl⟩
  case round =>
    obtain ⟨j, p, hj, h1, h2, rfl, rfl, HP⟩ := hrel
    by_cases hlt : j < k
    · have hb := pow_bd ⟨j + 1, by omega⟩
      simp only [Int.pow_succ, ← HP.out] at hb
      go_wp2
      go_round
      case rel => exact ⟨j + 1, p * 2, by omega, hb.1, hb.2, by go_num, rfl, by show _ = _; rw [Int.pow_succ, HP.out]⟩
      case measure => simp [intOf]; omega
    · obtain rfl : j = k := by omega
      go_wp2
      go_ret
      exact ⟨ret_i64 HP.out, rfl⟩

theorem byteBits_get (b : Int) (k : Nat) (h : k < 8) : (byteBits b 0)[k]? = some (bitS b k) := by
  unfold byteBits
  simp [h]
theorem bitsL_get (l : List Int) (k : Nat) (h : k < 8 * l.length) : (bitsL l)[k]? = some (bitS (l.getD (k / 8) 0) (k % 8)) := by
  induction l generalizing k with
  | nil => simp at h
  | cons b l ih =>
    rw [bitsL_cons]
    by_cases hk : k < 8
    · rw [List.getElem?_append_left (by rw [byteBits_length]; omega), byteBits_get b k hk, show k / 8 = 0 by omega, show k % 8 = k by omega]; rfl
    · rw [List.getElem?_append_right (by rw [byteBits_length]; omega), byteBits_length, ih (k - (8 - 0)) (by rw [List.length_cons] at h; omega)]
      rw [show (k - (8 - 0)) % 8 = k % 8 by omega, show k / 8 = (k - (8 - 0)) / 8 + 1 by omega]; rfl
theorem take_next {l : List Int} {k : Nat} {x : Int} (h : l[k]? = some x) : l.take (k + 1) = l.take k ++ [x] := by
  rw [List.take_add_one, h]; rfl

set_option maxHeartbeats 1000000 in
theorem rbits_any (s : ByteArray) (w : World) (hs : s.size ≤ 35184372088832) :
    Calls Tryd.prog 15 #[.string s] w fun e w' => e = .returned (.string (strOfNums (bitsL (nums s)))) ∧ Below w.heap.size w w' := by
  have hb := get_bt s
  obtain ⟨i0, hi, hz0, hz1, hz2⟩ := info_parts info5
  go_enter Tryd.func15, Tryd.ntmps15
  go_wp2_with (at_make; (refine wpList_make_full _ rfl _ _ 38 rfl w.heap.size 5 i0 (.int .u8 0) 1 Tryd.underlying38 hi hz0 hz1 _ _ _ _ (8 * s.size) rfl rfl (by omega) (by omega) (by rw [hz2]; omega) (by unfold maxLen; omega) (Nat.le_refl _) ?_); intro w1 hown hgrow)
  obtain ⟨n, hn1, hn2⟩ : ∃ n, n ≤ 8 * s.size ∧ 8 * s.size ≤ n := ⟨_, Nat.le_refl _, Nat.le_refl _⟩
  have en : 8 * s.size = n := by omega
  rw [en] at hown ⊢
  clear en
  have hF0 : Fill w w1 w.heap.size n 0 [] := ⟨Row.made hown, rfl, (Below.refl _ _).grown hgrow (Nat.le_refl _) (fun k hk => by cases hk)⟩
  clear hown hgrow
  go_loopw [11] (fun i wr => ∃ (k : Nat) (acc : List Int), k ≤ n ∧ i = .int .i64 k ∧ Fill w wr w.heap.size n k acc ∧ Hid (acc = (bitsL (nums s)).take k))
    (fun i _ => n - (intOf i).toNat)
  case atStart => exact ⟨0, [], Nat.zero_le _, rfl, hF0, rfl⟩
  case round =>
    obtain ⟨k, acc, hk, rfl, hfill, HR⟩ := hrel
    clear hF0
    by_cases hlt : k < n
    · have hce := hfill.row.cell k hlt
      have hfr := hfill.row.free k
      have HF : Hid (Fill w wr w.heap.size n k acc) := hfill
      have hq := bitsL_get (nums s) k (by rw [nums_length]; omega)
      rw [← bt_nums s (k / 8) (by omega)] at hq
      have HT : Hid ((bitsL (nums s)).take (k + 1) = acc ++ [bitS (bt s (k / 8)) (k % 8)]) := by show _ = _; rw [take_next hq, ← HR.out]
      have g1 : (k : Int) / 8 < (s.size : Int) := by omega
      have g3 : (k : Int) < (n : Int) := by omega
      have b0 := bt_nonneg s (k / 8)
      have b1 := bt_le s (k / 8)
      obtain ⟨p, hp1, hp2, HP, HTW⟩ : ∃ p : Int, 1 ≤ p ∧ p ≤ 128 ∧ Hid (p = 2 ^ (k % 8)) ∧ Hid (∀ w : World, Calls Tryd.prog 31 #[.int .i64 ((k : Int) % 8)] w fun e w' => e = .returned (.int .i64 p) ∧ w' = w) := by
        have pw := pow_bd ⟨k % 8, by omega⟩
        have htwo := two_any (k % 8) (by omega)
        rw [show ((k % 8 : Nat) : Int) = (k : Int) % 8 by omega] at htwo
        exact ⟨2 ^ (k % 8), pw.1, pw.2, rfl, htwo⟩
      have ediv : 0 ≤ bt s (k / 8) / p := Int.ediv_nonneg b0 (by omega)
      clear HR hfill hq
      by_cases he : bt s (k / 8) / p % 2 = 1
      · have e1 : (bt s (k / 8) / p % 2 == 1) = true := by simpa using he
        have HV : Hid (bitS (bt s (k / 8)) (k % 8) = 49) := by show _ = _; unfold bitS; rw [← HP.out, e1]; rfl
        clear he
        go_wp2
        go_quiet ((go_at_call 31; exact Calls.quiet_of_same (HTW.out _)))
        go_wp2
        go_roundw
        case rel => exact ⟨k + 1, acc ++ [49], by omega, by go_num, (HF.out.set2 hlt 48 49).drewN _, by show _ = _; rw [HT.out, HV.out]⟩
        case measure => simp [intOf]; omega
      · have e1 : (bt s (k / 8) / p % 2 == 1) = false := by simpa using he
        have HV : Hid (bitS (bt s (k / 8)) (k % 8) = 48) := by show _ = _; unfold bitS; rw [← HP.out, e1]; rfl
        clear he
        go_wp2
        go_quiet ((go_at_call 31; exact Calls.quiet_of_same (HTW.out _)))
        go_wp2
        go_roundw
        case rel => exact ⟨k + 1, acc ++ [48], by omega, by go_num, (HF.out.set hlt 48).drewN _, by show _ = _; rw [HT.out, HV.out]⟩
        case measure => simp [intOf]; omega
    · obtain rfl : k = n := by omega
      have hcv := hfill.done.conv
      go_wp2
      go_ret
      have h := HR.out
      rw [List.take_of_length_le (by rw [bitsL_length, nums_length]; omega)] at h
      rw [h]
      exact ⟨rfl, hfill.bel⟩

theorem bytesL_get (l : List Int) (i : Nat) (h : i < l.length / 8) : (bytesL l)[i]? = some (valL ((l.drop (8 * i)).take 8)) := by
  unfold bytesL
  simp [h]
/-- eight bits of a row, from bit j on -/
def chunk (s : ByteArray) (i j : Nat) : List Int := (((nums s).drop (8 * i)).take 8).drop j
theorem chunk_step (s : ByteArray) (i j : Nat) (hj : j < 8) (h : 8 * i + 8 ≤ s.size) : chunk s i j = bt s (8 * i + j) :: chunk s i (j + 1) := by
  unfold chunk
  have hl : (((nums s).drop (8 * i)).take 8).length = 8 := by rw [List.length_take, List.length_drop, nums_length]; omega
  rw [List.drop_eq_getElem_cons (by omega)]
  congr 1
  rw [List.getElem_take, List.getElem_drop, nums_get s _ (by omega)]
theorem chunk_end (s : ByteArray) (i : Nat) : chunk s i 8 = [] := by
  unfold chunk
  exact List.drop_eq_nil_of_le (by rw [List.length_take]; omega)
theorem chunk_row (s : ByteArray) (i j : Nat) (h : rowB (nums s) = true) : rowB (chunk s i j) = true := rowB_drop _ _ (rowB_take _ _ (rowB_drop _ _ h))
theorem chunk_len (s : ByteArray) (i j : Nat) : (chunk s i j).length ≤ 8 - j := by
  unfold chunk
  rw [List.length_drop, List.length_take]
  omega

set_option maxHeartbeats 400000 in
theorem rbytes_no (s : ByteArray) (w : World) (hs : s.size ≤ 281474976710656) (hr : rowB (nums s) = false) :
    Calls Tryd.prog 43 #[.string s] w fun e w' => e = .returned (.tuple #[.string ⟨#[]⟩, .int .i64 1]) ∧ Below w.heap.size w w' := by
  go_enter Tryd.func43, Tryd.ntmps43
  go_wp2_with (go_at_call 19; refine (only_row _ _ (by unfold maxLen; omega)).mono ?_; rintro e w' ⟨rfl, rfl⟩)
  go_ret2
  exact ⟨rfl, Below.refl _ _⟩
set_option maxHeartbeats 400000 in
theorem rbytes_odd (s : ByteArray) (w : World) (hs : s.size ≤ 281474976710656) (hr : rowB (nums s) = true) (hn : ¬ s.size % 8 = 0) :
    Calls Tryd.prog 43 #[.string s] w fun e w' => e = .returned (.tuple #[.string ⟨#[]⟩, .int .i64 4]) ∧ Below w.heap.size w w' := by
  have hn' : ((s.size : Int) % 8 != 0) = true := by simp; omega
  go_enter Tryd.func43, Tryd.ntmps43
  go_wp2_with (go_at_call 19; refine (only_row _ _ (by unfold maxLen; omega)).mono ?_; rintro e w' ⟨rfl, rfl⟩)
  go_ret2
  exact ⟨rfl, Below.refl _ _⟩

set_option maxHeartbeats 1000000 in
theorem rbytes_ok (s : ByteArray) (w : World) (hs : s.size ≤ 281474976710656) (hr : rowB (nums s) = true) (hn : s.size % 8 = 0) :
    Calls Tryd.prog 43 #[.string s] w fun e w' => e = .returned (.tuple #[.string (strOfNums (bytesL (nums s))), .int .i64 0]) ∧ Below w.heap.size w w' := by
  have hb := get_bt s
  obtain ⟨i0, hi, hz0, hz1, hz2⟩ := info_parts info5
  have hn' : ((s.size : Int) % 8 != 0) = false := by simp; omega
  obtain ⟨n, hn1, hn2⟩ : ∃ n : Nat, 8 * n ≤ s.size ∧ s.size ≤ 8 * n := ⟨s.size / 8, by omega, by omega⟩
  clear hn
  have HR : Hid (rowB (nums s) = true) := hr
  go_enter Tryd.func43, Tryd.ntmps43
  go_wp2_with (first
    | (go_at_call 19; refine (only_row _ _ (by unfold maxLen; omega)).mono ?_; rintro e w' ⟨rfl, rfl⟩)
    | (at_make; (refine wpList_make_full _ rfl _ _ 38 rfl w.heap.size 5 i0 (.int .u8 0) 1 Tryd.underlying38 hi hz0 hz1 _ _ _ _ n rfl rfl (by omega) (by omega) (by rw [hz2]; omega) (by unfold maxLen; omega) (Nat.le_refl _) ?_); intro w1 hown hgrow))
  clear hr hn'
  have hF0 : Fill w w1 w.heap.size n 0 [] := ⟨Row.made hown, rfl, (Below.refl _ _).grown hgrow (Nat.le_refl _) (fun k hk => by cases hk)⟩
  clear hown hgrow
  go_loopw [21] (fun i wr => ∃ (k : Nat) (acc : List Int), k ≤ n ∧ i = .int .i64 k ∧ Fill w wr w.heap.size n k acc ∧ Hid (acc = (bytesL (nums s)).take k))
    (fun i _ => n - (intOf i).toNat)
  case atStart => exact ⟨0, [], Nat.zero_le _, rfl, hF0, rfl⟩
  case round =>
    obtain ⟨k, acc, hk, rfl, hfill, HA⟩ := hrel
    clear hF0
    by_cases hlt : k < n
    · have hce := hfill.row.cell k hlt
      have hfr := hfill.row.free k
      have HF : Hid (Fill w wr w.heap.size n k acc) := hfill
      have HT : Hid ((bytesL (nums s)).take (k + 1) = acc ++ [valL (chunk s k 0)]) := by
        show _ = _
        rw [take_next (bytesL_get (nums s) k (by rw [nums_length]; omega)), ← HA.out]; rfl
      clear HA hfill
      have g3 : (k : Int) < (n : Int) := by omega
      go_wp2
      go_loop [6, 7] (fun v q => ∃ (j : Nat) (x : Int), j ≤ 8 ∧ 0 ≤ x ∧ x ≤ 255 ∧ q = .int .i64 ((j : Int) - 1) ∧ v = .int .i64 x ∧ Hid (x = valL (chunk s k j))) (fun _ q => (intOf q + 1).toNat)
      case atStart => exact ⟨8, 0, by omega, by omega, by omega, rfl, rfl, by show _ = _; rw [chunk_end]; rfl⟩
      case round =>
        obtain ⟨j, x, hj, hx0, hx1, rfl, rfl, HX⟩ := hrel
        by_cases hj1 : 1 ≤ j
        · obtain ⟨j, rfl⟩ : ∃ i, j = i + 1 := ⟨j - 1, by omega⟩
          have hs1 := chunk_step s k j (by omega) (by omega)
          have hrow := chunk_row s k j HR.out
          have hv := valL_le _ hrow (by have := chunk_len s k j; omega)
          rw [hs1] at hrow hv
          obtain ⟨hd, _⟩ := row_cases hrow
          have HN : Hid (valL (chunk s k j) = (bt s (8 * k + j) - 48) + 2 * x) := by show _ = _; rw [hs1, HX.out]; rfl
          have d0 : 48 ≤ bt s (8 * k + j) := by omega
          have d1 : bt s (8 * k + j) ≤ 49 := by omega
          have hx2 : 2 * x + (bt s (8 * k + j) - 48) ≤ 255 := by
            have := hv.2; unfold valL at this; rw [← HX.out] at this; omega
          clear hs1 hrow hv hd
          go_wp2
          go_round
          case rel => exact ⟨j, 2 * x + (bt s (8 * k + j) - 48), by omega, by omega, hx2, rfl, by go_num, by show _ = _; rw [HN.out]; omega⟩
          case measure => simp [intOf]
        · obtain rfl : j = 0 := by omega
          go_wp2
          go_roundw
          case rel => exact ⟨k + 1, acc ++ [x], by omega, by go_num, HF.out.set hlt x, by show _ = _; rw [HT.out, HX.out]⟩
          case measure => simp [intOf]; omega
    · obtain rfl : k = n := by omega
      have hcv := hfill.done.conv
      go_wp2
      go_ret2
      have h := HA.out
      rw [List.take_of_length_le (by rw [bytesL_length, nums_length]; omega)] at h
      rw [h]
      exact ⟨rfl, hfill.bel⟩
end Go.Proofs.YtbkdalgmhmaofaaDoor.lane
