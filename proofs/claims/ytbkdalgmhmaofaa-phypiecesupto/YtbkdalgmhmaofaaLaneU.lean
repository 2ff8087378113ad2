/- plugref's lane: what Two, Bits and Bytes answer. -/
import Derived.Test.YtbkdalgmhmaofaaLaneT
namespace Go.Proofs.Ytbkdalgmhmaofaa.lane
open Go.RowKit Go.PlainAid

theorem ret_i64 {a b : Int} (h : a = b) : Ending.returned (.int .i64 a) = .returned (.int .i64 b) := by rw [h]
theorem pow_bd : ∀ j : Fin 8, (1 : Int) ≤ 2 ^ j.val ∧ (2 : Int) ^ j.val ≤ 128 := by decide
theorem byteBits_get (b : Int) (k : Nat) (h : k < 8) : (byteBits b 0)[k]? = some (bitS b k) := by
  unfold byteBits
  simp [h]
theorem bitsL_get (l : List Int) (k : Nat) (h : k < 8 * l.length) : (bitsL l)[k]? = some (bitS (l.getD (k / 8) 0) (k % 8)) := by
  induction l generalizing k with
  | nil => simp at h
  | cons b l ih =>
    rw [bitsL_cons]
    by_cases hk : k < 8
    · rw [List.getElem?_append_left (by rw [byteBits_length]; omega), byteBits_get b k hk, show k / 8 = 0 by omega, show k % 8 = k by omega]; rfl
    · rw [List.getElem?_append_right (by rw [byteBits_length]; omega), byteBits_length, ih (k - (8 - 0)) (by rw [List.length_cons] at h; omega)]
      rw [show (k - (8 - 0)) % 8 = k % 8 by omega, show k / 8 = (k - (8 - 0)) / 8 + 1 by omega]; rfl
theorem take_next {l : List Int} {k : Nat} {x : Int} (h : l[k]? = some x) : l.take (k + 1) = l.take k ++ [x] := by
  rw [List.take_add_one, h]; rfl

theorem bytesL_get (l : List Int) (i : Nat) (h : i < l.length / 8) : (bytesL l)[i]? = some (valL ((l.drop (8 * i)).take 8)) := by
  unfold bytesL
  simp [h]
/-- eight bits of a row, from bit j on -/
def chunk (s : ByteArray) (i j : Nat) : List Int := (((nums s).drop (8 * i)).take 8).drop j
theorem chunk_step (s : ByteArray) (i j : Nat) (hj : j < 8) (h : 8 * i + 8 ≤ s.size) : chunk s i j = bt s (8 * i + j) :: chunk s i (j + 1) := by
  unfold chunk
  have hl : (((nums s).drop (8 * i)).take 8).length = 8 := by rw [List.length_take, List.length_drop, nums_length]; omega
  rw [List.drop_eq_getElem_cons (by omega)]
  congr 1
  rw [List.getElem_take, List.getElem_drop, nums_get s _ (by omega)]
theorem chunk_end (s : ByteArray) (i : Nat) : chunk s i 8 = [] := by
  unfold chunk
  exact List.drop_eq_nil_of_le (by rw [List.length_take]; omega)
theorem chunk_row (s : ByteArray) (i j : Nat) (h : rowB (nums s) = true) : rowB (chunk s i j) = true := rowB_drop _ _ (rowB_take _ _ (rowB_drop _ _ h))
theorem chunk_len (s : ByteArray) (i j : Nat) : (chunk s i j).length ≤ 8 - j := by
  unfold chunk
  rw [List.length_drop, List.length_take]
  omega

set_option maxHeartbeats 400000 in
theorem rbytes_no (s : ByteArray) (w : World) (hs : s.size ≤ 281474976710656) (hr : rowB (nums s) = false) :
    Calls Try.prog 25 #[.string s] w fun e w' => e = .returned (.tuple #[.string ⟨#[]⟩, .int .i64 1]) ∧ Below w.heap.size w w' := by
  go_enter Try.func25, Try.ntmps25
  go_wp2_with (go_at_call 22; refine (only_row _ _ (by unfold maxLen; omega)).mono ?_; rintro e w' ⟨rfl, rfl⟩)
  go_ret2
  exact ⟨rfl, Below.refl _ _⟩
set_option maxHeartbeats 400000 in
theorem rbytes_odd (s : ByteArray) (w : World) (hs : s.size ≤ 281474976710656) (hr : rowB (nums s) = true) (hn : ¬ s.size % 8 = 0) :
    Calls Try.prog 25 #[.string s] w fun e w' => e = .returned (.tuple #[.string ⟨#[]⟩, .int .i64 4]) ∧ Below w.heap.size w w' := by
  have hn' : ((s.size : Int) % 8 != 0) = true := by simp; omega
  go_enter Try.func25, Try.ntmps25
  go_wp2_with (go_at_call 22; refine (only_row _ _ (by unfold maxLen; omega)).mono ?_; rintro e w' ⟨rfl, rfl⟩)
  go_ret2
  exact ⟨rfl, Below.refl _ _⟩

set_option maxHeartbeats 1000000 in
theorem rbytes_ok (s : ByteArray) (w : World) (hs : s.size ≤ 281474976710656) (hr : rowB (nums s) = true) (hn : s.size % 8 = 0) :
    Calls Try.prog 25 #[.string s] w fun e w' => e = .returned (.tuple #[.string (strOfNums (bytesL (nums s))), .int .i64 0]) ∧ Below w.heap.size w w' := by
  have hb := get_bt s
  obtain ⟨i0, hi, hz0, hz1, hz2⟩ := info_parts info5
  have hn' : ((s.size : Int) % 8 != 0) = false := by simp; omega
  obtain ⟨n, hn1, hn2⟩ : ∃ n : Nat, 8 * n ≤ s.size ∧ s.size ≤ 8 * n := ⟨s.size / 8, by omega, by omega⟩
  clear hn
  have HR : Hid (rowB (nums s) = true) := hr
  go_enter Try.func25, Try.ntmps25
  go_wp2_with (first
    | (go_at_call 22; refine (only_row _ _ (by unfold maxLen; omega)).mono ?_; rintro e w' ⟨rfl, rfl⟩)
    | (at_make; (refine wpList_make_full _ rfl _ _ 47 rfl w.heap.size 5 i0 (.int .u8 0) 1 Try.underlying47 hi hz0 hz1 _ _ _ _ n rfl rfl (by omega) (by omega) (by rw [hz2]; omega) (by unfold maxLen; omega) (Nat.le_refl _) ?_); intro w1 hown hgrow))
  clear hr hn'
  have hF0 : Fill w w1 w.heap.size n 0 [] := ⟨Row.made hown, rfl, (Below.refl _ _).grown hgrow (Nat.le_refl _) (fun k hk => by cases hk)⟩
  clear hown hgrow
  go_loopw [21] (fun i wr => ∃ (k : Nat) (acc : List Int), k ≤ n ∧ i = .int .i64 k ∧ Fill w wr w.heap.size n k acc ∧ Hid (acc = (bytesL (nums s)).take k))
    (fun i _ => n - (intOf i).toNat)
  case atStart => exact ⟨0, [], Nat.zero_le _, rfl, hF0, rfl⟩
  case round =>
    obtain ⟨k, acc, hk, rfl, hfill, HA⟩ := hrel
    clear hF0
    by_cases hlt : k < n
    · have hce := hfill.row.cell k hlt
      have hfr := hfill.row.free k
      have HF : Hid (Fill w wr w.heap.size n k acc) := hfill
      have HT : Hid ((bytesL (nums s)).take (k + 1) = acc ++ [valL (chunk s k 0)]) := by
        show _ = _
        rw [take_next (bytesL_get (nums s) k (by rw [nums_length]; omega)), ← HA.out]; rfl
      clear HA hfill
      have g3 : (k : Int) < (n : Int) := by omega
      go_wp2
      go_loop [6, 7] (fun v q => ∃ (j : Nat) (x : Int), j ≤ 8 ∧ 0 ≤ x ∧ x ≤ 255 ∧ q = .int .i64 ((j : Int) - 1) ∧ v = .int .i64 x ∧ Hid (x = valL (chunk s k j))) (fun _ q => (intOf q + 1).toNat)
      case atStart => exact ⟨8, 0, by omega, by omega, by omega, rfl, rfl, by show _ = _; rw [chunk_end]; rfl⟩
      case round =>
        obtain ⟨j, x, hj, hx0, hx1, rfl, rfl, HX⟩ := hrel
        by_cases hj1 : 1 ≤ j
        · obtain ⟨j, rfl⟩ : ∃ i, j = i + 1 := ⟨j - 1, by omega⟩
          have hs1 := chunk_step s k j (by omega) (by omega)
          have hrow := chunk_row s k j HR.out
          have hv := valL_le _ hrow (by have := chunk_len s k j; omega)
          rw [hs1] at hrow hv
          obtain ⟨hd, _⟩ := row_cases hrow
          have HN : Hid (valL (chunk s k j) = (bt s (8 * k + j) - 48) + 2 * x) := by show _ = _; rw [hs1, HX.out]; rfl
          have d0 : 48 ≤ bt s (8 * k + j) := by omega
          have d1 : bt s (8 * k + j) ≤ 49 := by omega
          have hx2 : 2 * x + (bt s (8 * k + j) - 48) ≤ 255 := by
            have := hv.2; unfold valL at this; rw [← HX.out] at this; omega
          clear hs1 hrow hv hd
          go_wp2
          go_round
          case rel => exact ⟨j, 2 * x + (bt s (8 * k + j) - 48), by omega, by omega, hx2, rfl, by go_num, by show _ = _; rw [HN.out]; omega⟩
          case measure => simp [intOf]
        · obtain rfl : j = 0 := by omega
          go_wp2
          go_roundw
          case rel => exact ⟨k + 1, acc ++ [x], by omega, by go_num, HF.out.set hlt x, by show _ = _; rw [HT.out, HX.out]⟩
          case measure => simp [intOf]; omega
    · obtain rfl : k = n := by omega
      have hcv := hfill.done.conv
      go_wp2
      go_ret2
      have h := HA.out
      rw [List.take_of_length_le (by rw [bytesL_length, nums_length]; omega)] at h
      rw [h]
      exact ⟨rfl, hfill.bel⟩
end Go.Proofs.Ytbkdalgmhmaofaa.lane
