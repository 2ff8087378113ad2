/- lane: what byteOf and Bytes answer. -/
import Derived.Test.YtbkdalgmhmaofabLaneD
namespace Go.Proofs.Ytbkdalgmhmaofab.lane
open Go.RowKit Go.PlainAid

theorem or_bit_u8_all : ∀ n : Fin 128, bits BinOp.or IntKind.u8 (2 * (n.val : Int)) 0 = 2 * (n.val : Int) ∧ bits BinOp.or IntKind.u8 (2 * (n.val : Int)) 1 = 2 * (n.val : Int) + 1 := by decide +kernel
theorem or_bit_u8 (x d : Int) (h0 : 0 ≤ x) (h1 : x ≤ 127) (hd : d = 0 ∨ d = 1) : bits BinOp.or IntKind.u8 (x * 2) d = 2 * x + d := by
  have h := or_bit_u8_all ⟨x.toNat, by omega⟩
  have e : ((x.toNat : Nat) : Int) = x := by omega
  simp only [e] at h
  rw [show x * 2 = 2 * x by omega]
  rcases hd with rfl | rfl
  · rw [h.1]; omega
  · exact h.2

set_option maxHeartbeats 1000000 in
theorem byteOf_any (s : ByteArray) (w : World) (hs : s.size ≤ 8) (hr : rowB (nums s) = true) :
    Calls Try.prog 37 #[.string s] w fun e w' => e = .returned (.int .u8 (valL (nums s))) ∧ w = w' := by
  have hb := get_bt s
  have HR : Hid (rowB (nums s) = true) := hr
  clear hr
  go_enter Try.func37, Try.ntmps37
  go_wp2
  go_loop [3, 4] (fun b i => ∃ k : Nat, k ≤ s.size ∧ i = .int .i64 ((k : Int) - 1) ∧ b = .int .u8 (valL ((nums s).drop k))) (fun _ i => (intOf i + 1).toNat)
  case atStart => exact ⟨s.size, Nat.le_refl _, rfl, by rw [drop_end s _ (Nat.le_refl _)]; rfl⟩
  case round =>
    obtain ⟨k, hk, rfl, rfl⟩ := hrel
    by_cases hlt : 1 ≤ k
    · obtain ⟨j, rfl⟩ : ∃ j, k = j + 1 := ⟨k - 1, by omega⟩
      have HD := drop_nums s j (by omega)
      have hrow := rowB_drop _ j HR.out
      rw [HD] at hrow
      obtain ⟨hx, hrow2⟩ := row_cases hrow
      have hv := valL_seven _ hrow2 (by rw [List.length_drop, nums_length]; omega)
      have H2 : Hid (valL ((nums s).drop j) = (bt s j - 48) + 2 * valL ((nums s).drop (j + 1))) := by rw [HD]; rfl
      have HX : Hid (bt s j = 48 ∨ bt s j = 49) := hx
      have hx1 : 48 ≤ bt s j := by omega
      have hx2 : bt s j ≤ 49 := by omega
      clear HD hrow hrow2 hx
      generalize valL ((nums s).drop (j + 1)) = v at *
      go_wp2
      go_round
      case rel => exact ⟨j, by omega, rfl, by rw [or_bit_u8 v _ hv.1 hv.2 (by have := HX.out; omega), H2.out]; congr 1; omega⟩
      case measure => simp [intOf]
    · have hk0 : k = 0 := by omega
      subst hk0
      go_wp2
      go_ret
      exact ⟨rfl, rfl⟩

set_option maxHeartbeats 400000 in
theorem bytes_no (s : ByteArray) (w : World) (hs : s.size ≤ 281474976710656) (hr : rowB (nums s) = false) :
    Calls Try.prog 26 #[.string s] w fun e w' => e = .returned (.tuple #[.string ⟨#[]⟩, .int .i64 1]) ∧ Below w.heap.size w w' := by
  go_enter Try.func26, Try.ntmps26
  go_wp2_with (go_at_call 30; refine (isRow_any _ _ (by unfold maxLen; omega)).mono ?_; rintro e w' ⟨rfl, rfl⟩)
  go_ret2
  exact ⟨rfl, Below.refl _ _⟩
set_option maxHeartbeats 400000 in
theorem bytes_odd (s : ByteArray) (w : World) (hs : s.size ≤ 281474976710656) (hr : rowB (nums s) = true) (hn : ¬ s.size % 8 = 0) :
    Calls Try.prog 26 #[.string s] w fun e w' => e = .returned (.tuple #[.string ⟨#[]⟩, .int .i64 4]) ∧ Below w.heap.size w w' := by
  have hn' : ((s.size : Int) % 8 != 0) = true := by simp; omega
  go_enter Try.func26, Try.ntmps26
  go_wp2_with (go_at_call 30; refine (isRow_any _ _ (by unfold maxLen; omega)).mono ?_; rintro e w' ⟨rfl, rfl⟩)
  go_ret2
  exact ⟨rfl, Below.refl _ _⟩

set_option maxHeartbeats 1000000 in
theorem bytes_ok (s : ByteArray) (w : World) (hs : s.size ≤ 281474976710656) (hr : rowB (nums s) = true) (hn : s.size % 8 = 0) :
    Calls Try.prog 26 #[.string s] w fun e w' => e = .returned (.tuple #[.string (strOfNums (bytesL (nums s))), .int .i64 0]) ∧ Below w.heap.size w w' := by
  have hb := get_bt s
  obtain ⟨i0, hi, hz0, hz1, hz2⟩ := info_parts info5
  have hn' : ((s.size : Int) % 8 != 0) = false := by simp; omega
  obtain ⟨n, hn1, hn2⟩ : ∃ n : Nat, 8 * n ≤ s.size ∧ s.size ≤ 8 * n := ⟨s.size / 8, by omega, by omega⟩
  clear hn
  go_enter Try.func26, Try.ntmps26
  go_wp2_with (first
    | (go_at_call 30; refine (isRow_any _ _ (by unfold maxLen; omega)).mono ?_; rintro e w' ⟨rfl, rfl⟩)
    | (at_make; (refine wpList_make_own _ rfl _ _ 41 rfl w.heap.size 5 i0 (.int .u8 0) 1 Try.underlying41 hi hz0 hz1 _ _ _ n rfl rfl (by omega) (by rw [hz2]; omega) (by unfold maxLen; omega) (Nat.le_refl _) ?_); intro w1 hown hgrow))
  have HR : Hid (rowB (nums s) = true) := hr
  clear hr hn' hb
  go_loopw [4, 5] (fun v i wr => ∃ (k j : Nat) (acc : List Int), k ≤ s.size ∧ j ≤ n ∧ k ≤ 8 * j ∧ 8 * j ≤ k ∧ i = .int .i64 k ∧ v = .slice (some ⟨w.heap.size, 0, none⟩) j n ∧
      Row wr w.heap.size j n acc ∧ Below w.heap.size w wr ∧ Hid (acc ++ bytesL ((nums s).drop k) = bytesL (nums s)))
    (fun _ i _ => s.size - (intOf i).toNat)
  case atStart => exact ⟨0, 0, [], Nat.zero_le _, Nat.zero_le _, Nat.le_refl _, Nat.le_refl _, rfl, rfl, hown, (Below.refl _ _).grown hgrow (Nat.le_refl _) (fun k hk => by cases hk), rfl⟩
  case round =>
    obtain ⟨k, j, acc, hk, hj, hkj1, hkj2, rfl, rfl, hrow, hbel, HA⟩ := hrel
    have hsz := hbel.size
    clear hown hgrow
    by_cases hlt : k < s.size
    · have hk8 : k + 8 ≤ s.size := by omega
      have e1 : nums (s.extract k (k + 8)) = ((nums s).drop k).take 8 := by
        rw [nums_extract, List.take_drop]
      have H1 : Hid (nums (s.extract k (k + 8)) = ((nums s).drop k).take 8) := e1
      clear e1
      have H2 : Hid (bytesL ((nums s).drop k) = valL (((nums s).drop k).take 8) :: bytesL ((nums s).drop (k + 8))) := by
        have := bytesL_step ((nums s).drop k) (by rw [List.length_drop, nums_length]; omega)
        rw [List.drop_drop] at this
        exact this
      go_wp2_with (first
        | (go_at_call 37; refine (byteOf_any (s.extract k (k + 8)) _ ?_ ?_).mono ?_; rotate_right; rintro e w' ⟨rfl, rfl⟩)
        | (at_builtin; (refine wpList_append_fits _ rfl _ _ 41 rfl w.heap.size 5 i0 1 Try.underlying41 hi hz1 w.heap.size j n (_) rfl (World.ownsRow.alloc hrow _) ⟨wr.heap.size, 0, none⟩ 1 1 [.int .u8 (valL (nums (s.extract k (k + 8))))] rfl rfl (cell_one_new _ _ _) (by intro u hu; simp at hu; subst hu; rfl) (by omega) ?_); intro w2 hown2 hgrow2))
      · obtain ⟨hrow2, hbel2⟩ := Row.push hown2 w hbel (by omega) hgrow2
        clear hown2 hgrow2 hrow hbel
        go_roundw
        case rel => exact ⟨k + 8, j + 1, _, by omega, by omega, by omega, by omega, by go_num, rfl, hrow2, hbel2, by have h := HA.out; rw [H2.out, ← H1.out] at h; show _ = _; simpa using h⟩
        case measure => simp [intOf]; omega
      · rw [ByteArray.size_extract]; omega
      · rw [H1.out]; exact rowB_take _ _ (rowB_drop _ _ HR.out)
    · have hcv := hrow.conv
      go_wp2
      go_ret2
      have h := HA.out
      rw [drop_end s k (by omega), bytesL_nil, List.append_nil] at h
      rw [h]
      exact ⟨rfl, hbel⟩
end Go.Proofs.Ytbkdalgmhmaofab.lane
