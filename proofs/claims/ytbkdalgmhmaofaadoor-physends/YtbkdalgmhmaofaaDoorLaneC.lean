/- lane: what Stuff and Unstuff answer. -/
import Derived.Test.YtbkdalgmhmaofaaDoorLaneB
namespace Go.Proofs.YtbkdalgmhmaofaaDoor.lane
open Go.RowKit Go.PlainAid

set_option maxHeartbeats 400000 in
theorem stuff_no (s : ByteArray) (w : World) (hs : s.size ≤ 240000000000000) (hr : rowB (nums s) = false) :
    Calls Tryd.prog 11 #[.string s] w fun e w' => e = .returned (.tuple #[.string ⟨#[]⟩, .int .i64 1]) ∧ Below w.heap.size w w' := by
  go_enter Tryd.func11, Tryd.ntmps11
  go_wp2_with (go_at_call 23; refine (isRow_any _ _ (by unfold maxLen; omega)).mono ?_; rintro e w' ⟨rfl, rfl⟩)
  go_ret2
  exact ⟨rfl, Below.refl _ _⟩
set_option maxHeartbeats 1000000 in
theorem stuff_ok (s : ByteArray) (w : World) (hs : s.size ≤ 240000000000000) (hr : rowB (nums s) = true) :
    Calls Tryd.prog 11 #[.string s] w fun e w' => e = .returned (.tuple #[.string (strOfNums (stuffL 0 (nums s))), .int .i64 0]) ∧ Below w.heap.size w w' := by
  have hb := get_bt s
  obtain ⟨i0, hi, hz0, hz1, hz2⟩ := info_parts info5
  obtain ⟨cap, hcap1, hcap2, hcap3⟩ : ∃ cap : Nat, cap ≤ s.size + s.size / 6 ∧ s.size + s.size / 6 ≤ cap ∧ (stuffL 0 (nums s)).length ≤ cap :=
    ⟨_, Nat.le_refl _, Nat.le_refl _, by have := stuffL_length 0 (nums s) (by omega); rw [nums_length] at this; simpa using this⟩
  have HC : Hid ((stuffL 0 (nums s)).length ≤ cap) := hcap3
  clear hcap3
  go_enter Tryd.func11, Tryd.ntmps11
  go_wp2_with (first
    | (go_at_call 23; refine (isRow_any _ _ (by unfold maxLen; omega)).mono ?_; rintro e w' ⟨rfl, rfl⟩)
    | (at_make; (refine wpList_make_own _ rfl _ _ 38 rfl w.heap.size 5 i0 (.int .u8 0) 1 Tryd.underlying38 hi hz0 hz1 _ _ _ cap rfl rfl (by omega) (by rw [hz2]; omega) (by unfold maxLen; omega) (Nat.le_refl _) ?_); intro w1 hown hgrow))
  go_loopw [4, 5, 19] (fun v on i wr => ∃ (k m o : Nat) (acc : List Int), k ≤ s.size ∧ o ≤ 5 ∧ i = .int .i64 k ∧ on = .int .i64 o ∧ v = .slice (some ⟨w.heap.size, 0, none⟩) m cap ∧
      Row wr w.heap.size m cap acc ∧ Below w.heap.size w wr ∧ Hid (acc ++ stuffL o ((nums s).drop k) = stuffL 0 (nums s)))
    (fun _ _ i _ => s.size - (intOf i).toNat)
  case atStart => exact ⟨0, 0, 0, [], Nat.zero_le _, Nat.zero_le _, rfl, rfl, rfl, hown, (Below.refl _ _).grown hgrow (Nat.le_refl _) (fun k hk => by cases hk), rfl⟩
  case round =>
    obtain ⟨k, m, o, acc, hk, ho, rfl, rfl, rfl, hrow, hbel, HR⟩ := hrel
    have hsz := hbel.size
    have hlen := hrow.len
    clear hown hgrow hcap1 hcap2
    by_cases hlt : k < s.size
    · have HD := drop_nums s k hlt
      by_cases h49 : bt s k = 49
      · have e49 : (bt s k == 49) = true := by simpa using h49
        by_cases h5 : o = 5
        · subst h5
          rw [h49] at HD
          have h := HR.out
          rw [HD, stuffL_six] at h
          have hm : m + 2 ≤ cap := by have := congrArg List.length h; simp at this; have := HC.out; omega
          have H2 : Hid (acc ++ (49 :: 48 :: stuffL 0 ((nums s).drop (k + 1))) = stuffL 0 (nums s)) := h
          have H49 : Hid (bt s k = 49) := h49
          have HL : Hid (acc.length = m) := hlen
          have tok : True := trivial
          clear HD HR h h49 hlen
          go_wp2_with (first
            | (go_at_call 24; go_in)
            | (at_builtin; have _t := tok; (refine wpList_append_fits _ rfl _ _ 38 rfl w.heap.size 5 i0 1 Tryd.underlying38 hi hz1 w.heap.size m cap (_) rfl (World.ownsRow.alloc hrow _) ⟨wr.heap.size, 0, none⟩ 1 1 [.int .u8 (bt s k)] rfl rfl (cell_one_new _ _ _) (by intro u hu; simp at hu; subst hu; rfl) (by omega) ?_); intro w2 hown2 hgrow2; obtain ⟨hrow2, hbel2⟩ := Row.push hown2 w hbel (by omega) hgrow2; have hsz2 := hbel2.size; clear tok hown2 hgrow2)
            | (at_builtin; (refine wpList_append_fits _ rfl _ _ 38 rfl w.heap.size 5 i0 1 Tryd.underlying38 hi hz1 w.heap.size (m + 1) cap (_) rfl (World.ownsRow.alloc hrow2 _) ⟨w2.heap.size, 0, none⟩ 1 1 [.int .u8 48] rfl rfl (cell_one_new _ _ _) (by intro u hu; simp at hu; subst hu; rfl) (by omega) ?_); intro w3 hown3 hgrow3))
          obtain ⟨hrow3, hbel3⟩ := Row.push hown3 w hbel2 (by omega) hgrow3
          clear hown3 hgrow3 hrow hbel hrow2 hbel2
          go_wp2
          go_roundw
          case rel => exact ⟨k + 1, m + 1 + 1, 0, (acc ++ [bt s k]) ++ [48], by omega, by omega, by go_num, rfl, rfl, hrow3, hbel3, by have h := H2.out; show _ = _; rw [H49.out]; simpa using h⟩
          case measure => simp [intOf]; omega
        · rw [h49] at HD
          have h := HR.out
          rw [HD, stuffL_one _ _ h5] at h
          have hm : m + 1 ≤ cap := by have := congrArg List.length h; simp at this; have := HC.out; omega
          have H2 : Hid (acc ++ (49 :: stuffL (o + 1) ((nums s).drop (k + 1))) = stuffL 0 (nums s)) := h
          have H49 : Hid (bt s k = 49) := h49
          have HL : Hid (acc.length = m) := hlen
          have h5' : o < 5 := by omega
          clear HD HR h h49 hlen h5
          go_wp2_with (first
            | (go_at_call 24; go_in)
            | (at_builtin; (refine wpList_append_fits _ rfl _ _ 38 rfl w.heap.size 5 i0 1 Tryd.underlying38 hi hz1 w.heap.size m cap (_) rfl (World.ownsRow.alloc hrow _) ⟨wr.heap.size, 0, none⟩ 1 1 [.int .u8 (bt s k)] rfl rfl (cell_one_new _ _ _) (by intro u hu; simp at hu; subst hu; rfl) (by omega) ?_); intro w2 hown2 hgrow2))
          obtain ⟨hrow2, hbel2⟩ := Row.push hown2 w hbel (by omega) hgrow2
          clear hown2 hgrow2 hrow hbel
          go_wp2_with (go_at_call 24; go_in)
          go_roundw
          case rel => exact ⟨k + 1, m + 1, o + 1, acc ++ [bt s k], by omega, by omega, by go_num, by go_num, rfl, hrow2, hbel2, by have h := H2.out; show _ = _; rw [H49.out]; simpa using h⟩
          case measure => simp [intOf]; omega
      · have e49 : (bt s k == 49) = false := by simpa using h49
        have h := HR.out
        rw [HD, stuffL_not _ _ _ h49] at h
        have hm : m + 1 ≤ cap := by have := congrArg List.length h; simp at this; have := HC.out; omega
        have H2 : Hid (acc ++ (bt s k :: stuffL 0 ((nums s).drop (k + 1))) = stuffL 0 (nums s)) := h
        have HL : Hid (acc.length = m) := hlen
        clear HD HR h h49 hlen
        go_wp2_with (first
          | (go_at_call 24; go_in)
          | (at_builtin; (refine wpList_append_fits _ rfl _ _ 38 rfl w.heap.size 5 i0 1 Tryd.underlying38 hi hz1 w.heap.size m cap (_) rfl (World.ownsRow.alloc hrow _) ⟨wr.heap.size, 0, none⟩ 1 1 [.int .u8 (bt s k)] rfl rfl (cell_one_new _ _ _) (by intro u hu; simp at hu; subst hu; rfl) (by omega) ?_); intro w2 hown2 hgrow2))
        obtain ⟨hrow2, hbel2⟩ := Row.push hown2 w hbel (by omega) hgrow2
        clear hown2 hgrow2 hrow hbel
        go_wp2_with (go_at_call 24; go_in)
        go_roundw
        case rel => exact ⟨k + 1, m + 1, 0, acc ++ [bt s k], by omega, by omega, by go_num, rfl, rfl, hrow2, hbel2, by have h := H2.out; show _ = _; simpa using h⟩
        case measure => simp [intOf]; omega
    · have hcv := hrow.conv
      go_wp2
      go_ret2
      have h := HR.out
      rw [drop_end s k (by omega)] at h
      simp [stuffL] at h
      rw [h]
      exact ⟨rfl, hbel⟩
set_option maxHeartbeats 400000 in
theorem unstuff_no (s : ByteArray) (w : World) (hs : s.size ≤ 281474976710656) (hr : rowB (nums s) = false) :
    Calls Tryd.prog 52 #[.string s] w fun e w' => e = .returned (.tuple #[.string ⟨#[]⟩, .int .i64 1]) ∧ Below w.heap.size w w' := by
  go_enter Tryd.func52, Tryd.ntmps52
  go_wp2_with (go_at_call 23; refine (isRow_any _ _ (by unfold maxLen; omega)).mono ?_; rintro e w' ⟨rfl, rfl⟩)
  go_ret2
  exact ⟨rfl, Below.refl _ _⟩

theorem ret_two {a b : List Int} {c d : Int} (h1 : a = b) (h2 : c = d) :
    Ending.returned (.tuple #[.string (strOfNums a), .int .i64 c]) = .returned (.tuple #[.string (strOfNums b), .int .i64 d]) := by rw [h1, h2]

set_option maxHeartbeats 1000000 in
theorem unstuff_ok (s : ByteArray) (w : World) (hs : s.size ≤ 281474976710656) (hr : rowB (nums s) = true) :
    Calls Tryd.prog 52 #[.string s] w fun e w' => e = .returned (.tuple #[.string (strOfNums (unstuffS (nums s))), .int .i64 (unstuffL 0 (nums s)).1]) ∧ Below w.heap.size w w' := by
  have hb := get_bt s
  obtain ⟨i0, hi, hz0, hz1, hz2⟩ := info_parts info5
  go_enter Tryd.func52, Tryd.ntmps52
  go_wp2_with (first
    | (go_at_call 23; refine (isRow_any _ _ (by unfold maxLen; omega)).mono ?_; rintro e w' ⟨rfl, rfl⟩)
    | (at_make; (refine wpList_make_own _ rfl _ _ 38 rfl w.heap.size 5 i0 (.int .u8 0) 1 Tryd.underlying38 hi hz0 hz1 _ _ _ s.size rfl rfl (by omega) (by rw [hz2]; omega) (by unfold maxLen; omega) (Nat.le_refl _) ?_); intro w1 hown hgrow))
  go_loopw [4, 5, 15] (fun v on i wr => ∃ (k m o : Nat) (acc : List Int), k ≤ s.size ∧ o ≤ 6 ∧ m ≤ k ∧ i = .int .i64 k ∧ on = .int .i64 o ∧ v = .slice (some ⟨w.heap.size, 0, none⟩) m s.size ∧
      Row wr w.heap.size m s.size acc ∧ Below w.heap.size w wr ∧ Hid ((unstuffL o ((nums s).drop k)).1 = (unstuffL 0 (nums s)).1 ∧ acc ++ (unstuffL o ((nums s).drop k)).2 = (unstuffL 0 (nums s)).2))
    (fun _ _ i _ => s.size - (intOf i).toNat)
  case atStart => exact ⟨0, 0, 0, [], Nat.zero_le _, Nat.zero_le _, Nat.le_refl _, rfl, rfl, rfl, hown, (Below.refl _ _).grown hgrow (Nat.le_refl _) (fun k hk => by cases hk), rfl, rfl⟩
  case round =>
    obtain ⟨k, m, o, acc, hk, ho, hmk, rfl, rfl, rfl, hrow, hbel, HR⟩ := hrel
    have hsz := hbel.size
    clear hown hgrow
    by_cases hlt : k < s.size
    · have HD := drop_nums s k hlt
      by_cases h49 : bt s k = 49
      · have e49 : (bt s k == 49) = true := by simpa using h49
        by_cases h6 : o < 6
        · rw [h49] at HD
          have h := HR.out
          rw [HD, unstuffL_one _ _ h6] at h
          have H2 : Hid ((unstuffL (o + 1) ((nums s).drop (k + 1))).1 = (unstuffL 0 (nums s)).1 ∧ acc ++ (49 :: (unstuffL (o + 1) ((nums s).drop (k + 1))).2) = (unstuffL 0 (nums s)).2) := h
          have H49 : Hid (bt s k = 49) := h49
          clear HD HR h h49
          go_wp2_with (first
            | (go_at_call 24; go_in)
            | (at_builtin; (refine wpList_append_fits _ rfl _ _ 38 rfl w.heap.size 5 i0 1 Tryd.underlying38 hi hz1 w.heap.size m s.size (_) rfl (World.ownsRow.alloc hrow _) ⟨wr.heap.size, 0, none⟩ 1 1 [.int .u8 (bt s k)] rfl rfl (cell_one_new _ _ _) (by intro u hu; simp at hu; subst hu; rfl) (by omega) ?_); intro w2 hown2 hgrow2))
          obtain ⟨hrow2, hbel2⟩ := Row.push hown2 w hbel (by omega) hgrow2
          clear hown2 hgrow2 hrow hbel
          go_wp2_with (go_at_call 24; go_in)
          go_roundw
          case rel => exact ⟨k + 1, m + 1, o + 1, acc ++ [bt s k], by omega, by omega, by omega, by go_num, by go_num, rfl, hrow2, hbel2, by have h := H2.out; refine ⟨h.1, ?_⟩; rw [H49.out]; simpa using h.2⟩
          case measure => simp [intOf]; omega
        · have h6' : o = 6 := by omega
          subst h6'
          rw [h49] at HD
          have h := HR.out
          rw [HD, unstuffL_bad] at h
          have h1 : (unstuffL 0 (nums s)).1 = 6 := h.1.symm
          have h2 : unstuffS (nums s) = [] := by unfold unstuffS; rw [h1]; simp
          have H1 : Hid ((unstuffL 0 (nums s)).1 = 6) := h1
          have H2 : Hid (unstuffS (nums s) = []) := h2
          clear HD HR h h49 h1 h2
          go_wp2_with (go_at_call 24; go_in)
          go_ret2
          exact ⟨ret_two (a := []) (c := 6) H2.out.symm H1.out.symm, hbel⟩
      · have e49 : (bt s k == 49) = false := by simpa using h49
        by_cases h6 : o < 6
        · have h := HR.out
          rw [HD, unstuffL_not _ _ _ h6 h49] at h
          have H2 : Hid ((unstuffL 0 ((nums s).drop (k + 1))).1 = (unstuffL 0 (nums s)).1 ∧ acc ++ (bt s k :: (unstuffL 0 ((nums s).drop (k + 1))).2) = (unstuffL 0 (nums s)).2) := h
          clear HD HR h h49
          go_wp2_with (first
            | (go_at_call 24; go_in)
            | (at_builtin; (refine wpList_append_fits _ rfl _ _ 38 rfl w.heap.size 5 i0 1 Tryd.underlying38 hi hz1 w.heap.size m s.size (_) rfl (World.ownsRow.alloc hrow _) ⟨wr.heap.size, 0, none⟩ 1 1 [.int .u8 (bt s k)] rfl rfl (cell_one_new _ _ _) (by intro u hu; simp at hu; subst hu; rfl) (by omega) ?_); intro w2 hown2 hgrow2))
          obtain ⟨hrow2, hbel2⟩ := Row.push hown2 w hbel (by omega) hgrow2
          clear hown2 hgrow2 hrow hbel
          go_wp2_with (go_at_call 24; go_in)
          go_roundw
          case rel => exact ⟨k + 1, m + 1, 0, acc ++ [bt s k], by omega, by omega, by omega, by go_num, rfl, rfl, hrow2, hbel2, by have h := H2.out; refine ⟨h.1, ?_⟩; simpa using h.2⟩
          case measure => simp [intOf]; omega
        · have h6' : o = 6 := by omega
          subst h6'
          have h := HR.out
          rw [HD, unstuffL_out _ _ h49] at h
          have H2 : Hid ((unstuffL 0 ((nums s).drop (k + 1))).1 = (unstuffL 0 (nums s)).1 ∧ acc ++ (unstuffL 0 ((nums s).drop (k + 1))).2 = (unstuffL 0 (nums s)).2) := h
          clear HD HR h h49
          go_wp2_with (go_at_call 24; go_in)
          go_roundw
          case rel => exact ⟨k + 1, m, 0, acc, by omega, by omega, by omega, by go_num, rfl, rfl, hrow, hbel, H2.out⟩
          case measure => simp [intOf]; omega
    · have h := HR.out
      rw [drop_end s k (by omega)] at h
      clear HR
      by_cases h6 : o = 6
      · subst h6
        have h1 : (unstuffL 0 (nums s)).1 = 3 := h.1.symm
        have h2 : unstuffS (nums s) = [] := by unfold unstuffS; rw [h1]; simp
        have H1 : Hid ((unstuffL 0 (nums s)).1 = 3) := h1
        have H2 : Hid (unstuffS (nums s) = []) := h2
        clear h h1 h2
        go_wp2
        go_ret2
        exact ⟨ret_two (a := []) (c := 3) H2.out.symm H1.out.symm, hbel⟩
      · have h0 : unstuffL o [] = (0, []) := by simp [unstuffL, h6]
        rw [h0] at h
        have h1 : (unstuffL 0 (nums s)).1 = 0 := h.1.symm
        have h2 : unstuffS (nums s) = acc := by unfold unstuffS; rw [h1]; simpa using h.2.symm
        have H1 : Hid ((unstuffL 0 (nums s)).1 = 0) := h1
        have H2 : Hid (unstuffS (nums s) = acc) := h2
        have ho' : o < 6 := by omega
        clear h h1 h2 h0 h6
        have hcv := hrow.conv
        go_wp2
        go_ret2
        exact ⟨ret_two H2.out.symm H1.out.symm, hbel⟩
end Go.Proofs.YtbkdalgmhmaofaaDoor.lane
