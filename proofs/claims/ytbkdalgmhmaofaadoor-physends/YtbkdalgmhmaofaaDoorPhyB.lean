/- phy: what Piece answers. -/
import Derived.Test.YtbkdalgmhmaofaaDoorPhyA
namespace Go.Proofs.YtbkdalgmhmaofaaDoor.lane
open Go.RowKit Go.PlainAid
set_option linter.unusedVariables false

theorem piece_form {v : List Int} (h : levB v = false) : pieceL v = (4, []) := by unfold pieceL; rw [h]; rfl
theorem piece_sync {v : List Int} (h : levB v = true) (h2 : ¬ (unturnL 74 v).take 8 = leadL) : pieceL v = (7, []) := by
  unfold pieceL; rw [if_pos h, if_neg h2]
theorem piece_stuff {v : List Int} (h : levB v = true) (h2 : (unturnL 74 v).take 8 = leadL) (h3 : ¬ (unstuffL 0 (unturnL 74 v)).1 = 0) : pieceL v = ((unstuffL 0 (unturnL 74 v)).1, []) := by
  unfold pieceL; rw [if_pos h, if_pos h2, if_neg h3]
theorem piece_odd {v : List Int} (h : levB v = true) (h2 : (unturnL 74 v).take 8 = leadL) (h3 : (unstuffL 0 (unturnL 74 v)).1 = 0) (h4 : ¬ ((plainL v).drop 8).length % 8 = 0) : pieceL v = (4, []) := by
  unfold pieceL; rw [if_pos h, if_pos h2, if_pos h3, if_neg h4]
theorem piece_size {v : List Int} (h : levB v = true) (h2 : (unturnL 74 v).take 8 = leadL) (h3 : (unstuffL 0 (unturnL 74 v)).1 = 0) (h4 : ((plainL v).drop 8).length % 8 = 0) (h5 : ¬ sizedL (((plainL v).drop 8).length / 8) = 0) :
    pieceL v = (sizedL (((plainL v).drop 8).length / 8), []) := by
  unfold pieceL; rw [if_pos h, if_pos h2, if_pos h3, if_pos h4, if_neg h5]
theorem piece_ok {v : List Int} (h : levB v = true) (h2 : (unturnL 74 v).take 8 = leadL) (h3 : (unstuffL 0 (unturnL 74 v)).1 = 0) (h4 : ((plainL v).drop 8).length % 8 = 0) (h5 : sizedL (((plainL v).drop 8).length / 8) = 0) :
    pieceL v = (0, bytesL ((plainL v).drop 8)) := by
  unfold pieceL; rw [if_pos h, if_pos h2, if_pos h3, if_pos h4, if_pos h5]
def pieceS (s : ByteArray) : ByteArray := strOfNums (pieceL (nums s)).2
def pieceC (s : ByteArray) : Int := (pieceL (nums s)).1

set_option maxHeartbeats 2000000 in
theorem piece_any (s : ByteArray) (w : World) (hs : s.size ≤ 281474976710656) :
    Calls Tryd.prog 34 #[.string s] w fun e w' => e = .returned (.tuple #[.string (pieceS s), .int .i64 (pieceC s)]) ∧ Below w.heap.size w w' := by
  unfold pieceS pieceC
  cases hl : levB (nums s)
  · rw [piece_form hl]
    have H : Hid (∀ w, Calls Tryd.prog 50 #[.string s, .int .u8 74] w fun e w' => e = .returned (.tuple #[.string ⟨#[]⟩, .int .i64 1]) ∧ Below w.heap.size w w') := fun w => unturn_no s 74 w hs (.inl hl)
    clear hl hs
    go_enter Tryd.func34, Tryd.ntmps34
    go_wp2_with fail
    refine (H.out _).mono ?_
    rintro e u ⟨rfl, hb⟩
    go_wp2
    go_ret2
    exact ⟨rfl, hb⟩
  · have H : Hid (∀ w, Calls Tryd.prog 50 #[.string s, .int .u8 74] w fun e w' => e = .returned (.tuple #[.string (strOfNums (unturnL 74 (nums s))), .int .i64 0]) ∧ Below w.heap.size w w') := fun w => unturn_ok s 74 w hs hl rfl
    have ed : nums (strOfNums (unturnL 74 (nums s))) = unturnL 74 (nums s) := nums_str _ (byt_row (rowB_unturn _ _))
    have hz : (strOfNums (unturnL 74 (nums s))).size = s.size := by rw [str_size, unturnL_length, nums_length]
    obtain ⟨d, hd⟩ : ∃ d, strOfNums (unturnL 74 (nums s)) = d := ⟨_, rfl⟩
    rw [hd] at H ed hz
    clear hd
    have hrow : rowB (nums d) = true := by rw [ed]; exact rowB_unturn _ _
    have HP : Hid (∀ w, Calls Tryd.prog 51 #[.string d, .string ⟨#[48, 48, 48, 48, 48, 48, 48, 49]⟩] w fun e w' => e = .returned (.bool (decide ((unturnL 74 (nums s)).take 8 = leadL))) ∧ w = w') := fun w => by
      have := hasPrefix_any d ⟨#[48, 48, 48, 48, 48, 48, 48, 49]⟩ w (by unfold maxLen; omega) (by decide)
      rw [ed] at this
      exact this
    by_cases h2 : (unturnL 74 (nums s)).take 8 = leadL
    · rw [decide_eq_true h2] at HP
      have HU : Hid (∀ w, Calls Tryd.prog 52 #[.string d] w fun e w' => e = .returned (.tuple #[.string (strOfNums (unstuffS (unturnL 74 (nums s)))), .int .i64 (unstuffL 0 (unturnL 74 (nums s))).1]) ∧ Below w.heap.size w w') := fun w => by
        have := unstuff_ok d w (by omega) hrow
        rw [ed] at this
        exact this
      by_cases h3 : (unstuffL 0 (unturnL 74 (nums s))).1 = 0
      · have eu : unstuffS (unturnL 74 (nums s)) = plainL (nums s) := by unfold unstuffS plainL; rw [if_pos h3]
        obtain ⟨p1, p2⟩ := plain_lead (nums s) h2
        have hrp : rowB (plainL (nums s)) = true := ((stuff_unstuff (unturnL 74 (nums s)) (rowB_unturn _ _)).1 0 (by omega) h3).2
        rw [eu, h3] at HU
        have en : nums (strOfNums (plainL (nums s))) = plainL (nums s) := nums_str _ (byt_row hrp)
        have hz2 : (strOfNums (plainL (nums s))).size ≤ s.size := by
          rw [str_size]
          have := unstuffL_length 0 (unturnL 74 (nums s))
          rw [unturnL_length, nums_length] at this
          exact this
        have hz3 : 8 ≤ (strOfNums (plainL (nums s))).size := by
          rw [str_size, p1, List.length_append]
          exact Nat.le_add_right _ _
        obtain ⟨p, hp⟩ : ∃ p, strOfNums (plainL (nums s)) = p := ⟨_, rfl⟩
        rw [hp] at HU en hz2 hz3
        clear hp
        have eq : nums (p.extract 8 p.size) = (plainL (nums s)).drop 8 := by
          rw [nums_extract, en, ← en, ← nums_length p, List.take_length]
        have hqz : (p.extract 8 p.size).size = ((plainL (nums s)).drop 8).length := by rw [← nums_length, eq]
        obtain ⟨q, hq⟩ : ∃ q, p.extract 8 p.size = q := ⟨_, rfl⟩
        rw [hq] at eq hqz
        have hrq : rowB (nums q) = true := by rw [eq, p2]; exact hrp
        have hqs : q.size ≤ s.size := by
          rw [hqz, List.length_drop, ← en, nums_length]; omega
        by_cases h4 : ((plainL (nums s)).drop 8).length % 8 = 0
        · have HB : Hid (∀ w, Calls Tryd.prog 53 #[.string q] w fun e w' => e = .returned (.tuple #[.string (strOfNums (bytesL ((plainL (nums s)).drop 8))), .int .i64 0]) ∧ Below w.heap.size w w') := fun w => by
            have := bytes_ok q w (by omega) hrq (by rw [hqz]; exact h4)
            rw [eq] at this
            exact this
          have ht : (strOfNums (bytesL ((plainL (nums s)).drop 8))).size = ((plainL (nums s)).drop 8).length / 8 := by rw [str_size, bytesL_length]
          by_cases h5 : sizedL (((plainL (nums s)).drop 8).length / 8) = 0
          · rw [piece_ok hl h2 h3 h4 h5]
            show Calls _ _ _ _ fun e w' => e = .returned (.tuple #[.string (strOfNums (bytesL ((plainL (nums s)).drop 8))), .int .i64 0]) ∧ _
            obtain ⟨t, hT⟩ : ∃ t, strOfNums (bytesL ((plainL (nums s)).drop 8)) = t := ⟨_, rfl⟩
            rw [hT] at HB ht ⊢
            have HZ : Hid (∀ w, Calls Tryd.prog 10 #[.string t] w fun e w' => e = .returned (.int .i64 0) ∧ w = w') := fun w => by
              have := sized_any t w (by unfold maxLen; omega)
              rw [ht, h5] at this
              exact this
            clear hT ht hl h2 h3 h4 h5 eu p1 p2 hrp en eq hqz hrq hrow ed
            go_enter Tryd.func34, Tryd.ntmps34
            go_wp2_with fail
            refine (H.out _).mono ?_
            rintro e u ⟨rfl, hb⟩
            go_wp2_with fail
            refine (HP.out _).mono ?_
            rintro e u1 ⟨rfl, rfl⟩
            go_wp2_with fail
            refine (HU.out _).mono ?_
            rintro e u2 ⟨rfl, hb2⟩
            replace hb := bsq hb hb2
            clear hb2
            go_wp2_with fail
            refine (HB.out _).mono ?_
            rintro e u3 ⟨rfl, hb2⟩
            replace hb := bsq hb hb2
            clear hb2
            go_wp2_with fail
            refine (HZ.out _).mono ?_
            rintro e u4 ⟨rfl, rfl⟩
            go_wp2
            go_ret2
            exact ⟨rfl, hb⟩
          · rw [piece_size hl h2 h3 h4 h5]
            show Calls _ _ _ _ fun e w' => e = .returned (.tuple #[.string ⟨#[]⟩, .int .i64 (sizedL (((plainL (nums s)).drop 8).length / 8))]) ∧ _
            obtain ⟨t, hT⟩ : ∃ t, strOfNums (bytesL ((plainL (nums s)).drop 8)) = t := ⟨_, rfl⟩
            rw [hT] at HB ht
            have HZ : Hid (∀ w, Calls Tryd.prog 10 #[.string t] w fun e w' => e = .returned (.int .i64 (sizedL (((plainL (nums s)).drop 8).length / 8))) ∧ w = w') := fun w => by
              have := sized_any t w (by unfold maxLen; omega)
              rw [ht] at this
              exact this
            have hne : ((sizedL (((plainL (nums s)).drop 8).length / 8) != 0) = true) := by simpa using h5
            obtain ⟨c, hc⟩ : ∃ c, sizedL (((plainL (nums s)).drop 8).length / 8) = c := ⟨_, rfl⟩
            rw [hc] at HZ hne ⊢
            clear hc hT ht hl h2 h3 h4 h5 eu p1 p2 hrp en eq hqz hrq hrow ed
            go_enter Tryd.func34, Tryd.ntmps34
            go_wp2_with fail
            refine (H.out _).mono ?_
            rintro e u ⟨rfl, hb⟩
            go_wp2_with fail
            refine (HP.out _).mono ?_
            rintro e u1 ⟨rfl, rfl⟩
            go_wp2_with fail
            refine (HU.out _).mono ?_
            rintro e u2 ⟨rfl, hb2⟩
            replace hb := bsq hb hb2
            clear hb2
            go_wp2_with fail
            refine (HB.out _).mono ?_
            rintro e u3 ⟨rfl, hb2⟩
            replace hb := bsq hb hb2
            clear hb2
            go_wp2_with fail
            refine (HZ.out _).mono ?_
            rintro e u4 ⟨rfl, rfl⟩
            go_wp2
            go_ret2
            exact ⟨rfl, hb⟩
        · rw [piece_odd hl h2 h3 h4]
          have HB : Hid (∀ w, Calls Tryd.prog 53 #[.string q] w fun e w' => e = .returned (.tuple #[.string ⟨#[]⟩, .int .i64 4]) ∧ Below w.heap.size w w') := fun w => bytes_odd q w (by omega) hrq (by rw [hqz]; exact h4)
          clear hl h2 h3 h4 eu p1 p2 hrp en eq hqz hrq hrow ed
          go_enter Tryd.func34, Tryd.ntmps34
          go_wp2_with fail
          refine (H.out _).mono ?_
          rintro e u ⟨rfl, hb⟩
          go_wp2_with fail
          refine (HP.out _).mono ?_
          rintro e u1 ⟨rfl, rfl⟩
          go_wp2_with fail
          refine (HU.out _).mono ?_
          rintro e u2 ⟨rfl, hb2⟩
          replace hb := bsq hb hb2
          clear hb2
          go_wp2_with fail
          refine (HB.out _).mono ?_
          rintro e u3 ⟨rfl, hb2⟩
          replace hb := bsq hb hb2
          clear hb2
          go_wp2
          go_ret2
          exact ⟨rfl, hb⟩
      · rw [piece_stuff hl h2 h3]
        show Calls _ _ _ _ fun e w' => e = .returned (.tuple #[.string ⟨#[]⟩, .int .i64 (unstuffL 0 (unturnL 74 (nums s))).1]) ∧ _
        have hne : (((unstuffL 0 (unturnL 74 (nums s))).1 != 0) = true) := by simpa using h3
        obtain ⟨c, hc⟩ : ∃ c, (unstuffL 0 (unturnL 74 (nums s))).1 = c := ⟨_, rfl⟩
        obtain ⟨p, hp⟩ : ∃ p, strOfNums (unstuffS (unturnL 74 (nums s))) = p := ⟨_, rfl⟩
        rw [hc] at HU hne ⊢
        rw [hp] at HU
        clear hc hp h3 h2 hl hrow ed
        go_enter Tryd.func34, Tryd.ntmps34
        go_wp2_with fail
        refine (H.out _).mono ?_
        rintro e u ⟨rfl, hb⟩
        go_wp2_with fail
        refine (HP.out _).mono ?_
        rintro e u1 ⟨rfl, rfl⟩
        go_wp2_with fail
        refine (HU.out _).mono ?_
        rintro e u2 ⟨rfl, hb2⟩
        replace hb := bsq hb hb2
        clear hb2
        go_wp2
        go_ret2
        exact ⟨rfl, hb⟩
    · rw [decide_eq_false h2] at HP
      rw [piece_sync hl h2]
      clear hl h2 hrow ed
      go_enter Tryd.func34, Tryd.ntmps34
      go_wp2_with fail
      refine (H.out _).mono ?_
      rintro e u ⟨rfl, hb⟩
      go_wp2_with fail
      refine (HP.out _).mono ?_
      rintro e u1 ⟨rfl, rfl⟩
      go_wp2
      go_ret2
      exact ⟨rfl, hb⟩

end Go.Proofs.YtbkdalgmhmaofaaDoor.lane
