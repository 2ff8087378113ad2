/- lane: what Turn and Unturn answer. -/
import Derived.Test.YtbkdalgmhmaofabLaneA
import Derived.WalkKit
import Derived.Handy
import Derived.WalkSpells
namespace Go.Proofs.Ytbkdalgmhmaofab.lane
open Go.RowKit Go.PlainAid

theorem info5 : (Try.prog.info? 5).map (fun i => (i.zero, i.size, i.bytes)) = some (some (.int .u8 0), 1, 1) := by kernel_rfl

/-- a row of bytes of the call's own: block B, m of n places taken, they hold acc -/
def Row (w : World) (B m n : Nat) (acc : List Int) : Prop :=
  w.ownsRow B 5 1 (.slice (some ⟨B, 0, none⟩) m n) m (acc.map (Value.int .u8))
theorem Row.len {w : World} {B m n : Nat} {acc : List Int} (h : Row w B m n acc) : acc.length = m := by
  have := h.1; simpa using this
theorem Row.conv {w : World} {B m n : Nat} {acc : List Int} (h : Row w B m n acc) :
    (convert 41 9 (.slice (some ⟨B, 0, none⟩) m n)).run Try.prog w = .ok (.string (strOfNums acc)) w := by
  refine run_convert_bytes_arg w 41 5 Try.underlying41 Try.underlying5 B 0 m n acc h.len ?_ 9 Try.underlying9
  intro i hi
  have hl := h.len
  have e := World.ownsRow.cellAt h i (by omega)
  rw [Nat.zero_add, e]
  simp [List.getD, List.getElem?_eq_getElem (show i < acc.length by omega)]
theorem Row.push {w w2 : World} {B m n : Nat} {acc : List Int} {x : Int} {o : Obj}
    (h : w2.ownsRow B 5 1 (.slice (some ⟨B, 0, none⟩) (m + 1) n) (m + 1) (acc.map (Value.int .u8) ++ [.int .u8 x]))
    (w0 : World) (hb : Below B w0 w) (hB : B ≤ w.heap.size) (hg : (w.alloc o).grownBy w2 (some B)) : Row w2 B (m + 1) n (acc ++ [x]) ∧ Below B w0 w2 := by
  refine ⟨by unfold Row; simpa using h, ?_⟩
  exact (hb.alloc hB o).grown hg (by simp; omega) (fun k hk => by simp at hk; omega)

set_option maxHeartbeats 400000 in
theorem turn_ok (s : ByteArray) (c : Int) (w : World) (hs : s.size ≤ 281474976710656) (hr : rowB (nums s) = true) (hc : lev c = true) :
    Calls Try.prog 22 #[.string s, .int .u8 c] w fun e w' => e = .returned (.tuple #[.string (strOfNums (turnL c (nums s))), .int .i64 0]) ∧ Below w.heap.size w w' := by
  have hb := get_bt s
  obtain ⟨i0, hi, hz0, hz1, hz2⟩ := info_parts info5
  go_enter Try.func22, Try.ntmps22
  go_wp2_with (first
    | (go_at_call 30; refine (isRow_any _ _ (by unfold maxLen; omega)).mono ?_; rintro e w' ⟨rfl, rfl⟩)
    | (go_at_call 33; refine (isLevel_any _ _).mono ?_; rintro e w' ⟨rfl, rfl⟩)
    | (at_make; (refine wpList_make_own _ rfl _ _ 41 rfl w.heap.size 5 i0 (.int .u8 0) 1 Try.underlying41 hi hz0 hz1 _ _ _ s.size rfl rfl (by omega) (by rw [hz2]; omega) (by unfold maxLen; omega) (Nat.le_refl _) ?_); intro w1 hown hgrow))
  go_loopw [6, 1, 21] (fun v lv i wr => ∃ (k : Nat) (acc : List Int) (d : Int), k ≤ s.size ∧ i = .int .i64 k ∧ lv = .int .u8 d ∧ v = .slice (some ⟨w.heap.size, 0, none⟩) k s.size ∧
      Row wr w.heap.size k s.size acc ∧ Below w.heap.size w wr ∧ Hid (acc ++ turnL d ((nums s).drop k) = turnL c (nums s)))
    (fun _ _ i _ => s.size - (intOf i).toNat)
  case atStart => exact ⟨0, [], c, Nat.zero_le _, rfl, rfl, rfl, hown, (Below.refl _ _).grown hgrow (Nat.le_refl _) (fun k hk => by cases hk), rfl⟩
  case round =>
    obtain ⟨k, acc, d, hk, rfl, rfl, rfl, hrow, hbel, HR⟩ := hrel
    have hsz := hbel.size
    clear hown hgrow
    by_cases hlt : k < s.size
    · have hd := drop_nums s k hlt
      have HD : Hid ((nums s).drop k = bt s k :: (nums s).drop (k + 1)) := hd
      clear hd
      by_cases h48 : bt s k = 48
      · have e48 : (bt s k == 48) = true := by simpa using h48
        have H48 : Hid (bt s k = 48) := h48
        clear h48
        go_wp2_with (first
          | (go_at_call 34; refine (other_any _ _).mono ?_; rintro e w' ⟨rfl, rfl⟩)
          | (at_builtin; (refine wpList_append_fits _ rfl _ _ 41 rfl w.heap.size 5 i0 1 Try.underlying41 hi hz1 w.heap.size k s.size (acc.map (Value.int .u8)) rfl (World.ownsRow.alloc hrow _) ⟨wr.heap.size, 0, none⟩ 1 1 [.int .u8 (oth d)] rfl rfl (cell_one_new _ _ _) (by intro u hu; simp at hu; subst hu; rfl) (by omega) ?_); intro w2 hown2 hgrow2))
        obtain ⟨hrow2, hbel2⟩ := Row.push hown2 w hbel (by omega) hgrow2
        clear hown2 hgrow2 hrow hbel
        go_wp2
        go_roundw
        case rel => exact ⟨k + 1, acc ++ [oth d], oth d, by omega, by go_num, rfl, rfl, hrow2, hbel2, by have h := HR.out; rw [HD.out] at h; show _ = _; simpa [turnL, H48.out] using h⟩
        case measure => simp [intOf]; omega
      · have e48 : (bt s k == 48) = false := by simpa using h48
        have H48 : Hid (¬ bt s k = 48) := h48
        clear h48
        go_wp2_with (first
          | (at_builtin; (refine wpList_append_fits _ rfl _ _ 41 rfl w.heap.size 5 i0 1 Try.underlying41 hi hz1 w.heap.size k s.size (acc.map (Value.int .u8)) rfl (World.ownsRow.alloc hrow _) ⟨wr.heap.size, 0, none⟩ 1 1 [.int .u8 d] rfl rfl (cell_one_new _ _ _) (by intro u hu; simp at hu; subst hu; rfl) (by omega) ?_); intro w2 hown2 hgrow2))
        obtain ⟨hrow2, hbel2⟩ := Row.push hown2 w hbel (by omega) hgrow2
        clear hown2 hgrow2 hrow hbel
        go_wp2
        go_roundw
        case rel => exact ⟨k + 1, acc ++ [d], d, by omega, by go_num, rfl, rfl, hrow2, hbel2, by have h := HR.out; rw [HD.out] at h; show _ = _; simpa [turnL, H48.out] using h⟩
        case measure => simp [intOf]; omega
    · have hcv := hrow.conv
      go_wp2
      go_ret2
      have h := HR.out
      rw [drop_end s k (by omega)] at h
      simp [turnL] at h
      rw [h]
      exact ⟨rfl, hbel⟩

set_option maxHeartbeats 400000 in
theorem turn_no (s : ByteArray) (c : Int) (w : World) (hs : s.size ≤ 281474976710656) (h : rowB (nums s) = false ∨ lev c = false) :
    Calls Try.prog 22 #[.string s, .int .u8 c] w fun e w' => e = .returned (.tuple #[.string ⟨#[]⟩, .int .i64 1]) ∧ Below w.heap.size w w' := by
  cases hr : rowB (nums s)
  · clear h
    go_enter Try.func22, Try.ntmps22
    go_wp2_with (first
      | (go_at_call 30; refine (isRow_any _ _ (by unfold maxLen; omega)).mono ?_; rintro e w' ⟨rfl, rfl⟩)
      | (go_at_call 33; refine (isLevel_any _ _).mono ?_; rintro e w' ⟨rfl, rfl⟩))
    go_ret2
    exact ⟨rfl, Below.refl _ _⟩
  · rw [hr] at h
    have hl : lev c = false := by simpa using h
    clear h
    go_enter Try.func22, Try.ntmps22
    go_wp2_with (first
      | (go_at_call 30; refine (isRow_any _ _ (by unfold maxLen; omega)).mono ?_; rintro e w' ⟨rfl, rfl⟩)
      | (go_at_call 33; refine (isLevel_any _ _).mono ?_; rintro e w' ⟨rfl, rfl⟩))
    go_ret2
    exact ⟨rfl, Below.refl _ _⟩
set_option maxHeartbeats 400000 in
theorem unturn_no (s : ByteArray) (c : Int) (w : World) (hs : s.size ≤ 281474976710656) (h : levB (nums s) = false ∨ lev c = false) :
    Calls Try.prog 23 #[.string s, .int .u8 c] w fun e w' => e = .returned (.tuple #[.string ⟨#[]⟩, .int .i64 1]) ∧ Below w.heap.size w w' := by
  cases hr : levB (nums s)
  · clear h
    go_enter Try.func23, Try.ntmps23
    go_wp2_with (first
      | (go_at_call 35; refine (areLevels_any _ _ (by unfold maxLen; omega)).mono ?_; rintro e w' ⟨rfl, rfl⟩)
      | (go_at_call 33; refine (isLevel_any _ _).mono ?_; rintro e w' ⟨rfl, rfl⟩))
    go_ret2
    exact ⟨rfl, Below.refl _ _⟩
  · rw [hr] at h
    have hl : lev c = false := by simpa using h
    clear h
    go_enter Try.func23, Try.ntmps23
    go_wp2_with (first
      | (go_at_call 35; refine (areLevels_any _ _ (by unfold maxLen; omega)).mono ?_; rintro e w' ⟨rfl, rfl⟩)
      | (go_at_call 33; refine (isLevel_any _ _).mono ?_; rintro e w' ⟨rfl, rfl⟩))
    go_ret2
    exact ⟨rfl, Below.refl _ _⟩

set_option maxHeartbeats 400000 in
theorem unturn_ok (s : ByteArray) (c : Int) (w : World) (hs : s.size ≤ 281474976710656) (hr : levB (nums s) = true) (hc : lev c = true) :
    Calls Try.prog 23 #[.string s, .int .u8 c] w fun e w' => e = .returned (.tuple #[.string (strOfNums (unturnL c (nums s))), .int .i64 0]) ∧ Below w.heap.size w w' := by
  have hb := get_bt s
  obtain ⟨i0, hi, hz0, hz1, hz2⟩ := info_parts info5
  go_enter Try.func23, Try.ntmps23
  go_wp2_with (first
    | (go_at_call 35; refine (areLevels_any _ _ (by unfold maxLen; omega)).mono ?_; rintro e w' ⟨rfl, rfl⟩)
    | (go_at_call 33; refine (isLevel_any _ _).mono ?_; rintro e w' ⟨rfl, rfl⟩)
    | (at_make; (refine wpList_make_own _ rfl _ _ 41 rfl w.heap.size 5 i0 (.int .u8 0) 1 Try.underlying41 hi hz0 hz1 _ _ _ s.size rfl rfl (by omega) (by rw [hz2]; omega) (by unfold maxLen; omega) (Nat.le_refl _) ?_); intro w1 hown hgrow))
  go_loopw [6, 1, 21] (fun v lv i wr => ∃ (k : Nat) (acc : List Int) (d : Int), k ≤ s.size ∧ i = .int .i64 k ∧ lv = .int .u8 d ∧ v = .slice (some ⟨w.heap.size, 0, none⟩) k s.size ∧
      Row wr w.heap.size k s.size acc ∧ Below w.heap.size w wr ∧ Hid (acc ++ unturnL d ((nums s).drop k) = unturnL c (nums s)))
    (fun _ _ i _ => s.size - (intOf i).toNat)
  case atStart => exact ⟨0, [], c, Nat.zero_le _, rfl, rfl, rfl, hown, (Below.refl _ _).grown hgrow (Nat.le_refl _) (fun k hk => by cases hk), rfl⟩
  case round =>
    obtain ⟨k, acc, d, hk, rfl, rfl, rfl, hrow, hbel, HR⟩ := hrel
    have hsz := hbel.size
    clear hown hgrow
    by_cases hlt : k < s.size
    · have HD : Hid ((nums s).drop k = bt s k :: (nums s).drop (k + 1)) := drop_nums s k hlt
      go_wp2_with (first
        | (go_at_call 32; refine (sign_any _ _).mono ?_; rintro e w' ⟨rfl, rfl⟩)
        | (at_builtin; (refine wpList_append_fits _ rfl _ _ 41 rfl w.heap.size 5 i0 1 Try.underlying41 hi hz1 w.heap.size k s.size (acc.map (Value.int .u8)) rfl (World.ownsRow.alloc hrow _) ⟨wr.heap.size, 0, none⟩ 1 1 [.int .u8 (sgn (bt s k == d))] rfl rfl (cell_one_new _ _ _) (by intro u hu; simp at hu; subst hu; rfl) (by omega) ?_); intro w2 hown2 hgrow2))
      obtain ⟨hrow2, hbel2⟩ := Row.push hown2 w hbel (by omega) hgrow2
      clear hown2 hgrow2 hrow hbel
      go_wp2
      go_roundw
      case rel => exact ⟨k + 1, acc ++ [sgn (bt s k == d)], bt s k, by omega, by go_num, rfl, rfl, hrow2, hbel2, by have h := HR.out; rw [HD.out] at h; show _ = _; simpa [unturnL] using h⟩
      case measure => simp [intOf]; omega
    · have hcv := hrow.conv
      go_wp2
      go_ret2
      have h := HR.out
      rw [drop_end s k (by omega)] at h
      simp [unturnL] at h
      rw [h]
      exact ⟨rfl, hbel⟩
end Go.Proofs.Ytbkdalgmhmaofab.lane
