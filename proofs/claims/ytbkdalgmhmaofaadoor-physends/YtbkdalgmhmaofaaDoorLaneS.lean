/- plugref's lane: what Turn and Unturn answer. -/
import Derived.Test.YtbkdalgmhmaofaaDoorLaneR
namespace Go.Proofs.YtbkdalgmhmaofaaDoor.lane
open Go.RowKit Go.PlainAid

theorem set_mid (acc : List Int) (r : Nat) (k : Nat) (v : Int) (h : acc.length = k) : (acc ++ List.replicate (r + 1) (0 : Int)).set k v = (acc ++ [v]) ++ List.replicate r 0 := by
  subst h
  rw [List.replicate_succ]
  simp
theorem Row.cell {w : World} {B m n : Nat} {acc : List Int} (h : Row w B m n acc) (k : Nat) (hk : k < m) : w.cell? ⟨B, k, none⟩ = some (.int .u8 (acc.getD k 0)) := by
  have hl := h.len
  rw [World.ownsRow.cellAt h k (by omega)]
  simp [List.getD, List.getElem?_eq_getElem (show k < acc.length by omega)]
theorem Row.free {w : World} {B m n : Nat} {acc : List Int} (h : Row w B m n acc) (k : Nat) : w.frozen? ⟨B, k, none⟩ = false := World.ownsRow.frozenAt h k
theorem Row.set {w : World} {B m n : Nat} {acc : List Int} (h : Row w B m n acc) (k : Nat) (v : Int) : Row (w.setCell ⟨B, k, none⟩ (.int .u8 v)) B m n (acc.set k v) := by
  have := (World.ownsRow.stored h k (.int .u8 v)).1
  unfold Row
  rw [List.map_set]
  exact this
theorem Row.made {w : World} {B n : Nat} (h : w.ownsRow B 5 1 (.slice (some ⟨B, 0, none⟩) n n) n (madeCells (Value.int .u8 0).cells (n * 1)).toList) : Row w B n n (List.replicate n 0) := by
  have e : (madeCells (Value.int .u8 0).cells (n * 1)).toList = (List.replicate n (0 : Int)).map (Value.int .u8) := by
    rw [Nat.mul_one]
    have := toList_madeCells_one (Value.int .u8 0) n
    rw [List.map_replicate]
    exact this
  rw [e] at h
  exact h
/-- a row that is filled from the front: k are there -/
structure Fill (w0 w : World) (B n k : Nat) (acc : List Int) : Prop where
  row : Row w B n n (acc ++ List.replicate (n - k) 0)
  len : acc.length = k
  bel : Below B w0 w
theorem Fill.set {w0 w : World} {B n k : Nat} {acc : List Int} (h : Fill w0 w B n k acc) (hk : k < n) (v : Int) : Fill w0 (w.setCell ⟨B, k, none⟩ (.int .u8 v)) B n (k + 1) (acc ++ [v]) := by
  refine ⟨?_, by simp [h.len], h.bel.setCell (Nat.le_refl _) _⟩
  have := h.row.set k v
  rw [show n - k = (n - (k + 1)) + 1 by omega, set_mid acc _ k v h.len] at this
  exact this
theorem Fill.set2 {w0 w : World} {B n k : Nat} {acc : List Int} (h : Fill w0 w B n k acc) (hk : k < n) (v u : Int) : Fill w0 ((w.setCell ⟨B, k, none⟩ (.int .u8 v)).setCell ⟨B, k, none⟩ (.int .u8 u)) B n (k + 1) (acc ++ [u]) := by
  refine ⟨?_, by simp [h.len], (h.bel.setCell (Nat.le_refl _) _).setCell (Nat.le_refl _) _⟩
  have := (h.row.set k v).set k u
  rw [List.set_set, show n - k = (n - (k + 1)) + 1 by omega, set_mid acc _ k u h.len] at this
  exact this
theorem Fill.done {w0 w : World} {B n : Nat} {acc : List Int} (h : Fill w0 w B n n acc) : Row w B n n acc := by
  have := h.row
  rw [Nat.sub_self] at this
  simpa using this

def lvl (c : Int) (z : Nat) : Int := if z % 2 = 1 then oth c else c
theorem oth_oth {c : Int} (h : lev c = true) : oth (oth c) = c := by
  rcases lev_cases h with rfl | rfl <;> simp [oth]
theorem lvl_succ {c : Int} (h : lev c = true) (z : Nat) : oth (lvl c z) = lvl c (z + 1) := by
  unfold lvl
  by_cases e : z % 2 = 1
  · rw [if_pos e, if_neg (by omega), oth_oth h]
  · rw [if_neg e, if_pos (by omega)]

set_option maxHeartbeats 400000 in
theorem rturn_no (s : ByteArray) (c : Int) (w : World) (hs : s.size ≤ 281474976710656) (h : rowB (nums s) = false ∨ lev c = false) :
    Calls Tryd.prog 16 #[.string s, .int .u8 c] w fun e w' => e = .returned (.tuple #[.string ⟨#[]⟩, .int .i64 1]) ∧ Below w.heap.size w w' := by
  cases hr : rowB (nums s)
  · clear h
    go_enter Tryd.func16, Tryd.ntmps16
    go_wp2_with (go_at_call 19; refine (only_row _ _ (by unfold maxLen; omega)).mono ?_; rintro e w' ⟨rfl, rfl⟩)
    go_ret2
    exact ⟨rfl, Below.refl _ _⟩
  · rw [hr] at h
    have hl : lev c = false := by simpa using h
    simp [lev] at hl
    have h1 : (c != 74) = true := by simpa using hl.1
    have h2 : (c != 75) = true := by simpa using hl.2
    clear h hl
    go_enter Tryd.func16, Tryd.ntmps16
    go_wp2_with (go_at_call 19; refine (only_row _ _ (by unfold maxLen; omega)).mono ?_; rintro e w' ⟨rfl, rfl⟩)
    go_ret2
    exact ⟨rfl, Below.refl _ _⟩

theorem lev_tests {c : Int} (h : lev c = true) : ((c != 74) = true ∧ (c != 75) = false) ∨ (c != 74) = false := by
  rcases lev_cases h with rfl | rfl
  · exact .inr rfl
  · exact .inl ⟨rfl, rfl⟩

set_option maxHeartbeats 1000000 in
theorem rturn_ok (s : ByteArray) (c : Int) (w : World) (hs : s.size ≤ 281474976710656) (hr : rowB (nums s) = true) (hc : lev c = true) :
    Calls Tryd.prog 16 #[.string s, .int .u8 c] w fun e w' => e = .returned (.tuple #[.string (strOfNums (turnL c (nums s))), .int .i64 0]) ∧ Below w.heap.size w w' := by
  have hb := get_bt s
  obtain ⟨i0, hi, hz0, hz1, hz2⟩ := info_parts info5
  have HC : Hid (lev c = true) := hc
  rcases lev_tests hc with ⟨t1, t2⟩ | t1
  all_goals
    clear hc
    go_enter Tryd.func16, Tryd.ntmps16
    go_wp2_with (first
      | (go_at_call 19; refine (only_row _ _ (by unfold maxLen; omega)).mono ?_; rintro e w' ⟨rfl, rfl⟩)
      | (at_make; (refine wpList_make_full _ rfl _ _ 38 rfl w.heap.size 5 i0 (.int .u8 0) 1 Tryd.underlying38 hi hz0 hz1 _ _ _ _ s.size rfl rfl (by omega) (by omega) (by rw [hz2]; omega) (by unfold maxLen; omega) (Nat.le_refl _) ?_); intro w1 hown hgrow))
    go_loopw [7, 25] (fun zs i wr => ∃ (k z : Nat) (acc : List Int), k ≤ s.size ∧ z ≤ k ∧ i = .int .i64 k ∧ zs = .int .i64 z ∧
        Fill w wr w.heap.size s.size k acc ∧ Hid (acc ++ turnL (lvl c z) ((nums s).drop k) = turnL c (nums s)))
      (fun _ i _ => s.size - (intOf i).toNat)
    case atStart => exact ⟨0, 0, [], Nat.zero_le _, Nat.le_refl _, rfl, rfl, ⟨Row.made hown, rfl, (Below.refl _ _).grown hgrow (Nat.le_refl _) (fun k hk => by cases hk)⟩, rfl⟩
    case round =>
      obtain ⟨k, z, acc, hk, hz, rfl, rfl, hfill, HR⟩ := hrel
      clear hown hgrow
      by_cases hlt : k < s.size
      · have hd := drop_nums s k hlt
        have h := HR.out
        rw [hd] at h
        have hce := hfill.row.cell k hlt
        have hfr := hfill.row.free k
        have HF : Hid (Fill w wr w.heap.size s.size k acc) := hfill
        clear HR hd hfill
        by_cases h48 : bt s k = 48
        · have e48 : (bt s k == 48) = true := by simpa using h48
          have H1 : Hid (acc ++ (lvl c (z + 1) :: turnL (lvl c (z + 1)) ((nums s).drop (k + 1))) = turnL c (nums s)) := by
            rw [h48] at h
            simp only [turnL, if_pos] at h
            rw [lvl_succ HC.out] at h
            exact h
          clear h h48
          by_cases hp : (z + 1) % 2 = 1
          · have hp1 : (((z : Int) + 1) % 2 == 1) = true := by simp; omega
            have HV : Hid (lvl c (z + 1) = oth c) := if_pos hp
            clear hp
            go_wp2_with (go_at_call 32; refine (Other_any _ _).mono ?_; rintro e w' ⟨rfl, rfl⟩)
            go_roundw
            case rel => exact ⟨k + 1, z + 1, acc ++ [lvl c (z + 1)], by omega, by omega, by go_num, by go_num, by rw [HV.out]; exact HF.out.set2 hlt _ _, by have h := H1.out; show _ = _; simpa using h⟩
            case measure => simp [intOf]; omega
          · have hp1 : (((z : Int) + 1) % 2 == 1) = false := by simp; omega
            have HV : Hid (lvl c (z + 1) = c) := if_neg hp
            clear hp
            go_wp2_with (go_at_call 32; refine (Other_any _ _).mono ?_; rintro e w' ⟨rfl, rfl⟩)
            go_roundw
            case rel => exact ⟨k + 1, z + 1, acc ++ [lvl c (z + 1)], by omega, by omega, by go_num, by go_num, by rw [HV.out]; exact HF.out.set hlt _, by have h := H1.out; show _ = _; simpa using h⟩
            case measure => simp [intOf]; omega
        · have e48 : (bt s k == 48) = false := by simpa using h48
          have H1 : Hid (acc ++ (lvl c z :: turnL (lvl c z) ((nums s).drop (k + 1))) = turnL c (nums s)) := by
            simp only [turnL, if_neg h48] at h
            exact h
          clear h h48
          by_cases hp : z % 2 = 1
          · have hp1 : ((z : Int) % 2 == 1) = true := by simp; omega
            have HV : Hid (lvl c z = oth c) := if_pos hp
            clear hp
            go_wp2_with (go_at_call 32; refine (Other_any _ _).mono ?_; rintro e w' ⟨rfl, rfl⟩)
            go_roundw
            case rel => exact ⟨k + 1, z, acc ++ [lvl c z], by omega, by omega, by go_num, rfl, by rw [HV.out]; exact HF.out.set2 hlt _ _, by have h := H1.out; show _ = _; simpa using h⟩
            case measure => simp [intOf]; omega
          · have hp1 : ((z : Int) % 2 == 1) = false := by simp; omega
            have HV : Hid (lvl c z = c) := if_neg hp
            clear hp
            go_wp2_with (go_at_call 32; refine (Other_any _ _).mono ?_; rintro e w' ⟨rfl, rfl⟩)
            go_roundw
            case rel => exact ⟨k + 1, z, acc ++ [lvl c z], by omega, by omega, by go_num, rfl, by rw [HV.out]; exact HF.out.set hlt _, by have h := H1.out; show _ = _; simpa using h⟩
            case measure => simp [intOf]; omega
      · obtain rfl : k = s.size := by omega
        have hcv := hfill.done.conv
        go_wp2
        go_ret2
        have h := HR.out
        rw [drop_end s _ (by omega)] at h
        simp [turnL] at h
        rw [h]
        exact ⟨rfl, hfill.bel⟩
end Go.Proofs.YtbkdalgmhmaofaaDoor.lane
