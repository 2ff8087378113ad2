/- plugref's utf: what narrowRune and TwoBytes answer. -/
import Derived.Test.YtilfenijbbhfjaaUtfE
import Derived.OwnWalk
namespace Go.Proofs.Ytilfenijbbhfjaa.utf
open Go.RowKit Go.PlainAid Go.Lib Go.Proofs.Ytilfenijbbhfjaa.lane

/-- a row of n bytes of the call's own, in block B -/
def Rw (w : World) (B n : Nat) (l : List Int) : Prop := w.ownsRow B 5 1 (.slice (some ⟨B, 0, none⟩) n n) n (l.map (Value.int .u8))
theorem Rw.len {w : World} {B n : Nat} {l : List Int} (h : Rw w B n l) : l.length = n := by have := h.1; simpa using this
theorem Rw.free {w : World} {B n : Nat} {l : List Int} (h : Rw w B n l) (k : Nat) : w.frozen? ⟨B, k, none⟩ = false := World.ownsRow.frozenAt h k
theorem Rw.cell {w : World} {B n : Nat} {l : List Int} (h : Rw w B n l) (k : Nat) (hk : k < n) : w.cell? ⟨B, k, none⟩ = some (.int .u8 (l.getD k 0)) := by
  have hl := h.len
  rw [World.ownsRow.cellAt h k (by omega)]
  simp [List.getD, List.getElem?_eq_getElem (show k < l.length by omega)]
theorem Rw.set {w : World} {B n : Nat} {l : List Int} (h : Rw w B n l) (k : Nat) (v : Int) : Rw (w.setCell ⟨B, k, none⟩ (.int .u8 v)) B n (l.set k v) := by
  have := (World.ownsRow.stored h k (.int .u8 v)).1
  unfold Rw
  rw [List.map_set]
  exact this
theorem Rw.made {w : World} {B n : Nat} (h : w.ownsRow B 5 1 (.slice (some ⟨B, 0, none⟩) n n) n (madeCells (Value.int .u8 0).cells (n * 1)).toList) : Rw w B n (List.replicate n 0) := by
  have e : (madeCells (Value.int .u8 0).cells (n * 1)).toList = (List.replicate n (0 : Int)).map (Value.int .u8) := by
    rw [Nat.mul_one]
    have := toList_madeCells_one (Value.int .u8 0) n
    rw [List.map_replicate]
    exact this
  rw [e] at h
  exact h
theorem Rw.conv {w : World} {B n : Nat} {l : List Int} (h : Rw w B n l) :
    (convert 48 9 (.slice (some ⟨B, 0, none⟩) n n)).run Try.prog w = .ok (.string (strOfNums l)) w := by
  refine run_convert_bytes_arg w 48 5 Try.underlying48 Try.underlying5 B 0 n n l h.len ?_ 9 Try.underlying9
  intro i hi
  have hl := h.len
  rw [Nat.zero_add]
  exact h.cell i (by omega)

/-- a rune's bytes from the last one on -/
def narF (first : Int) : Nat → Int → List Int → List Int
  | 0, c, tl => (first + c) :: tl
  | k + 1, c, tl => narF first k (c / 64) ((128 + c % 64) :: tl)
theorem set_rep (k : Nat) (x : Int) (tl : List Int) : (List.replicate (k + 1) (0 : Int) ++ tl).set k x = List.replicate k 0 ++ x :: tl := by
  rw [List.replicate_succ', List.append_assoc, List.set_append_right _ _ (by simp)]
  simp

set_option maxHeartbeats 1000000 in
theorem narrow_tail (m : Nat) (first c0 : Int) (E : List Int) (hm : 2 ≤ m) (hm4 : m ≤ 4) (hE : narF first (m - 1) c0 [] = E) (hb : ∀ x ∈ E, 0 ≤ x ∧ x < 256) (hf : 0 ≤ first) (h0 : 0 ≤ c0) (h1 : c0 ≤ 1114111)
    (ht : (m = 2 ∧ first = 192 ∧ ¬ c0 < 128 ∧ c0 < 2048) ∨ (m = 3 ∧ first = 224 ∧ ¬ c0 < 128 ∧ ¬ c0 < 2048 ∧ c0 < 65536) ∨ (m = 4 ∧ first = 240 ∧ ¬ c0 < 128 ∧ ¬ c0 < 2048 ∧ ¬ c0 < 65536)) (w : World) :
    Calls Try.prog 62 #[.int .i64 c0] w fun e w' => e = .returned (.string (strOfNums E)) ∧ Below w.heap.size w w' := by
  obtain ⟨i0, hi, hz0, hz1, hz2⟩ := info_parts infoB
  have HE : Hid (narF first (m - 1) c0 [] = E) := hE
  have HB : Hid (∀ x ∈ E, 0 ≤ x ∧ x < 256) := hb
  clear hE hb
  rcases ht with ⟨rfl, rfl, t1, t2⟩ | ⟨rfl, rfl, t1, t2, t3⟩ | ⟨rfl, rfl, t1, t2, t3⟩
  · go_enter Try.func62, Try.ntmps62
    go_wp2_with (at_make; (refine wpList_make_full _ rfl _ _ 48 rfl w.heap.size 5 i0 (.int .u8 0) 1 Try.underlying48 hi hz0 hz1 _ _ _ _ 2 rfl rfl (by omega) (by omega) (by rw [hz2]; omega) (by unfold maxLen; omega) (Nat.le_refl _) ?_); intro w1 hown hgrow)
    go_loopw [0, 5] (fun s0 s5 wr => ∃ (k : Nat) (c : Int) (tl : List Int), k + 1 + tl.length = 2 ∧ s0 = .int .i64 c ∧ s5 = .int .i64 (k : Int) ∧ 0 ≤ c ∧ c ≤ 1114111 ∧ Rw wr w.heap.size 2 (List.replicate (k + 1) 0 ++ tl) ∧ Below w.heap.size w wr ∧ Hid (narF 192 k c tl = E))
      (fun _ s5 _ => (intOf s5).toNat)
    case atStart => exact ⟨2 - 1, c0, [], by simp, rfl, rfl, h0, h1, by simpa using Rw.made hown, (Below.refl _ _).grown hgrow (Nat.le_refl _) (fun k hk => by cases hk), HE.out⟩
    case round =>
      obtain ⟨k, c, tl, hk, rfl, rfl, hc0, hc1, hrow, hbel, HN⟩ := hrel
      clear hown hgrow HE
      have hfr := Rw.free hrow k
      have hkl : k < 2 := by omega
      have hce := Rw.cell hrow k hkl
      cases k with
      | zero =>
        have hbd : 0 ≤ 192 + c ∧ 192 + c < 256 := HB.out _ (by rw [← HN.out]; simp [narF])
        have hset := Rw.set hrow 0 (192 + c)
        rw [set_rep] at hset
        have hcv := Rw.conv hset
        have HZ : Hid ([] ++ (192 + c) :: tl = E) := HN.out
        go_wp2
        go_ret
        exact ⟨by rw [← HZ.out]; rfl, hbel.setCell (Nat.le_refl _) _⟩
      | succ k =>
        have hset := Rw.set hrow (k + 1) (128 + c % 64)
        rw [set_rep] at hset
        have HS : Hid (Rw (wr.setCell ⟨w.heap.size, k + 1, none⟩ (.int .u8 (128 + c % 64))) w.heap.size 2 (List.replicate (k + 1) 0 ++ (128 + c % 64) :: tl)) := hset
        have HB2 : Hid (Below w.heap.size w (wr.setCell ⟨w.heap.size, k + 1, none⟩ (.int .u8 (128 + c % 64)))) := hbel.setCell (Nat.le_refl _) _
        clear hset hrow hbel
        have hkz : (0 : Int) < (k : Int) + 1 := by omega
        go_wp2
        go_roundw
        case rel => exact ⟨k, c / 64, (128 + c % 64) :: tl, by simp only [List.length_cons]; omega, rfl, by go_num, by omega, by omega, HS.out, HB2.out, HN.out⟩
        case measure => simp [intOf]
  · go_enter Try.func62, Try.ntmps62
    go_wp2_with (at_make; (refine wpList_make_full _ rfl _ _ 48 rfl w.heap.size 5 i0 (.int .u8 0) 1 Try.underlying48 hi hz0 hz1 _ _ _ _ 3 rfl rfl (by omega) (by omega) (by rw [hz2]; omega) (by unfold maxLen; omega) (Nat.le_refl _) ?_); intro w1 hown hgrow)
    go_loopw [0, 5] (fun s0 s5 wr => ∃ (k : Nat) (c : Int) (tl : List Int), k + 1 + tl.length = 3 ∧ s0 = .int .i64 c ∧ s5 = .int .i64 (k : Int) ∧ 0 ≤ c ∧ c ≤ 1114111 ∧ Rw wr w.heap.size 3 (List.replicate (k + 1) 0 ++ tl) ∧ Below w.heap.size w wr ∧ Hid (narF 224 k c tl = E))
      (fun _ s5 _ => (intOf s5).toNat)
    case atStart => exact ⟨3 - 1, c0, [], by simp, rfl, rfl, h0, h1, by simpa using Rw.made hown, (Below.refl _ _).grown hgrow (Nat.le_refl _) (fun k hk => by cases hk), HE.out⟩
    case round =>
      obtain ⟨k, c, tl, hk, rfl, rfl, hc0, hc1, hrow, hbel, HN⟩ := hrel
      clear hown hgrow HE
      have hfr := Rw.free hrow k
      have hkl : k < 3 := by omega
      have hce := Rw.cell hrow k hkl
      cases k with
      | zero =>
        have hbd : 0 ≤ 224 + c ∧ 224 + c < 256 := HB.out _ (by rw [← HN.out]; simp [narF])
        have hset := Rw.set hrow 0 (224 + c)
        rw [set_rep] at hset
        have hcv := Rw.conv hset
        have HZ : Hid ([] ++ (224 + c) :: tl = E) := HN.out
        go_wp2
        go_ret
        exact ⟨by rw [← HZ.out]; rfl, hbel.setCell (Nat.le_refl _) _⟩
      | succ k =>
        have hset := Rw.set hrow (k + 1) (128 + c % 64)
        rw [set_rep] at hset
        have HS : Hid (Rw (wr.setCell ⟨w.heap.size, k + 1, none⟩ (.int .u8 (128 + c % 64))) w.heap.size 3 (List.replicate (k + 1) 0 ++ (128 + c % 64) :: tl)) := hset
        have HB2 : Hid (Below w.heap.size w (wr.setCell ⟨w.heap.size, k + 1, none⟩ (.int .u8 (128 + c % 64)))) := hbel.setCell (Nat.le_refl _) _
        clear hset hrow hbel
        have hkz : (0 : Int) < (k : Int) + 1 := by omega
        go_wp2
        go_roundw
        case rel => exact ⟨k, c / 64, (128 + c % 64) :: tl, by simp only [List.length_cons]; omega, rfl, by go_num, by omega, by omega, HS.out, HB2.out, HN.out⟩
        case measure => simp [intOf]
  · go_enter Try.func62, Try.ntmps62
    go_wp2_with (at_make; (refine wpList_make_full _ rfl _ _ 48 rfl w.heap.size 5 i0 (.int .u8 0) 1 Try.underlying48 hi hz0 hz1 _ _ _ _ 4 rfl rfl (by omega) (by omega) (by rw [hz2]; omega) (by unfold maxLen; omega) (Nat.le_refl _) ?_); intro w1 hown hgrow)
    go_loopw [0, 5] (fun s0 s5 wr => ∃ (k : Nat) (c : Int) (tl : List Int), k + 1 + tl.length = 4 ∧ s0 = .int .i64 c ∧ s5 = .int .i64 (k : Int) ∧ 0 ≤ c ∧ c ≤ 1114111 ∧ Rw wr w.heap.size 4 (List.replicate (k + 1) 0 ++ tl) ∧ Below w.heap.size w wr ∧ Hid (narF 240 k c tl = E))
      (fun _ s5 _ => (intOf s5).toNat)
    case atStart => exact ⟨4 - 1, c0, [], by simp, rfl, rfl, h0, h1, by simpa using Rw.made hown, (Below.refl _ _).grown hgrow (Nat.le_refl _) (fun k hk => by cases hk), HE.out⟩
    case round =>
      obtain ⟨k, c, tl, hk, rfl, rfl, hc0, hc1, hrow, hbel, HN⟩ := hrel
      clear hown hgrow HE
      have hfr := Rw.free hrow k
      have hkl : k < 4 := by omega
      have hce := Rw.cell hrow k hkl
      cases k with
      | zero =>
        have hbd : 0 ≤ 240 + c ∧ 240 + c < 256 := HB.out _ (by rw [← HN.out]; simp [narF])
        have hset := Rw.set hrow 0 (240 + c)
        rw [set_rep] at hset
        have hcv := Rw.conv hset
        have HZ : Hid ([] ++ (240 + c) :: tl = E) := HN.out
        go_wp2
        go_ret
        exact ⟨by rw [← HZ.out]; rfl, hbel.setCell (Nat.le_refl _) _⟩
      | succ k =>
        have hset := Rw.set hrow (k + 1) (128 + c % 64)
        rw [set_rep] at hset
        have HS : Hid (Rw (wr.setCell ⟨w.heap.size, k + 1, none⟩ (.int .u8 (128 + c % 64))) w.heap.size 4 (List.replicate (k + 1) 0 ++ (128 + c % 64) :: tl)) := hset
        have HB2 : Hid (Below w.heap.size w (wr.setCell ⟨w.heap.size, k + 1, none⟩ (.int .u8 (128 + c % 64)))) := hbel.setCell (Nat.le_refl _) _
        clear hset hrow hbel
        have hkz : (0 : Int) < (k : Int) + 1 := by omega
        go_wp2
        go_roundw
        case rel => exact ⟨k, c / 64, (128 + c % 64) :: tl, by simp only [List.length_cons]; omega, rfl, by go_num, by omega, by omega, HS.out, HB2.out, HN.out⟩
        case measure => simp [intOf]

theorem one_conv (c : Int) (w : World) : (convert 48 9 (.slice (some ⟨w.heap.size, 0, none⟩) 1 1)).run Try.prog (w.alloc (.cells #[.int .u8 c] 5)) = .ok (.string (strOfNums [c])) (w.alloc (.cells #[.int .u8 c] 5)) := by
  refine run_convert_bytes_arg _ 48 5 Try.underlying48 Try.underlying5 w.heap.size 0 1 1 [c] rfl ?_ 9 Try.underlying9
  intro i hi
  match i, hi with
  | 0, _ => simp
theorem narrowRune_any (c : Int) (h : okR c) (w : World) : Calls Try.prog 62 #[.int .i64 c] w fun e w' => e = .returned (.string (strOfNums (encodeRuneZ c))) ∧ Below w.heap.size w w' := by
  have hbyt := encodeRuneZ_byte c
  unfold okR at h
  by_cases h1 : c < 128
  · rw [encodeRuneZ_one (by omega) (by omega)]
    have hc := one_conv c w
    have h0 : 0 ≤ c := by omega
    clear h hbyt
    go_enter Try.func62, Try.ntmps62
    go_wp2
    go_ret
    exact ⟨rfl, (Below.refl _ _).alloc (Nat.le_refl _) _⟩
  · by_cases h2 : c < 2048
    · exact narrow_tail 2 192 c _ (by omega) (by omega) (by rw [encodeRuneZ_two (by omega) (by omega)]; rfl) hbyt (by omega) (by omega) (by omega) (.inl ⟨rfl, rfl, h1, h2⟩) w
    · by_cases h3 : c < 65536
      · exact narrow_tail 3 224 c _ (by omega) (by omega) (by
          rw [encodeRuneZ_three (by omega)]
          simp only [narF, List.cons.injEq, and_true]
          omega) hbyt (by omega) (by omega) (by omega) (.inr (.inl ⟨rfl, rfl, h1, h2, h3⟩)) w
      · exact narrow_tail 4 240 c _ (by omega) (by omega) (by
          rw [encodeRuneZ_four (by omega) (by omega)]
          simp only [narF, List.cons.injEq, and_true]
          omega) hbyt (by omega) (by omega) (by omega) (.inr (.inr ⟨rfl, rfl, h1, h2, h3⟩)) w
theorem two_conv (x y : Int) (w : World) : (convert 48 9 (.slice (some ⟨w.heap.size, 0, none⟩) 2 2)).run Try.prog (w.alloc (.cells #[.int .u8 x, .int .u8 y] 5)) = .ok (.string (strOfNums [x, y])) (w.alloc (.cells #[.int .u8 x, .int .u8 y] 5)) := by
  refine run_convert_bytes_arg _ 48 5 Try.underlying48 Try.underlying5 w.heap.size 0 2 2 [x, y] rfl ?_ 9 Try.underlying9
  intro i hi
  match i, hi with
  | 0, _ => simp
  | 1, _ => simp
theorem twoBytes_any (n : Int) (h0 : 0 ≤ n) (h1 : n ≤ 65535) (w : World) :
    Calls Try.prog 31 #[.int .i64 n] w fun e w' => e = .returned (.string (strOfNums [n % 256, n / 256])) ∧ Below w.heap.size w w' := by
  have hc := two_conv (n % 256) (n / 256) w
  have he : n / 256 % 256 = n / 256 := by omega
  go_enter Try.func31, Try.ntmps31
  go_wp2
  go_ret
  exact ⟨rfl, (Below.refl _ _).alloc (Nat.le_refl _) _⟩
end Go.Proofs.Ytilfenijbbhfjaa.utf
