/- plugref's utf: what narrowRune and TwoBytes answer. -/
import Derived.Test.YtonheibhbilhhaaZAb
import Derived.OwnWalk
import Derived.Deep.RegionHeld3
import Derived.Deep.AppendLies
import Derived.Test.YtonheibhbilhhaaZAc
namespace Go.Proofs.Ytonheibhbilhhaa.utf
open Go.RowKit Go.PlainAid Go.Lib Go.Proofs.Ytonheibhbilhhaa.lane

/-- a row of n bytes of the call's own, in block B -/
def Rw (w : World) (B n : Nat) (l : List Int) : Prop := w.ownsRow B 5 1 (.slice (some ⟨B, 0, none⟩) n n) n (l.map (Value.int .u8))
theorem Rw.len {w : World} {B n : Nat} {l : List Int} (h : Rw w B n l) : l.length = n := by have := h.1; simpa using this
theorem Rw.free {w : World} {B n : Nat} {l : List Int} (h : Rw w B n l) (k : Nat) : w.frozen? ⟨B, k, none⟩ = false := World.ownsRow.frozenAt h k
theorem Rw.cell {w : World} {B n : Nat} {l : List Int} (h : Rw w B n l) (k : Nat) (hk : k < n) : w.cell? ⟨B, k, none⟩ = some (.int .u8 (l.getD k 0)) := by
  have hl := h.len
  rw [World.ownsRow.cellAt h k (by omega)]
  simp [List.getD, List.getElem?_eq_getElem (show k < l.length by omega)]
theorem Rw.set {w : World} {B n : Nat} {l : List Int} (h : Rw w B n l) (k : Nat) (v : Int) : Rw (w.setCell ⟨B, k, none⟩ (.int .u8 v)) B n (l.set k v) := by
  have := (World.ownsRow.stored h k (.int .u8 v)).1
  unfold Rw
  rw [List.map_set]
  exact this
theorem Rw.made {w : World} {B n : Nat} (h : w.ownsRow B 5 1 (.slice (some ⟨B, 0, none⟩) n n) n (madeCells (Value.int .u8 0).cells (n * 1)).toList) : Rw w B n (List.replicate n 0) := by
  have e : (madeCells (Value.int .u8 0).cells (n * 1)).toList = (List.replicate n (0 : Int)).map (Value.int .u8) := by
    rw [Nat.mul_one]
    have := toList_madeCells_one (Value.int .u8 0) n
    rw [List.map_replicate]
    exact this
  rw [e] at h
  exact h
theorem Rw.conv {w : World} {B n : Nat} {l : List Int} (h : Rw w B n l) :
    (convert 71 9 (.slice (some ⟨B, 0, none⟩) n n)).run Try.prog w = .ok (.string (strOfNums l)) w := by
  refine run_convert_bytes_arg w 71 5 Try.underlying71 Try.underlying5 B 0 n n l h.len ?_ 9 Try.underlying9
  intro i hi
  have hl := h.len
  rw [Nat.zero_add]
  exact h.cell i (by omega)

/-- a rune's bytes from the last one on -/
def narF (first : Int) : Nat → Int → List Int → List Int
  | 0, c, tl => (first + c) :: tl
  | k + 1, c, tl => narF first k (c / 64) ((128 + c % 64) :: tl)
theorem set_rep (k : Nat) (x : Int) (tl : List Int) : (List.replicate (k + 1) (0 : Int) ++ tl).set k x = List.replicate k 0 ++ x :: tl := by
  rw [List.replicate_succ', List.append_assoc, List.set_append_right _ _ (by simp)]
  simp

set_option maxHeartbeats 1000000 in
theorem narrow_tail (m : Nat) (first c0 : Int) (E : List Int) (hm : 2 ≤ m) (hm4 : m ≤ 4) (hE : narF first (m - 1) c0 [] = E) (hb : ∀ x ∈ E, 0 ≤ x ∧ x < 256) (hf : 0 ≤ first) (h0 : 0 ≤ c0) (h1 : c0 ≤ 1114111)
    (ht : (m = 2 ∧ first = 192 ∧ ¬ c0 < 128 ∧ c0 < 2048) ∨ (m = 3 ∧ first = 224 ∧ ¬ c0 < 128 ∧ ¬ c0 < 2048 ∧ c0 < 65536) ∨ (m = 4 ∧ first = 240 ∧ ¬ c0 < 128 ∧ ¬ c0 < 2048 ∧ ¬ c0 < 65536)) (w : World) :
    Calls Try.prog 97 #[.int .i64 c0] w fun e w' => e = .returned (.string (strOfNums E)) ∧ Below w.heap.size w w' := by
  obtain ⟨i0, hi, hz0, hz1, hz2⟩ := info_parts infoB
  have HE : Hid (narF first (m - 1) c0 [] = E) := hE
  have HB : Hid (∀ x ∈ E, 0 ≤ x ∧ x < 256) := hb
  clear hE hb
  rcases ht with ⟨rfl, rfl, t1, t2⟩ | ⟨rfl, rfl, t1, t2, t3⟩ | ⟨rfl, rfl, t1, t2, t3⟩
  · go_enter Try.func97, Try.ntmps97
    go_wp2_with (at_make; (refine wpList_make_full _ rfl _ _ 71 rfl w.heap.size 5 i0 (.int .u8 0) 1 Try.underlying71 hi hz0 hz1 _ _ _ _ 2 rfl rfl (by omega) (by omega) (by rw [hz2]; omega) (by unfold maxLen; omega) (Nat.le_refl _) ?_); intro w1 hown hgrow)
    go_loopw [0, 5] (fun s0 s5 wr => ∃ (k : Nat) (c : Int) (tl : List Int), k + 1 + tl.length = 2 ∧ s0 = .int .i64 c ∧ s5 = .int .i64 (k : Int) ∧ 0 ≤ c ∧ c ≤ 1114111 ∧ Rw wr w.heap.size 2 (List.replicate (k + 1) 0 ++ tl) ∧ Below w.heap.size w wr ∧ Hid (narF 192 k c tl = E))
      (fun _ s5 _ => (RowKit.intOf s5).toNat)
    case atStart => exact ⟨2 - 1, c0, [], by simp, rfl, rfl, h0, h1, by simpa using Rw.made hown, (Below.refl _ _).grown hgrow (Nat.le_refl _) (fun k hk => by cases hk), HE.out⟩
    case round =>
      obtain ⟨k, c, tl, hk, rfl, rfl, hc0, hc1, hrow, hbel, HN⟩ := hrel
      clear hown hgrow HE
      have hfr := Rw.free hrow k
      have hkl : k < 2 := by omega
      have hce := Rw.cell hrow k hkl
      cases k with
      | zero =>
        have hbd : 0 ≤ 192 + c ∧ 192 + c < 256 := HB.out _ (by rw [← HN.out]; simp [narF])
        have hset := Rw.set hrow 0 (192 + c)
        rw [set_rep] at hset
        have hcv := Rw.conv hset
        have HZ : Hid ([] ++ (192 + c) :: tl = E) := HN.out
        go_wp2
        go_ret
        exact ⟨by rw [← HZ.out]; rfl, hbel.setCell (Nat.le_refl _) _⟩
      | succ k =>
        have hset := Rw.set hrow (k + 1) (128 + c % 64)
        rw [set_rep] at hset
        have HS : Hid (Rw (wr.setCell ⟨w.heap.size, k + 1, none⟩ (.int .u8 (128 + c % 64))) w.heap.size 2 (List.replicate (k + 1) 0 ++ (128 + c % 64) :: tl)) := hset
        have HB2 : Hid (Below w.heap.size w (wr.setCell ⟨w.heap.size, k + 1, none⟩ (.int .u8 (128 + c % 64)))) := hbel.setCell (Nat.le_refl _) _
        clear hset hrow hbel
        have hkz : (0 : Int) < (k : Int) + 1 := by omega
        go_wp2
        go_roundw
        case rel => exact ⟨k, c / 64, (128 + c % 64) :: tl, by simp only [List.length_cons]; omega, rfl, by go_num, by omega, by omega, HS.out, HB2.out, HN.out⟩
        case measure => simp [RowKit.intOf]
  · go_enter Try.func97, Try.ntmps97
    go_wp2_with (at_make; (refine wpList_make_full _ rfl _ _ 71 rfl w.heap.size 5 i0 (.int .u8 0) 1 Try.underlying71 hi hz0 hz1 _ _ _ _ 3 rfl rfl (by omega) (by omega) (by rw [hz2]; omega) (by unfold maxLen; omega) (Nat.le_refl _) ?_); intro w1 hown hgrow)
    go_loopw [0, 5] (fun s0 s5 wr => ∃ (k : Nat) (c : Int) (tl : List Int), k + 1 + tl.length = 3 ∧ s0 = .int .i64 c ∧ s5 = .int .i64 (k : Int) ∧ 0 ≤ c ∧ c ≤ 1114111 ∧ Rw wr w.heap.size 3 (List.replicate (k + 1) 0 ++ tl) ∧ Below w.heap.size w wr ∧ Hid (narF 224 k c tl = E))
      (fun _ s5 _ => (RowKit.intOf s5).toNat)
    case atStart => exact ⟨3 - 1, c0, [], by simp, rfl, rfl, h0, h1, by simpa using Rw.made hown, (Below.refl _ _).grown hgrow (Nat.le_refl _) (fun k hk => by cases hk), HE.out⟩
    case round =>
      obtain ⟨k, c, tl, hk, rfl, rfl, hc0, hc1, hrow, hbel, HN⟩ := hrel
      clear hown hgrow HE
      have hfr := Rw.free hrow k
      have hkl : k < 3 := by omega
      have hce := Rw.cell hrow k hkl
      cases k with
      | zero =>
        have hbd : 0 ≤ 224 + c ∧ 224 + c < 256 := HB.out _ (by rw [← HN.out]; simp [narF])
        have hset := Rw.set hrow 0 (224 + c)
        rw [set_rep] at hset
        have hcv := Rw.conv hset
        have HZ : Hid ([] ++ (224 + c) :: tl = E) := HN.out
        go_wp2
        go_ret
        exact ⟨by rw [← HZ.out]; rfl, hbel.setCell (Nat.le_refl _) _⟩
      | succ k =>
        have hset := Rw.set hrow (k + 1) (128 + c % 64)
        rw [set_rep] at hset
        have HS : Hid (Rw (wr.setCell ⟨w.heap.size, k + 1, none⟩ (.int .u8 (128 + c % 64))) w.heap.size 3 (List.replicate (k + 1) 0 ++ (128 + c % 64) :: tl)) := hset
        have HB2 : Hid (Below w.heap.size w (wr.setCell ⟨w.heap.size, k + 1, none⟩ (.int .u8 (128 + c % 64)))) := hbel.setCell (Nat.le_refl _) _
        clear hset hrow hbel
        have hkz : (0 : Int) < (k : Int) + 1 := by omega
        go_wp2
        go_roundw
        case rel => exact ⟨k, c / 64, (128 + c % 64) :: tl, by simp only [List.length_cons]; omega, rfl, by go_num, by omega, by omega, HS.out, HB2.out, HN.out⟩
        case measure => simp [RowKit.intOf]
  · go_enter Try.func97, Try.ntmps97
    go_wp2_with (at_make; (refine wpList_make_full _ rfl _ _ 71 rfl w.heap.size 5 i0 (.int .u8 0) 1 Try.underlying71 hi hz0 hz1 _ _ _ _ 4 rfl rfl (by omega) (by omega) (by rw [hz2]; omega) (by unfold maxLen; omega) (Nat.le_refl _) ?_); intro w1 hown hgrow)
    go_loopw [0, 5] (fun s0 s5 wr => ∃ (k : Nat) (c : Int) (tl : List Int), k + 1 + tl.length = 4 ∧ s0 = .int .i64 c ∧ s5 = .int .i64 (k : Int) ∧ 0 ≤ c ∧ c ≤ 1114111 ∧ Rw wr w.heap.size 4 (List.replicate (k + 1) 0 ++ tl) ∧ Below w.heap.size w wr ∧ Hid (narF 240 k c tl = E))
      (fun _ s5 _ => (RowKit.intOf s5).toNat)
    case atStart => exact ⟨4 - 1, c0, [], by simp, rfl, rfl, h0, h1, by simpa using Rw.made hown, (Below.refl _ _).grown hgrow (Nat.le_refl _) (fun k hk => by cases hk), HE.out⟩
    case round =>
      obtain ⟨k, c, tl, hk, rfl, rfl, hc0, hc1, hrow, hbel, HN⟩ := hrel
      clear hown hgrow HE
      have hfr := Rw.free hrow k
      have hkl : k < 4 := by omega
      have hce := Rw.cell hrow k hkl
      cases k with
      | zero =>
        have hbd : 0 ≤ 240 + c ∧ 240 + c < 256 := HB.out _ (by rw [← HN.out]; simp [narF])
        have hset := Rw.set hrow 0 (240 + c)
        rw [set_rep] at hset
        have hcv := Rw.conv hset
        have HZ : Hid ([] ++ (240 + c) :: tl = E) := HN.out
        go_wp2
        go_ret
        exact ⟨by rw [← HZ.out]; rfl, hbel.setCell (Nat.le_refl _) _⟩
      | succ k =>
        have hset := Rw.set hrow (k + 1) (128 + c % 64)
        rw [set_rep] at hset
        have HS : Hid (Rw (wr.setCell ⟨w.heap.size, k + 1, none⟩ (.int .u8 (128 + c % 64))) w.heap.size 4 (List.replicate (k + 1) 0 ++ (128 + c % 64) :: tl)) := hset
        have HB2 : Hid (Below w.heap.size w (wr.setCell ⟨w.heap.size, k + 1, none⟩ (.int .u8 (128 + c % 64)))) := hbel.setCell (Nat.le_refl _) _
        clear hset hrow hbel
        have hkz : (0 : Int) < (k : Int) + 1 := by omega
        go_wp2
        go_roundw
        case rel => exact ⟨k, c / 64, (128 + c % 64) :: tl, by simp only [List.length_cons]; omega, rfl, by go_num, by omega, by omega, HS.out, HB2.out, HN.out⟩
        case measure => simp [RowKit.intOf]

theorem one_conv (c : Int) (w : World) : (convert 71 9 (.slice (some ⟨w.heap.size, 0, none⟩) 1 1)).run Try.prog (w.alloc (.cells #[.int .u8 c] 5)) = .ok (.string (strOfNums [c])) (w.alloc (.cells #[.int .u8 c] 5)) := by
  refine run_convert_bytes_arg _ 71 5 Try.underlying71 Try.underlying5 w.heap.size 0 1 1 [c] rfl ?_ 9 Try.underlying9
  intro i hi
  match i, hi with
  | 0, _ => simp
theorem narrowRune_any (c : Int) (h : okR c) (w : World) : Calls Try.prog 97 #[.int .i64 c] w fun e w' => e = .returned (.string (strOfNums (encodeRuneZ c))) ∧ Below w.heap.size w w' := by
  have hbyt := encodeRuneZ_byte c
  unfold okR at h
  by_cases h1 : c < 128
  · rw [encodeRuneZ_one (by omega) (by omega)]
    have hc := one_conv c w
    have h0 : 0 ≤ c := by omega
    clear h hbyt
    go_enter Try.func97, Try.ntmps97
    go_wp2
    go_ret
    exact ⟨rfl, (Below.refl _ _).alloc (Nat.le_refl _) _⟩
  · by_cases h2 : c < 2048
    · exact narrow_tail 2 192 c _ (by omega) (by omega) (by rw [encodeRuneZ_two (by omega) (by omega)]; rfl) hbyt (by omega) (by omega) (by omega) (.inl ⟨rfl, rfl, h1, h2⟩) w
    · by_cases h3 : c < 65536
      · exact narrow_tail 3 224 c _ (by omega) (by omega) (by
          rw [encodeRuneZ_three (by omega)]
          simp only [narF, List.cons.injEq, and_true]
          omega) hbyt (by omega) (by omega) (by omega) (.inr (.inl ⟨rfl, rfl, h1, h2, h3⟩)) w
      · exact narrow_tail 4 240 c _ (by omega) (by omega) (by
          rw [encodeRuneZ_four (by omega) (by omega)]
          simp only [narF, List.cons.injEq, and_true]
          omega) hbyt (by omega) (by omega) (by omega) (.inr (.inr ⟨rfl, rfl, h1, h2, h3⟩)) w
theorem two_conv (x y : Int) (w : World) : (convert 71 9 (.slice (some ⟨w.heap.size, 0, none⟩) 2 2)).run Try.prog (w.alloc (.cells #[.int .u8 x, .int .u8 y] 5)) = .ok (.string (strOfNums [x, y])) (w.alloc (.cells #[.int .u8 x, .int .u8 y] 5)) := by
  refine run_convert_bytes_arg _ 71 5 Try.underlying71 Try.underlying5 w.heap.size 0 2 2 [x, y] rfl ?_ 9 Try.underlying9
  intro i hi
  match i, hi with
  | 0, _ => simp
  | 1, _ => simp
theorem twoBytes_any (n : Int) (h0 : 0 ≤ n) (h1 : n ≤ 65535) (w : World) :
    Calls Try.prog 51 #[.int .i64 n] w fun e w' => e = .returned (.string (strOfNums [n % 256, n / 256])) ∧ Below w.heap.size w w' := by
  have hc := two_conv (n % 256) (n / 256) w
  have he : n / 256 % 256 = n / 256 := by omega
  go_enter Try.func51, Try.ntmps51
  go_wp2
  go_ret
  exact ⟨rfl, (Below.refl _ _).alloc (Nat.le_refl _) _⟩
end Go.Proofs.Ytonheibhbilhhaa.utf

/- plugref's utf: rows of integers; what Narrow answers. -/
namespace Go.Proofs.Ytonheibhbilhhaa.utf
set_option maxRecDepth 100000
open Go.RowKit Go.PlainAid Go.Lib Go.Proofs.Ytonheibhbilhhaa.lane

theorem infoI : (Try.prog.info? 3).map (fun i => (i.zero, i.size, i.bytes)) = some (some (.int .i64 0), 1, 8) := by kernel_rfl
/-- the value v owns the integers us, in a block from B on -/
def Ins (w : World) (B : Nat) (v : Value) (us : List Int) : Prop := w.ownsRow B 3 1 v us.length (us.map (Value.int .i64))
theorem Ins.nil (w : World) (B : Nat) : Ins w B (.slice none 0 0) [] := ⟨rfl, .inl ⟨rfl, rfl⟩⟩
theorem Ins.block {w : World} {B : Nat} {v : Value} {us : List Int} (h : Ins w B v us) : ∀ k, v.ownBlock = some k → B ≤ k := by
  intro k hk
  rcases h.2 with ⟨rfl, h0⟩ | ⟨g, cap, cur, rfl, hb, _⟩
  · cases hk
  · simp [Value.ownBlock] at hk; omega
theorem Ins.push {w1 : World} {B g cap : Nat} {us : List Int} {x : Int}
    (h : w1.ownsRow B 3 1 (.slice (some ⟨g, 0, none⟩) (us.length + 1) cap) (us.length + 1) (us.map (Value.int .i64) ++ [.int .i64 x])) :
    Ins w1 B (.slice (some ⟨g, 0, none⟩) (us.length + 1) cap) (us ++ [x]) := by
  unfold Ins
  simpa using h
/-- a slice that reads as the integers us -/
def Rd (w : World) (v : Value) (us : List Int) : Prop := ∃ a c, v = .slice a us.length c ∧ us.length ≤ c ∧ (us ≠ [] → ∃ g off, a = some ⟨g, off, none⟩ ∧ g < w.heap.size ∧ ∀ j x, us[j]? = some x → w.cell? ⟨g, off + j, none⟩ = some (.int .i64 x))
theorem Ins.rd {w : World} {B : Nat} {v : Value} {us : List Int} (h : Ins w B v us) : Rd w v us := by
  have h' := h
  rcases h.2 with ⟨rfl, h0⟩ | ⟨g, cap, cur, rfl, hB, hg, hnc, hcm, hs, ht⟩
  · exact ⟨none, 0, by rw [h0], by omega, fun hne => absurd (List.eq_nil_of_length_eq_zero h0) hne⟩
  · refine ⟨_, cap, rfl, hnc, fun _ => ⟨g, 0, rfl, ?_, ?_⟩⟩
    · rcases Nat.lt_or_ge g w.heap.size with hl | hl
      · exact hl
      · rw [Array.getElem?_eq_none hl] at hg; cases hg
    · intro j x hx
      have hj := (List.getElem?_eq_some_iff.1 hx).1
      rw [Nat.zero_add, World.ownsRow.cellAt h' j (by omega)]
      simp [hx]
theorem Rd.keep {w w' : World} {v : Value} {us : List Int} (h : Rd w v us) (hb : Below w.heap.size w w') : Rd w' v us := by
  obtain ⟨a, c, hv, h1, h3⟩ := h
  refine ⟨a, c, hv, h1, fun hne => ?_⟩
  obtain ⟨g, off, ha, hg, hc⟩ := h3 hne
  exact ⟨g, off, ha, by have := hb.size; omega, fun j x hx => (hb.cell (p := ⟨g, off + j, none⟩) hg).trans (hc j x hx)⟩
theorem Rd.tail {w : World} {g off c : Nat} {u : Int} {us : List Int} (h1 : us.length + 1 ≤ c) (hg : g < w.heap.size)
    (hc : ∀ j x, (u :: us)[j]? = some x → w.cell? ⟨g, off + j, none⟩ = some (.int .i64 x)) : Rd w (.slice (some ⟨g, off + 1, none⟩) us.length (c - 1)) us := by
  refine ⟨_, c - 1, rfl, by omega, fun _ => ⟨g, off + 1, rfl, hg, fun j x hx => ?_⟩⟩
  have := hc (j + 1) x (by simpa using hx)
  rw [show off + 1 + j = off + (j + 1) by omega]; exact this
theorem Rd.nil (w : World) (a : Option Addr) (c : Nat) : Rd w (.slice a 0 c) [] := ⟨a, c, rfl, Nat.zero_le _, fun h => absurd rfl h⟩
theorem Rd.zero {us : List Int} (w : World) (a : Option Addr) (c : Nat) (h : us.length = 0) : Rd w (.slice a us.length c) us := ⟨a, c, rfl, by omega, fun hn => absurd (List.eq_nil_of_length_eq_zero h) hn⟩
def lnOf : Value → Nat
  | .slice _ n _ => n
  | _ => 0

theorem q54 (u : Int) (h0 : 0 ≤ u) : (u / 1024 == 54) = decide (55296 ≤ u ∧ u ≤ 56319) := by
  rw [Bool.eq_iff_iff, beq_iff_eq, decide_eq_true_eq]; omega
theorem q55 (u : Int) (h0 : 0 ≤ u) : (u / 1024 == 55) = decide (56320 ≤ u ∧ u ≤ 57343) := by
  rw [Bool.eq_iff_iff, beq_iff_eq, decide_eq_true_eq]; omega
theorem q27 (u : Int) (h0 : 0 ≤ u) : (u / 2048 == 27) = decide (55296 ≤ u ∧ u ≤ 57343) := by
  rw [Bool.eq_iff_iff, beq_iff_eq, decide_eq_true_eq]; omega

theorem nstep {acc X : ByteArray} {V vs : List Int} {c : Int} (h : acc ++ strOfNums (encs (pairL V)) = X) (hp : pairL V = c :: pairL vs) : (acc ++ strOfNums (encodeRuneZ c)) ++ strOfNums (encs (pairL vs)) = X := by
  rw [hp, encs_cons, str_append, ← ByteArray.append_assoc] at h; exact h
theorem lone_ok {u : Int} (h0 : 0 ≤ u) (h1 : u ≤ 65535) : okR (loneU u) := by unfold loneU okR; split <;> omega
theorem pair_ok {u v : Int} (h : isPair u v) : okR (pairR u v) := by unfold isPair at h; unfold pairR okR; omega
theorem pairR_mod {u v : Int} (h : isPair u v) : 65536 + u % 1024 * 1024 + v % 1024 = pairR u v := by unfold isPair at h; unfold pairR; omega
theorem str_four (c : Int) : (strOfNums (encodeRuneZ c)).size ≤ 4 := by rw [str_size]; exact (encodeRuneZ_length c).2

set_option maxHeartbeats 4000000 in
theorem rnarrow_any (t : ByteArray) (w : World) (hm : t.size ≤ maxLen) :
    Calls Try.prog 80 #[.string t] w fun e w' => e = .returned (.tuple #[.string (ntxt t), .int .i64 (nerr t)]) ∧ Below w.heap.size w w' := by
  unfold maxLen at hm
  by_cases he : t.size % 2 = 1
  · rw [(ntxt_odd he).1, (ntxt_odd he).2]
    have hz : (t.size : Int) % 2 = 1 := by omega
    clear he
    go_enter Try.func80, Try.ntmps80
    go_wp2
    go_ret2
    exact ⟨rfl, Below.refl _ _⟩
  · have he : t.size % 2 = 0 := by omega
    have hz : (t.size : Int) % 2 = 0 := by omega
    by_cases hl : 252 < t.size
    · rw [(ntxt_big he hl).1, (ntxt_big he hl).2]
      clear he
      have hl2 : (252 : Int) < t.size := by omega
      clear hl
      go_enter Try.func80, Try.ntmps80
      go_wp2
      go_ret2
      exact ⟨rfl, Below.refl _ _⟩
    · have hok := ntxt_ok he (by omega)
      rw [hok.1, hok.2]
      have hmax := prs_len t he
      have HM : Hid ((encs (prs t)).length ≤ 504) := by show _ ≤ _; omega
      clear hok hmax
      have HE : Hid (t.size % 2 = 0) := he
      clear he
      obtain ⟨i0, hi, hz0, hz1, hz2⟩ := info_parts infoI
      go_enter Try.func80, Try.ntmps80
      go_wp2
      go_loopw [0, 4] (fun s0 v wr => ∃ (t' : ByteArray) (us : List Int), s0 = .string t' ∧ Ins wr w.heap.size v us ∧ t'.size ≤ 252 ∧ us.length + t'.size ≤ 252 ∧ Below w.heap.size w wr ∧ Hid (t'.size % 2 = 0 ∧ us ++ unitsL (nums t') = unitsL (nums t)))
        (fun s0 _ _ => szOf s0)
      case atStart => exact ⟨t, [], rfl, Ins.nil _ _, by omega, by simp; omega, Below.refl _ _, HE.out, rfl⟩
      case round =>
        obtain ⟨t', us, rfl, hown, hl', hul, hbel, HR⟩ := hrel
        clear hz
        have hsz := hbel.size
        by_cases h0 : t'.size = 0
        · obtain rfl := size_zero h0
          have h := HR.out.2
          rw [show unitsL (nums ⟨#[]⟩) = [] from rfl, List.append_nil] at h
          have hbd : ∀ u ∈ us, 0 ≤ u ∧ u ≤ 65535 := by rw [h]; exact unitsL_bound _ (nums_byt t)
          have HU : Hid (encs (pairL us) = encs (prs t)) := by show _ = _; rw [h]; rfl
          have HB0 : Hid (∀ u ∈ us, 0 ≤ u ∧ u ≤ 65535) := hbd
          have hrd := Ins.rd hown
          clear h hbd HR hown h0 hl' hul
          go_wp2_with fail
          go_loopw [4, 5] (fun v s5 wr => ∃ (vs : List Int) (acc : ByteArray), Rd wr v vs ∧ s5 = .string acc ∧ Below w.heap.size w wr ∧ Hid ((∀ u ∈ vs, 0 ≤ u ∧ u ≤ 65535) ∧ acc ++ strOfNums (encs (pairL vs)) = strOfNums (encs (prs t))))
            (fun v _ _ => lnOf v)
          case atStart => exact ⟨us, ⟨#[]⟩, hrd, rfl, hbel, HB0.out, by rw [HU.out]; apply ByteArray.ext; simp⟩
          case round =>
            clear hrd hbel HU HB0
            obtain ⟨vs, acc, ⟨a, c, rfl, hc1, hcells⟩, rfl, hbel, HR⟩ := hrel
            have hac : acc.size ≤ 504 := by
              have h := congrArg ByteArray.size HR.out.2
              rw [ByteArray.size_append, str_size, str_size] at h
              have := HM.out
              omega
            cases vs with
            | nil =>
              have h := HR.out.2
              rw [pairL_nil, encs_nil] at h
              have e : acc ++ strOfNums [] = acc := by apply ByteArray.ext; simp [strOfNums]
              rw [e] at h
              go_wp2
              go_ret2
              exact ⟨ret_si h rfl, hbel⟩
            | cons u r =>
              obtain ⟨g, off, rfl, hg, hcl⟩ := hcells (by simp)
              have hu := HR.out.1 u (by simp)
              have HRR : Hid (∀ x ∈ r, 0 ≤ x ∧ x ≤ 65535) := fun x hx => HR.out.1 x (by simp [hx])
              have c0 := hcl 0 u rfl
              rw [Nat.add_zero] at c0
              rw [List.length_cons] at hc1
              have HCL : Hid (∀ j x, (u :: r)[j]? = some x → wr.cell? ⟨g, off + j, none⟩ = some (.int .i64 x)) := hcl
              clear hcl hcells
              have hu0 : 0 ≤ u := hu.1
              have hu1 : u ≤ 65535 := hu.2
              clear hu
              have q1 := q54 u hu0
              have q3 := q27 u hu0
              cases r with
              | nil =>
                have HP : Hid (pairL [u] = loneU u :: pairL []) := by show _ = _; rw [pairL_one, pairL_nil]
                have lok := lone_ok hu0 hu1
                by_cases k3 : 55296 ≤ u ∧ u ≤ 57343
                · have e3 : (u / 2048 == 27) = true := by rw [q3]; simpa using k3
                  have el : loneU u = 65533 := by unfold loneU; rw [if_pos k3]
                  rw [el] at HP lok
                  clear q1 q3 k3 el
                  go_wp2_with fail
                  all_goals
                    refine (narrowRune_any 65533 lok _).mono ?_
                    rintro e w2 ⟨rfl, hb2⟩
                    have hz := str_four 65533
                    have HN : Hid ((∀ u ∈ ([] : List Int), 0 ≤ u ∧ u ≤ 65535) ∧ (acc ++ strOfNums (encodeRuneZ 65533)) ++ strOfNums (encs (pairL ([] : List Int))) = strOfNums (encs (prs t))) := ⟨HRR.out, nstep HR.out.2 HP.out⟩
                    generalize strOfNums (encodeRuneZ 65533) = x at *
                    have hzz : (acc ++ x).size = acc.size + x.size := ByteArray.size_append
                    go_wp2
                    go_roundw
                    case rel => exact ⟨([] : List Int), acc ++ x, Rd.nil _ _ _, rfl, hbel.trans (hb2.mono hbel.size), HN⟩
                    case measure => simp [lnOf]
                · have e3 : (u / 2048 == 27) = false := by rw [q3]; simpa using k3
                  have el : loneU u = u := by unfold loneU; rw [if_neg k3]
                  rw [el] at HP lok
                  clear q1 q3 k3 el
                  go_wp2_with fail
                  all_goals
                    refine (narrowRune_any u lok _).mono ?_
                    rintro e w2 ⟨rfl, hb2⟩
                    have hz := str_four u
                    have HN : Hid ((∀ u ∈ ([] : List Int), 0 ≤ u ∧ u ≤ 65535) ∧ (acc ++ strOfNums (encodeRuneZ u)) ++ strOfNums (encs (pairL ([] : List Int))) = strOfNums (encs (prs t))) := ⟨HRR.out, nstep HR.out.2 HP.out⟩
                    generalize strOfNums (encodeRuneZ u) = x at *
                    have hzz : (acc ++ x).size = acc.size + x.size := ByteArray.size_append
                    go_wp2
                    go_roundw
                    case rel => exact ⟨([] : List Int), acc ++ x, Rd.nil _ _ _, rfl, hbel.trans (hb2.mono hbel.size), HN⟩
                    case measure => simp [lnOf]
              | cons v r =>
                have c1 := HCL.out 1 v rfl
                have hv := HRR.out v (by simp)
                have hv0 : 0 ≤ v := hv.1
                have hv1 : v ≤ 65535 := hv.2
                clear hv
                have q2 := q55 v hv0
                rw [List.length_cons] at hc1
                have hc1n : ¬ c = 1 := by omega
                have RD1 : Hid (Rd wr (.slice (some ⟨g, off + 1, none⟩) (r.length + 1) (c - 1)) (v :: r)) := Rd.tail (by rw [List.length_cons]; omega) hg HCL.out
                by_cases kp : isPair u v
                · have e1 : (u / 1024 == 54) = true := by rw [q1]; exact decide_eq_true kp.1
                  have e2 : (v / 1024 == 55) = true := by rw [q2]; exact decide_eq_true kp.2
                  have HP : Hid (pairL (u :: v :: r) = pairR u v :: pairL r) := pairL_pair kp r
                  have pok := pair_ok kp
                  have em := pairR_mod kp
                  have HR3 : Hid (∀ x ∈ r, 0 ≤ x ∧ x ≤ 65535) := fun x hx => HRR.out x (by simp [hx])
                  have RD3 : Hid (Rd wr (.slice (some ⟨g, off + 1 + 1, none⟩) r.length (c - 1 - 1)) r) := Rd.tail (by omega) hg (fun j x hx => by
                    have := HCL.out (j + 1) x (by simpa using hx)
                    rw [show off + 1 + j = off + (j + 1) by omega]; exact this)
                  clear q1 q2 q3 kp
                  go_wp2_with fail
                  all_goals
                    refine (narrowRune_any (pairR u v) pok _).mono ?_
                    rintro e w2 ⟨rfl, hb2⟩
                    have hz := str_four (pairR u v)
                    have HN : Hid ((∀ u ∈ r, 0 ≤ u ∧ u ≤ 65535) ∧ (acc ++ strOfNums (encodeRuneZ (pairR u v))) ++ strOfNums (encs (pairL r)) = strOfNums (encs (prs t))) := ⟨HR3.out, nstep HR.out.2 HP.out⟩
                    generalize strOfNums (encodeRuneZ (pairR u v)) = x at *
                    have hzz : (acc ++ x).size = acc.size + x.size := ByteArray.size_append
                    go_wp2
                    go_roundw
                    case rel => first | exact ⟨r, acc ++ x, Rd.keep RD3.out hb2, rfl, hbel.trans (hb2.mono hbel.size), HN⟩ | exact ⟨r, acc ++ x, Rd.zero _ _ _ (by omega), rfl, hbel.trans (hb2.mono hbel.size), HN⟩
                    case measure => simp [lnOf]; omega
                · have HP : Hid (pairL (u :: v :: r) = loneU u :: pairL (v :: r)) := pairL_not kp r
                  have lok := lone_ok hu0 hu1
                  by_cases k1 : 55296 ≤ u ∧ u ≤ 56319
                  · have e1 : (u / 1024 == 54) = true := by rw [q1]; simpa using k1
                    have e2 : (v / 1024 == 55) = false := by rw [q2]; exact decide_eq_false (fun h => kp ⟨k1, h⟩)
                    have e3 : (u / 2048 == 27) = true := by rw [q3]; exact decide_eq_true (by omega)
                    have el : loneU u = 65533 := by unfold loneU; rw [if_pos (by omega)]
                    rw [el] at HP lok
                    clear q1 q2 q3 k1 el kp
                    go_wp2_with fail
                    refine (narrowRune_any 65533 lok _).mono ?_
                    rintro e w2 ⟨rfl, hb2⟩
                    have hz := str_four 65533
                    have HN : Hid ((∀ u ∈ (v :: r), 0 ≤ u ∧ u ≤ 65535) ∧ (acc ++ strOfNums (encodeRuneZ 65533)) ++ strOfNums (encs (pairL (v :: r))) = strOfNums (encs (prs t))) := ⟨HRR.out, nstep HR.out.2 HP.out⟩
                    generalize strOfNums (encodeRuneZ 65533) = x at *
                    have hzz : (acc ++ x).size = acc.size + x.size := ByteArray.size_append
                    go_wp2
                    go_roundw
                    case rel => exact ⟨(v :: r), acc ++ x, Rd.keep RD1.out hb2, rfl, hbel.trans (hb2.mono hbel.size), HN⟩
                    case measure => simp [lnOf]
                  · have e1 : (u / 1024 == 54) = false := by rw [q1]; exact decide_eq_false k1
                    by_cases k3 : 55296 ≤ u ∧ u ≤ 57343
                    · have e3 : (u / 2048 == 27) = true := by rw [q3]; exact decide_eq_true k3
                      have el : loneU u = 65533 := by unfold loneU; rw [if_pos k3]
                      rw [el] at HP lok
                      clear q1 q2 q3 k1 k3 el kp
                      go_wp2_with fail
                      refine (narrowRune_any 65533 lok _).mono ?_
                      rintro e w2 ⟨rfl, hb2⟩
                      have hz := str_four 65533
                      have HN : Hid ((∀ u ∈ (v :: r), 0 ≤ u ∧ u ≤ 65535) ∧ (acc ++ strOfNums (encodeRuneZ 65533)) ++ strOfNums (encs (pairL (v :: r))) = strOfNums (encs (prs t))) := ⟨HRR.out, nstep HR.out.2 HP.out⟩
                      generalize strOfNums (encodeRuneZ 65533) = x at *
                      have hzz : (acc ++ x).size = acc.size + x.size := ByteArray.size_append
                      go_wp2
                      go_roundw
                      case rel => exact ⟨(v :: r), acc ++ x, Rd.keep RD1.out hb2, rfl, hbel.trans (hb2.mono hbel.size), HN⟩
                      case measure => simp [lnOf]
                    · have e3 : (u / 2048 == 27) = false := by rw [q3]; exact decide_eq_false k3
                      have el : loneU u = u := by unfold loneU; rw [if_neg k3]
                      rw [el] at HP lok
                      clear q1 q2 q3 k1 k3 el kp
                      go_wp2_with fail
                      refine (narrowRune_any u lok _).mono ?_
                      rintro e w2 ⟨rfl, hb2⟩
                      have hz := str_four u
                      have HN : Hid ((∀ u ∈ (v :: r), 0 ≤ u ∧ u ≤ 65535) ∧ (acc ++ strOfNums (encodeRuneZ u)) ++ strOfNums (encs (pairL (v :: r))) = strOfNums (encs (prs t))) := ⟨HRR.out, nstep HR.out.2 HP.out⟩
                      generalize strOfNums (encodeRuneZ u) = x at *
                      have hzz : (acc ++ x).size = acc.size + x.size := ByteArray.size_append
                      go_wp2
                      go_roundw
                      case rel => exact ⟨(v :: r), acc ++ x, Rd.keep RD1.out hb2, rfl, hbel.trans (hb2.mono hbel.size), HN⟩
                      case measure => simp [lnOf]
        · have h2 : 2 ≤ t'.size := by have := HR.out.1; omega
          have hne : t'.toList.isEmpty = false := str_full t' (by omega)
          have hb := get_bt t'
          have b0 := bt_bounds t' 0
          have b1 := bt_bounds t' 1
          have g0 : 0 < t'.size := by omega
          have g1 : 1 < t'.size := by omega
          have hxs : (t'.extract 2 t'.size).size = t'.size - 2 := by rw [ByteArray.size_extract]; omega
          have hun : unitsL (nums t') = (bt t' 0 + 256 * bt t' 1) :: unitsL (nums (t'.extract 2 t'.size)) := by
            rw [nums_extract, List.take_of_length_le (by rw [nums_length]; exact Nat.le_refl _)]
            conv => lhs; rw [nums_two t' h2]
            rw [unitsL_two]
          obtain ⟨t2, ht2⟩ : ∃ t2, t'.extract 2 t'.size = t2 := ⟨_, rfl⟩
          rw [ht2] at hxs hun
          have HQ : Hid (t2.size % 2 = 0 ∧ (us ++ [bt t' 0 + 256 * bt t' 1]) ++ unitsL (nums t2) = unitsL (nums t)) := by
            have h := HR.out
            rw [hun] at h
            refine ⟨?_, by rw [List.append_assoc]; exact h.2⟩
            have := h.1; omega
          have HO : Hid (Ins wr w.heap.size u4 us) := hown
          clear HR hun hown
          have k0 : IntKind.i64.wrap (bt t' 0) = bt t' 0 := by rw [IntKind.wrap_i64]; omega
          have k1 : IntKind.i64.wrap (bt t' 1) = bt t' 1 := by rw [IntKind.wrap_i64]; omega
          have k2 : IntKind.i64.wrap (256 * bt t' 1) = 256 * bt t' 1 := by rw [IntKind.wrap_i64]; omega
          have k3 : IntKind.i64.wrap (bt t' 0 + 256 * bt t' 1) = bt t' 0 + 256 * bt t' 1 := by rw [IntKind.wrap_i64]; omega
          go_wp2_with fail
          go_region_held3 (fun w' => True) (trivial)
            ((refine step_append_lies _ (by rfl) _ _ _ (by rfl) w.heap.size 3 i0 _ 1 8 Try.underlying43 hi hz0 hz1 hz2 rfl (by omega) u4 us.length (us.map (Value.int .i64)) (by rfl) ((World.ownsRow.alloc HO.out _).drew)
                ⟨wr.heap.size, 0, none⟩ 1 1 [.int .i64 (bt t' 0 + 256 * bt t' 1)] (by rfl) (by rfl) (World.news_of_block (cs := #[.int .i64 (bt t' 0 + 256 * bt t' 1)]) (t := 3) (fr := (0, 0)) (heap_alloc_new wr _)) (by simp [Value.oneCell'])
                (by omega) (by unfold maxLen; omega) (by omega) (by simp; omega) (wr.heap.size + 1) (by simp) ?_; intro g cap w1 hown1 hgrow hat hgl))
          all_goals
            go_wp2
            go_roundw
            case rel => exact ⟨t2, us ++ [bt t' 0 + 256 * bt t' 1], rfl, Ins.push hown1, by omega, by simp; omega, ((hbel.alloc hsz _).drew).grown hgrow (by simp; omega) HO.out.block, HQ⟩
            case measure => show t2.size < t'.size; omega
end Go.Proofs.Ytonheibhbilhhaa.utf

/- plugref's desc: what TextText and ReadText answer. -/
namespace Go.Proofs.Ytonheibhbilhhaa.desc
open Go.RowKit Go.PlainAid Go.Proofs.Ytonheibhbilhhaa.lane Go.Proofs.Ytonheibhbilhhaa.utf
set_option linter.unusedVariables false

theorem two_all (n : Int) (h0 : 0 ≤ n) (h1 : n ≤ 255) : allB 255 [n, 3] = true := by
  simp [allB, inB, h0, h1]
set_option maxHeartbeats 1000000 in
theorem rreadText_any (t : ByteArray) (w : World) (hm : t.size ≤ maxLen) :
    Calls Try.prog 62 #[.string t] w fun e w' => e = .returned (.tuple #[.string (rdT t), .int .i64 (rdC t)]) ∧ Below w.heap.size w w' := by
  have HW : Hid (∀ w : World, Calls Try.prog 80 #[.string (t.extract 2 t.size)] w fun e w' => e = .returned (.tuple #[.string (ntxt (t.extract 2 t.size)), .int .i64 (nerr (t.extract 2 t.size))]) ∧ Below w.heap.size w w') := fun w => rnarrow_any _ w (by rw [ByteArray.size_extract]; omega)
  unfold maxLen at hm
  have hbt := get_bt t
  have h1 := bt_le t 0
  have h0 := bt_nonneg t 0
  unfold rdT rdC
  by_cases hs : t.size < 2
  · rw [if_pos hs, if_pos hs]
    clear HW h0 h1
    go_enter Try.func62, Try.ntmps62
    go_wp2
    go_ret2
    exact ⟨rfl, Below.refl _ _⟩
  rw [if_neg hs, if_neg hs]
  by_cases he : bt t 0 = (t.size : Int)
  · by_cases h3 : bt t 1 = 3
    · rw [if_pos ⟨he, h3⟩, if_pos ⟨he, h3⟩]
      have e1 : (bt t 0 != (t.size : Int)) = false := by simpa using he
      have e2 : (bt t 1 != 3) = false := by simpa using h3
      generalize ntxt (t.extract 2 t.size) = x at *
      generalize nerr (t.extract 2 t.size) = z at *
      clear he h3
      go_enter Try.func62, Try.ntmps62
      go_wp2_with fail
      refine (HW.out _).mono ?_
      rintro e wa ⟨rfl, hb⟩
      go_wp2
      go_ret2
      exact ⟨rfl, hb⟩
    · rw [if_neg (fun h => h3 h.2), if_neg (fun h => h3 h.2)]
      have e1 : (bt t 0 != (t.size : Int)) = false := by simpa using he
      have e2 : (bt t 1 != 3) = true := by simpa using h3
      clear he h3 HW
      go_enter Try.func62, Try.ntmps62
      go_wp2
      go_ret2
      exact ⟨rfl, Below.refl _ _⟩
  · rw [if_neg (fun h => he h.1), if_neg (fun h => he h.1)]
    have e1 : (bt t 0 != (t.size : Int)) = true := by simpa using he
    clear he HW
    go_enter Try.func62, Try.ntmps62
    go_wp2
    go_ret2
    exact ⟨rfl, Below.refl _ _⟩
end Go.Proofs.Ytonheibhbilhhaa.desc
