/- plugref's utf: what narrowRune and TwoBytes answer. -/
import Derived.Test.YtonheibhbilhhaaGreatZAb
import Derived.OwnWalk
import Derived.Deep.RegionHeld3
import Derived.Deep.AppendLies
import Derived.Test.YtonheibhbilhhaaGreatZAc
namespace Go.Proofs.YtonheibhbilhhaaGreat.utf
open Go.RowKit Go.PlainAid Go.Lib Go.Proofs.YtonheibhbilhhaaGreat.lane
def Rw (w : World) (B n : Nat) (l : List Int) : Prop := w.ownsRow B 5 1 (.slice (some ⟨B, 0, none⟩) n n) n (l.map (Value.int .u8))
theorem Rw.len {w : World} {B n : Nat} {l : List Int} (h : Rw w B n l) : l.length = n := by have := h.1; simpa using this
theorem Rw.free {w : World} {B n : Nat} {l : List Int} (h : Rw w B n l) (k : Nat) : w.frozen? ⟨B, k, none⟩ = false := World.ownsRow.frozenAt h k
theorem Rw.cell {w : World} {B n : Nat} {l : List Int} (h : Rw w B n l) (k : Nat) (hk : k < n) : w.cell? ⟨B, k, none⟩ = some (.int .u8 (l.getD k 0)) := by
 have hl := h.len
 rw [World.ownsRow.cellAt h k (by omega)]
 simp [List.getD, List.getElem?_eq_getElem (show k < l.length by omega)]
theorem Rw.set {w : World} {B n : Nat} {l : List Int} (h : Rw w B n l) (k : Nat) (v : Int) : Rw (w.setCell ⟨B, k, none⟩ (.int .u8 v)) B n (l.set k v) := by
 have := (World.ownsRow.stored h k (.int .u8 v)).1
 unfold Rw
 rw [List.map_set]
 exact this
theorem Rw.made {w : World} {B n : Nat} (h : w.ownsRow B 5 1 (.slice (some ⟨B, 0, none⟩) n n) n (madeCells (Value.int .u8 0).cells (n * 1)).toList) : Rw w B n (List.replicate n 0) := by
 have e : (madeCells (Value.int .u8 0).cells (n * 1)).toList = (List.replicate n (0 : Int)).map (Value.int .u8) := by
  rw [Nat.mul_one]
  have := toList_madeCells_one (Value.int .u8 0) n
  rw [List.map_replicate]
  exact this
 rw [e] at h
 exact h
theorem Rw.conv {w : World} {B n : Nat} {l : List Int} (h : Rw w B n l) :
  (convert 99 9 (.slice (some ⟨B, 0, none⟩) n n)).run Tryz.prog w = .ok (.string (strOfNums l)) w := by
 refine run_convert_bytes_arg w 99 5 Tryz.underlying99 Tryz.underlying5 B 0 n n l h.len ?_ 9 Tryz.underlying9
 intro i hi
 have hl := h.len
 rw [Nat.zero_add]
 exact h.cell i (by omega)
def narF (first : Int) : Nat → Int → List Int → List Int
 | 0, c, tl => (first + c) :: tl
 | k + 1, c, tl => narF first k (c / 64) ((128 + c % 64) :: tl)
theorem set_rep (k : Nat) (x : Int) (tl : List Int) : (List.replicate (k + 1) (0 : Int) ++ tl).set k x = List.replicate k 0 ++ x :: tl := by
 rw [List.replicate_succ', List.append_assoc, List.set_append_right _ _ (by simp)]
 simp
set_option maxHeartbeats 1000000 in
theorem narrow_tail (m : Nat) (first c0 : Int) (E : List Int) (hm : 2 ≤ m) (hm4 : m ≤ 4) (hE : narF first (m - 1) c0 [] = E) (hb : ∀ x ∈ E, 0 ≤ x ∧ x < 256) (hf : 0 ≤ first) (h0 : 0 ≤ c0) (h1 : c0 ≤ 1114111)
  (ht : (m = 2 ∧ first = 192 ∧ ¬ c0 < 128 ∧ c0 < 2048) ∨ (m = 3 ∧ first = 224 ∧ ¬ c0 < 128 ∧ ¬ c0 < 2048 ∧ c0 < 65536) ∨ (m = 4 ∧ first = 240 ∧ ¬ c0 < 128 ∧ ¬ c0 < 2048 ∧ ¬ c0 < 65536)) (w : World) :
  Calls Tryz.prog 127 #[.int .i64 c0] w fun e w' => e = .returned (.string (strOfNums E)) ∧ Below w.heap.size w w' := by
 obtain ⟨i0, hi, hz0, hz1, hz2⟩ := info_parts infoB
 have HE : Hid (narF first (m - 1) c0 [] = E) := hE
 have HB : Hid (∀ x ∈ E, 0 ≤ x ∧ x < 256) := hb
 clear hE hb
 rcases ht with ⟨rfl, rfl, t1, t2⟩ | ⟨rfl, rfl, t1, t2, t3⟩ | ⟨rfl, rfl, t1, t2, t3⟩
 ·go_enter Tryz.func127, Tryz.ntmps127
  go_wp2_with (at_make; (refine wpList_make_full _ rfl _ _ 99 rfl w.heap.size 5 i0 (.int .u8 0) 1 Tryz.underlying99 hi hz0 hz1 _ _ _ _ 2 rfl rfl (by omega) (by omega) (by rw [hz2]; omega) (by unfold maxLen; omega) (Nat.le_refl _) ?_); intro w1 hown hgrow)
  go_loopw [0, 5] (fun s0 s5 wr => ∃ (k : Nat) (c : Int) (tl : List Int), k + 1 + tl.length = 2 ∧ s0 = .int .i64 c ∧ s5 = .int .i64 (k : Int) ∧ 0 ≤ c ∧ c ≤ 1114111 ∧ Rw wr w.heap.size 2 (List.replicate (k + 1) 0 ++ tl) ∧ Below w.heap.size w wr ∧ Hid (narF 192 k c tl = E))
   (fun _ s5 _ => (RowKit.intOf s5).toNat)
  case atStart => exact ⟨2 - 1, c0, [], by simp, rfl, rfl, h0, h1, by simpa using Rw.made hown, (Below.refl _ _).grown hgrow (Nat.le_refl _) (fun k hk => by cases hk), HE.out⟩
  case round =>
   obtain ⟨k, c, tl, hk, rfl, rfl, hc0, hc1, hrow, hbel, HN⟩ := hrel
   clear hown hgrow HE
   have hfr := Rw.free hrow k
   have hkl : k < 2 := by omega
   have hce := Rw.cell hrow k hkl
   cases k with
   | zero =>
    have hbd : 0 ≤ 192 + c ∧ 192 + c < 256 := HB.out _ (by rw [← HN.out]; simp [narF])
    have hset := Rw.set hrow 0 (192 + c)
    rw [set_rep] at hset
    have hcv := Rw.conv hset
    have HZ : Hid ([] ++ (192 + c) :: tl = E) := HN.out
    go_wp2
    go_ret
    exact ⟨by rw [← HZ.out]; rfl, hbel.setCell (Nat.le_refl _) _⟩
   | succ k =>
    have hset := Rw.set hrow (k + 1) (128 + c % 64)
    rw [set_rep] at hset
    have HS : Hid (Rw (wr.setCell ⟨w.heap.size, k + 1, none⟩ (.int .u8 (128 + c % 64))) w.heap.size 2 (List.replicate (k + 1) 0 ++ (128 + c % 64) :: tl)) := hset
    have HB2 : Hid (Below w.heap.size w (wr.setCell ⟨w.heap.size, k + 1, none⟩ (.int .u8 (128 + c % 64)))) := hbel.setCell (Nat.le_refl _) _
    clear hset hrow hbel
    have hkz : (0 : Int) < (k : Int) + 1 := by omega
    go_wp2
    go_roundw
    case rel => exact ⟨k, c / 64, (128 + c % 64) :: tl, by simp only [List.length_cons]; omega, rfl, by go_num, by omega, by omega, HS.out, HB2.out, HN.out⟩
    case measure => simp [RowKit.intOf]
 ·go_enter Tryz.func127, Tryz.ntmps127
  go_wp2_with (at_make; (refine wpList_make_full _ rfl _ _ 99 rfl w.heap.size 5 i0 (.int .u8 0) 1 Tryz.underlying99 hi hz0 hz1 _ _ _ _ 3 rfl rfl (by omega) (by omega) (by rw [hz2]; omega) (by unfold maxLen; omega) (Nat.le_refl _) ?_); intro w1 hown hgrow)
  go_loopw [0, 5] (fun s0 s5 wr => ∃ (k : Nat) (c : Int) (tl : List Int), k + 1 + tl.length = 3 ∧ s0 = .int .i64 c ∧ s5 = .int .i64 (k : Int) ∧ 0 ≤ c ∧ c ≤ 1114111 ∧ Rw wr w.heap.size 3 (List.replicate (k + 1) 0 ++ tl) ∧ Below w.heap.size w wr ∧ Hid (narF 224 k c tl = E))
   (fun _ s5 _ => (RowKit.intOf s5).toNat)
  case atStart => exact ⟨3 - 1, c0, [], by simp, rfl, rfl, h0, h1, by simpa using Rw.made hown, (Below.refl _ _).grown hgrow (Nat.le_refl _) (fun k hk => by cases hk), HE.out⟩
  case round =>
   obtain ⟨k, c, tl, hk, rfl, rfl, hc0, hc1, hrow, hbel, HN⟩ := hrel
   clear hown hgrow HE
   have hfr := Rw.free hrow k
   have hkl : k < 3 := by omega
   have hce := Rw.cell hrow k hkl
   cases k with
   | zero =>
    have hbd : 0 ≤ 224 + c ∧ 224 + c < 256 := HB.out _ (by rw [← HN.out]; simp [narF])
    have hset := Rw.set hrow 0 (224 + c)
    rw [set_rep] at hset
    have hcv := Rw.conv hset
    have HZ : Hid ([] ++ (224 + c) :: tl = E) := HN.out
    go_wp2
    go_ret
    exact ⟨by rw [← HZ.out]; rfl, hbel.setCell (Nat.le_refl _) _⟩
   | succ k =>
    have hset := Rw.set hrow (k + 1) (128 + c % 64)
    rw [set_rep] at hset
    have HS : Hid (Rw (wr.setCell ⟨w.heap.size, k + 1, none⟩ (.int .u8 (128 + c % 64))) w.heap.size 3 (List.replicate (k + 1) 0 ++ (128 + c % 64) :: tl)) := hset
    have HB2 : Hid (Below w.heap.size w (wr.setCell ⟨w.heap.size, k + 1, none⟩ (.int .u8 (128 + c % 64)))) := hbel.setCell (Nat.le_refl _) _
    clear hset hrow hbel
    have hkz : (0 : Int) < (k : Int) + 1 := by omega
    go_wp2
    go_roundw
    case rel => exact ⟨k, c / 64, (128 + c % 64) :: tl, by simp only [List.length_cons]; omega, rfl, by go_num, by omega, by omega, HS.out, HB2.out, HN.out⟩
    case measure => simp [RowKit.intOf]
 ·go_enter Tryz.func127, Tryz.ntmps127
  go_wp2_with (at_make; (refine wpList_make_full _ rfl _ _ 99 rfl w.heap.size 5 i0 (.int .u8 0) 1 Tryz.underlying99 hi hz0 hz1 _ _ _ _ 4 rfl rfl (by omega) (by omega) (by rw [hz2]; omega) (by unfold maxLen; omega) (Nat.le_refl _) ?_); intro w1 hown hgrow)
  go_loopw [0, 5] (fun s0 s5 wr => ∃ (k : Nat) (c : Int) (tl : List Int), k + 1 + tl.length = 4 ∧ s0 = .int .i64 c ∧ s5 = .int .i64 (k : Int) ∧ 0 ≤ c ∧ c ≤ 1114111 ∧ Rw wr w.heap.size 4 (List.replicate (k + 1) 0 ++ tl) ∧ Below w.heap.size w wr ∧ Hid (narF 240 k c tl = E))
   (fun _ s5 _ => (RowKit.intOf s5).toNat)
  case atStart => exact ⟨4 - 1, c0, [], by simp, rfl, rfl, h0, h1, by simpa using Rw.made hown, (Below.refl _ _).grown hgrow (Nat.le_refl _) (fun k hk => by cases hk), HE.out⟩
  case round =>
   obtain ⟨k, c, tl, hk, rfl, rfl, hc0, hc1, hrow, hbel, HN⟩ := hrel
   clear hown hgrow HE
   have hfr := Rw.free hrow k
   have hkl : k < 4 := by omega
   have hce := Rw.cell hrow k hkl
   cases k with
   | zero =>
    have hbd : 0 ≤ 240 + c ∧ 240 + c < 256 := HB.out _ (by rw [← HN.out]; simp [narF])
    have hset := Rw.set hrow 0 (240 + c)
    rw [set_rep] at hset
    have hcv := Rw.conv hset
    have HZ : Hid ([] ++ (240 + c) :: tl = E) := HN.out
    go_wp2
    go_ret
    exact ⟨by rw [← HZ.out]; rfl, hbel.setCell (Nat.le_refl _) _⟩
   | succ k =>
    have hset := Rw.set hrow (k + 1) (128 + c % 64)
    rw [set_rep] at hset
    have HS : Hid (Rw (wr.setCell ⟨w.heap.size, k + 1, none⟩ (.int .u8 (128 + c % 64))) w.heap.size 4 (List.replicate (k + 1) 0 ++ (128 + c % 64) :: tl)) := hset
    have HB2 : Hid (Below w.heap.size w (wr.setCell ⟨w.heap.size, k + 1, none⟩ (.int .u8 (128 + c % 64)))) := hbel.setCell (Nat.le_refl _) _
    clear hset hrow hbel
    have hkz : (0 : Int) < (k : Int) + 1 := by omega
    go_wp2
    go_roundw
    case rel => exact ⟨k, c / 64, (128 + c % 64) :: tl, by simp only [List.length_cons]; omega, rfl, by go_num, by omega, by omega, HS.out, HB2.out, HN.out⟩
    case measure => simp [RowKit.intOf]
theorem one_conv (c : Int) (w : World) : (convert 99 9 (.slice (some ⟨w.heap.size, 0, none⟩) 1 1)).run Tryz.prog (w.alloc (.cells #[.int .u8 c] 5)) = .ok (.string (strOfNums [c])) (w.alloc (.cells #[.int .u8 c] 5)) := by
 refine run_convert_bytes_arg _ 99 5 Tryz.underlying99 Tryz.underlying5 w.heap.size 0 1 1 [c] rfl ?_ 9 Tryz.underlying9
 intro i hi
 match i, hi with
 | 0, _ => simp
theorem narrowRune_any (c : Int) (h : okR c) (w : World) : Calls Tryz.prog 127 #[.int .i64 c] w fun e w' => e = .returned (.string (strOfNums (encodeRuneZ c))) ∧ Below w.heap.size w w' := by
 have hbyt := encodeRuneZ_byte c
 unfold okR at h
 by_cases h1 : c < 128
 ·rw [encodeRuneZ_one (by omega) (by omega)]
  have hc := one_conv c w
  have h0 : 0 ≤ c := by omega
  clear h hbyt
  go_enter Tryz.func127, Tryz.ntmps127
  go_wp2
  go_ret
  exact ⟨rfl, (Below.refl _ _).alloc (Nat.le_refl _) _⟩
 ·by_cases h2 : c < 2048
  ·exact narrow_tail 2 192 c _ (by omega) (by omega) (by rw [encodeRuneZ_two (by omega) (by omega)]; rfl) hbyt (by omega) (by omega) (by omega) (.inl ⟨rfl, rfl, h1, h2⟩) w
  ·by_cases h3 : c < 65536
   ·exact narrow_tail 3 224 c _ (by omega) (by omega) (by
     rw [encodeRuneZ_three (by omega)]
     simp only [narF, List.cons.injEq, and_true]
     omega) hbyt (by omega) (by omega) (by omega) (.inr (.inl ⟨rfl, rfl, h1, h2, h3⟩)) w
   ·exact narrow_tail 4 240 c _ (by omega) (by omega) (by
     rw [encodeRuneZ_four (by omega) (by omega)]
     simp only [narF, List.cons.injEq, and_true]
     omega) hbyt (by omega) (by omega) (by omega) (.inr (.inr ⟨rfl, rfl, h1, h2, h3⟩)) w
theorem two_conv (x y : Int) (w : World) : (convert 99 9 (.slice (some ⟨w.heap.size, 0, none⟩) 2 2)).run Tryz.prog (w.alloc (.cells #[.int .u8 x, .int .u8 y] 5)) = .ok (.string (strOfNums [x, y])) (w.alloc (.cells #[.int .u8 x, .int .u8 y] 5)) := by
 refine run_convert_bytes_arg _ 99 5 Tryz.underlying99 Tryz.underlying5 w.heap.size 0 2 2 [x, y] rfl ?_ 9 Tryz.underlying9
 intro i hi
 match i, hi with
 | 0, _ => simp
 | 1, _ => simp
theorem twoBytes_any (n : Int) (h0 : 0 ≤ n) (h1 : n ≤ 65535) (w : World) :
  Calls Tryz.prog 69 #[.int .i64 n] w fun e w' => e = .returned (.string (strOfNums [n % 256, n / 256])) ∧ Below w.heap.size w w' := by
 have hc := two_conv (n % 256) (n / 256) w
 have he : n / 256 % 256 = n / 256 := by omega
 go_enter Tryz.func69, Tryz.ntmps69
 go_wp2
 go_ret
 exact ⟨rfl, (Below.refl _ _).alloc (Nat.le_refl _) _⟩
end Go.Proofs.YtonheibhbilhhaaGreat.utf
namespace Go.Proofs.YtonheibhbilhhaaGreat.utf
set_option maxRecDepth 100000
open Go.RowKit Go.PlainAid Go.Lib Go.Proofs.YtonheibhbilhhaaGreat.lane
theorem infoI : (Tryz.prog.info? 3).map (fun i => (i.zero, i.size, i.bytes)) = some (some (.int .i64 0), 1, 8) := by kernel_rfl
def Ins (w : World) (B : Nat) (v : Value) (us : List Int) : Prop := w.ownsRow B 3 1 v us.length (us.map (Value.int .i64))
theorem Ins.nil (w : World) (B : Nat) : Ins w B (.slice none 0 0) [] := ⟨rfl, .inl ⟨rfl, rfl⟩⟩
theorem Ins.block {w : World} {B : Nat} {v : Value} {us : List Int} (h : Ins w B v us) : ∀ k, v.ownBlock = some k → B ≤ k := by
 intro k hk
 rcases h.2 with ⟨rfl, h0⟩ | ⟨g, cap, cur, rfl, hb, _⟩
 ·cases hk
 ·simp [Value.ownBlock] at hk; omega
theorem Ins.push {w1 : World} {B g cap : Nat} {us : List Int} {x : Int}
  (h : w1.ownsRow B 3 1 (.slice (some ⟨g, 0, none⟩) (us.length + 1) cap) (us.length + 1) (us.map (Value.int .i64) ++ [.int .i64 x])) :
  Ins w1 B (.slice (some ⟨g, 0, none⟩) (us.length + 1) cap) (us ++ [x]) := by
 unfold Ins
 simpa using h
def Rd (w : World) (v : Value) (us : List Int) : Prop := ∃ a c, v = .slice a us.length c ∧ us.length ≤ c ∧ (us ≠ [] → ∃ g off, a = some ⟨g, off, none⟩ ∧ g < w.heap.size ∧ ∀ j x, us[j]? = some x → w.cell? ⟨g, off + j, none⟩ = some (.int .i64 x))
theorem Ins.rd {w : World} {B : Nat} {v : Value} {us : List Int} (h : Ins w B v us) : Rd w v us := by
 have h' := h
 rcases h.2 with ⟨rfl, h0⟩ | ⟨g, cap, cur, rfl, hB, hg, hnc, hcm, hs, ht⟩
 ·exact ⟨none, 0, by rw [h0], by omega, fun hne => absurd (List.eq_nil_of_length_eq_zero h0) hne⟩
 ·refine ⟨_, cap, rfl, hnc, fun _ => ⟨g, 0, rfl, ?_, ?_⟩⟩
  ·rcases Nat.lt_or_ge g w.heap.size with hl | hl
   ·exact hl
   ·rw [Array.getElem?_eq_none hl] at hg; cases hg
  ·intro j x hx
   have hj := (List.getElem?_eq_some_iff.1 hx).1
   rw [Nat.zero_add, World.ownsRow.cellAt h' j (by omega)]
   simp [hx]
theorem Rd.keep {w w' : World} {v : Value} {us : List Int} (h : Rd w v us) (hb : Below w.heap.size w w') : Rd w' v us := by
 obtain ⟨a, c, hv, h1, h3⟩ := h
 refine ⟨a, c, hv, h1, fun hne => ?_⟩
 obtain ⟨g, off, ha, hg, hc⟩ := h3 hne
 exact ⟨g, off, ha, by have := hb.size; omega, fun j x hx => (hb.cell (p := ⟨g, off + j, none⟩) hg).trans (hc j x hx)⟩
theorem Rd.tail {w : World} {g off c : Nat} {u : Int} {us : List Int} (h1 : us.length + 1 ≤ c) (hg : g < w.heap.size)
  (hc : ∀ j x, (u :: us)[j]? = some x → w.cell? ⟨g, off + j, none⟩ = some (.int .i64 x)) : Rd w (.slice (some ⟨g, off + 1, none⟩) us.length (c - 1)) us := by
 refine ⟨_, c - 1, rfl, by omega, fun _ => ⟨g, off + 1, rfl, hg, fun j x hx => ?_⟩⟩
 have := hc (j + 1) x (by simpa using hx)
 rw [show off + 1 + j = off + (j + 1) by omega]; exact this
theorem Rd.nil (w : World) (a : Option Addr) (c : Nat) : Rd w (.slice a 0 c) [] := ⟨a, c, rfl, Nat.zero_le _, fun h => absurd rfl h⟩
theorem Rd.zero {us : List Int} (w : World) (a : Option Addr) (c : Nat) (h : us.length = 0) : Rd w (.slice a us.length c) us := ⟨a, c, rfl, by omega, fun hn => absurd (List.eq_nil_of_length_eq_zero h) hn⟩
def lnOf : Value → Nat
 | .slice _ n _ => n
 | _ => 0
theorem q54 (u : Int) (h0 : 0 ≤ u) : (u / 1024 == 54) = decide (55296 ≤ u ∧ u ≤ 56319) := by
 rw [Bool.eq_iff_iff, beq_iff_eq, decide_eq_true_eq]; omega
theorem q55 (u : Int) (h0 : 0 ≤ u) : (u / 1024 == 55) = decide (56320 ≤ u ∧ u ≤ 57343) := by
 rw [Bool.eq_iff_iff, beq_iff_eq, decide_eq_true_eq]; omega
theorem q27 (u : Int) (h0 : 0 ≤ u) : (u / 2048 == 27) = decide (55296 ≤ u ∧ u ≤ 57343) := by
 rw [Bool.eq_iff_iff, beq_iff_eq, decide_eq_true_eq]; omega
theorem nstep {acc X : ByteArray} {V vs : List Int} {c : Int} (h : acc ++ strOfNums (encs (pairL V)) = X) (hp : pairL V = c :: pairL vs) : (acc ++ strOfNums (encodeRuneZ c)) ++ strOfNums (encs (pairL vs)) = X := by
 rw [hp, encs_cons, str_append, ← ByteArray.append_assoc] at h; exact h
theorem lone_ok {u : Int} (h0 : 0 ≤ u) (h1 : u ≤ 65535) : okR (loneU u) := by unfold loneU okR; split <;> omega
theorem pair_ok {u v : Int} (h : isPair u v) : okR (pairR u v) := by unfold isPair at h; unfold pairR okR; omega
theorem pairR_mod {u v : Int} (h : isPair u v) : 65536 + u % 1024 * 1024 + v % 1024 = pairR u v := by unfold isPair at h; unfold pairR; omega
theorem str_four (c : Int) : (strOfNums (encodeRuneZ c)).size ≤ 4 := by rw [str_size]; exact (encodeRuneZ_length c).2
set_option maxHeartbeats 4000000 in
theorem rnarrow_any (t : ByteArray) (w : World) (hm : t.size ≤ maxLen) :
  Calls Tryz.prog 111 #[.string t] w fun e w' => e = .returned (.tuple #[.string (ntxt t), .int .i64 (nerr t)]) ∧ Below w.heap.size w w' := by
 unfold maxLen at hm
 by_cases he : t.size % 2 = 1
 ·rw [(ntxt_odd he).1, (ntxt_odd he).2]
  have hz : (t.size : Int) % 2 = 1 := by omega
  clear he
  go_enter Tryz.func111, Tryz.ntmps111
  go_wp2
  go_ret2
  exact ⟨rfl, Below.refl _ _⟩
 ·have he : t.size % 2 = 0 := by omega
  have hz : (t.size : Int) % 2 = 0 := by omega
  by_cases hl : 252 < t.size
  ·rw [(ntxt_big he hl).1, (ntxt_big he hl).2]
   clear he
   have hl2 : (252 : Int) < t.size := by omega
   clear hl
   go_enter Tryz.func111, Tryz.ntmps111
   go_wp2
   go_ret2
   exact ⟨rfl, Below.refl _ _⟩
  ·have hok := ntxt_ok he (by omega)
   rw [hok.1, hok.2]
   have hmax := prs_len t he
   have HM : Hid ((encs (prs t)).length ≤ 504) := by show _ ≤ _; omega
   clear hok hmax
   have HE : Hid (t.size % 2 = 0) := he
   clear he
   obtain ⟨i0, hi, hz0, hz1, hz2⟩ := info_parts infoI
   go_enter Tryz.func111, Tryz.ntmps111
   go_wp2
   go_loopw [0, 4] (fun s0 v wr => ∃ (t' : ByteArray) (us : List Int), s0 = .string t' ∧ Ins wr w.heap.size v us ∧ t'.size ≤ 252 ∧ us.length + t'.size ≤ 252 ∧ Below w.heap.size w wr ∧ Hid (t'.size % 2 = 0 ∧ us ++ unitsL (nums t') = unitsL (nums t)))
    (fun s0 _ _ => szOf s0)
   case atStart => exact ⟨t, [], rfl, Ins.nil _ _, by omega, by simp; omega, Below.refl _ _, HE.out, rfl⟩
   case round =>
    obtain ⟨t', us, rfl, hown, hl', hul, hbel, HR⟩ := hrel
    clear hz
    have hsz := hbel.size
    by_cases h0 : t'.size = 0
    ·obtain rfl := size_zero h0
     have h := HR.out.2
     rw [show unitsL (nums ⟨#[]⟩) = [] from rfl, List.append_nil] at h
     have hbd : ∀ u ∈ us, 0 ≤ u ∧ u ≤ 65535 := by rw [h]; exact unitsL_bound _ (nums_byt t)
     have HU : Hid (encs (pairL us) = encs (prs t)) := by show _ = _; rw [h]; rfl
     have HB0 : Hid (∀ u ∈ us, 0 ≤ u ∧ u ≤ 65535) := hbd
     have hrd := Ins.rd hown
     clear h hbd HR hown h0 hl' hul
     go_wp2_with fail
     go_loopw [4, 5] (fun v s5 wr => ∃ (vs : List Int) (acc : ByteArray), Rd wr v vs ∧ s5 = .string acc ∧ Below w.heap.size w wr ∧ Hid ((∀ u ∈ vs, 0 ≤ u ∧ u ≤ 65535) ∧ acc ++ strOfNums (encs (pairL vs)) = strOfNums (encs (prs t))))
      (fun v _ _ => lnOf v)
     case atStart => exact ⟨us, ⟨#[]⟩, hrd, rfl, hbel, HB0.out, by rw [HU.out]; apply ByteArray.ext; simp⟩
     case round =>
      clear hrd hbel HU HB0
      obtain ⟨vs, acc, ⟨a, c, rfl, hc1, hcells⟩, rfl, hbel, HR⟩ := hrel
      have hac : acc.size ≤ 504 := by
       have h := congrArg ByteArray.size HR.out.2
       rw [ByteArray.size_append, str_size, str_size] at h
       have := HM.out
       omega
      cases vs with
      | nil =>
       have h := HR.out.2
       rw [pairL_nil, encs_nil] at h
       have e : acc ++ strOfNums [] = acc := by apply ByteArray.ext; simp [strOfNums]
       rw [e] at h
       go_wp2
       go_ret2
       exact ⟨ret_si h rfl, hbel⟩
      | cons u r =>
       obtain ⟨g, off, rfl, hg, hcl⟩ := hcells (by simp)
       have hu := HR.out.1 u (by simp)
       have HRR : Hid (∀ x ∈ r, 0 ≤ x ∧ x ≤ 65535) := fun x hx => HR.out.1 x (by simp [hx])
       have c0 := hcl 0 u rfl
       rw [Nat.add_zero] at c0
       rw [List.length_cons] at hc1
       have HCL : Hid (∀ j x, (u :: r)[j]? = some x → wr.cell? ⟨g, off + j, none⟩ = some (.int .i64 x)) := hcl
       clear hcl hcells
       have hu0 : 0 ≤ u := hu.1
       have hu1 : u ≤ 65535 := hu.2
       clear hu
       have q1 := q54 u hu0
       have q3 := q27 u hu0
       cases r with
       | nil =>
        have HP : Hid (pairL [u] = loneU u :: pairL []) := by show _ = _; rw [pairL_one, pairL_nil]
        have lok := lone_ok hu0 hu1
        by_cases k3 : 55296 ≤ u ∧ u ≤ 57343
        ·have e3 : (u / 2048 == 27) = true := by rw [q3]; simpa using k3
         have el : loneU u = 65533 := by unfold loneU; rw [if_pos k3]
         rw [el] at HP lok
         clear q1 q3 k3 el
         go_wp2_with fail
         all_goals
          refine (narrowRune_any 65533 lok _).mono ?_
          rintro e w2 ⟨rfl, hb2⟩
          have hz := str_four 65533
          have HN : Hid ((∀ u ∈ ([] : List Int), 0 ≤ u ∧ u ≤ 65535) ∧ (acc ++ strOfNums (encodeRuneZ 65533)) ++ strOfNums (encs (pairL ([] : List Int))) = strOfNums (encs (prs t))) := ⟨HRR.out, nstep HR.out.2 HP.out⟩
          generalize strOfNums (encodeRuneZ 65533) = x at *
          have hzz : (acc ++ x).size = acc.size + x.size := ByteArray.size_append
          go_wp2
          go_roundw
          case rel => exact ⟨([] : List Int), acc ++ x, Rd.nil _ _ _, rfl, hbel.trans (hb2.mono hbel.size), HN⟩
          case measure => simp [lnOf]
        ·have e3 : (u / 2048 == 27) = false := by rw [q3]; simpa using k3
         have el : loneU u = u := by unfold loneU; rw [if_neg k3]
         rw [el] at HP lok
         clear q1 q3 k3 el
         go_wp2_with fail
         all_goals
          refine (narrowRune_any u lok _).mono ?_
          rintro e w2 ⟨rfl, hb2⟩
          have hz := str_four u
          have HN : Hid ((∀ u ∈ ([] : List Int), 0 ≤ u ∧ u ≤ 65535) ∧ (acc ++ strOfNums (encodeRuneZ u)) ++ strOfNums (encs (pairL ([] : List Int))) = strOfNums (encs (prs t))) := ⟨HRR.out, nstep HR.out.2 HP.out⟩
          generalize strOfNums (encodeRuneZ u) = x at *
          have hzz : (acc ++ x).size = acc.size + x.size := ByteArray.size_append
          go_wp2
          go_roundw
          case rel => exact ⟨([] : List Int), acc ++ x, Rd.nil _ _ _, rfl, hbel.trans (hb2.mono hbel.size), HN⟩
          case measure => simp [lnOf]
       | cons v r =>
        have c1 := HCL.out 1 v rfl
        have hv := HRR.out v (by simp)
        have hv0 : 0 ≤ v := hv.1
        have hv1 : v ≤ 65535 := hv.2
        clear hv
        have q2 := q55 v hv0
        rw [List.length_cons] at hc1
        have hc1n : ¬ c = 1 := by omega
        have RD1 : Hid (Rd wr (.slice (some ⟨g, off + 1, none⟩) (r.length + 1) (c - 1)) (v :: r)) := Rd.tail (by rw [List.length_cons]; omega) hg HCL.out
        by_cases kp : isPair u v
        ·have e1 : (u / 1024 == 54) = true := by rw [q1]; exact decide_eq_true kp.1
         have e2 : (v / 1024 == 55) = true := by rw [q2]; exact decide_eq_true kp.2
         have HP : Hid (pairL (u :: v :: r) = pairR u v :: pairL r) := pairL_pair kp r
         have pok := pair_ok kp
         have em := pairR_mod kp
         have HR3 : Hid (∀ x ∈ r, 0 ≤ x ∧ x ≤ 65535) := fun x hx => HRR.out x (by simp [hx])
         have RD3 : Hid (Rd wr (.slice (some ⟨g, off + 1 + 1, none⟩) r.length (c - 1 - 1)) r) := Rd.tail (by omega) hg (fun j x hx => by
          have := HCL.out (j + 1) x (by simpa using hx)
          rw [show off + 1 + j = off + (j + 1) by omega]; exact this)
         clear q1 q2 q3 kp
         go_wp2_with fail
         all_goals
          refine (narrowRune_any (pairR u v) pok _).mono ?_
          rintro e w2 ⟨rfl, hb2⟩
          have hz := str_four (pairR u v)
          have HN : Hid ((∀ u ∈ r, 0 ≤ u ∧ u ≤ 65535) ∧ (acc ++ strOfNums (encodeRuneZ (pairR u v))) ++ strOfNums (encs (pairL r)) = strOfNums (encs (prs t))) := ⟨HR3.out, nstep HR.out.2 HP.out⟩
          generalize strOfNums (encodeRuneZ (pairR u v)) = x at *
          have hzz : (acc ++ x).size = acc.size + x.size := ByteArray.size_append
          go_wp2
          go_roundw
          case rel => first | exact ⟨r, acc ++ x, Rd.keep RD3.out hb2, rfl, hbel.trans (hb2.mono hbel.size), HN⟩ | exact ⟨r, acc ++ x, Rd.zero _ _ _ (by omega), rfl, hbel.trans (hb2.mono hbel.size), HN⟩
          case measure => simp [lnOf]; omega
        ·have HP : Hid (pairL (u :: v :: r) = loneU u :: pairL (v :: r)) := pairL_not kp r
         have lok := lone_ok hu0 hu1
         by_cases k1 : 55296 ≤ u ∧ u ≤ 56319
         ·have e1 : (u / 1024 == 54) = true := by rw [q1]; simpa using k1
          have e2 : (v / 1024 == 55) = false := by rw [q2]; exact decide_eq_false (fun h => kp ⟨k1, h⟩)
          have e3 : (u / 2048 == 27) = true := by rw [q3]; exact decide_eq_true (by omega)
          have el : loneU u = 65533 := by unfold loneU; rw [if_pos (by omega)]
          rw [el] at HP lok
          clear q1 q2 q3 k1 el kp
          go_wp2_with fail
          refine (narrowRune_any 65533 lok _).mono ?_
          rintro e w2 ⟨rfl, hb2⟩
          have hz := str_four 65533
          have HN : Hid ((∀ u ∈ (v :: r), 0 ≤ u ∧ u ≤ 65535) ∧ (acc ++ strOfNums (encodeRuneZ 65533)) ++ strOfNums (encs (pairL (v :: r))) = strOfNums (encs (prs t))) := ⟨HRR.out, nstep HR.out.2 HP.out⟩
          generalize strOfNums (encodeRuneZ 65533) = x at *
          have hzz : (acc ++ x).size = acc.size + x.size := ByteArray.size_append
          go_wp2
          go_roundw
          case rel => exact ⟨(v :: r), acc ++ x, Rd.keep RD1.out hb2, rfl, hbel.trans (hb2.mono hbel.size), HN⟩
          case measure => simp [lnOf]
         ·have e1 : (u / 1024 == 54) = false := by rw [q1]; exact decide_eq_false k1
          by_cases k3 : 55296 ≤ u ∧ u ≤ 57343
          ·have e3 : (u / 2048 == 27) = true := by rw [q3]; exact decide_eq_true k3
           have el : loneU u = 65533 := by unfold loneU; rw [if_pos k3]
           rw [el] at HP lok
           clear q1 q2 q3 k1 k3 el kp
           go_wp2_with fail
           refine (narrowRune_any 65533 lok _).mono ?_
           rintro e w2 ⟨rfl, hb2⟩
           have hz := str_four 65533
           have HN : Hid ((∀ u ∈ (v :: r), 0 ≤ u ∧ u ≤ 65535) ∧ (acc ++ strOfNums (encodeRuneZ 65533)) ++ strOfNums (encs (pairL (v :: r))) = strOfNums (encs (prs t))) := ⟨HRR.out, nstep HR.out.2 HP.out⟩
           generalize strOfNums (encodeRuneZ 65533) = x at *
           have hzz : (acc ++ x).size = acc.size + x.size := ByteArray.size_append
           go_wp2
           go_roundw
           case rel => exact ⟨(v :: r), acc ++ x, Rd.keep RD1.out hb2, rfl, hbel.trans (hb2.mono hbel.size), HN⟩
           case measure => simp [lnOf]
          ·have e3 : (u / 2048 == 27) = false := by rw [q3]; exact decide_eq_false k3
           have el : loneU u = u := by unfold loneU; rw [if_neg k3]
           rw [el] at HP lok
           clear q1 q2 q3 k1 k3 el kp
           go_wp2_with fail
           refine (narrowRune_any u lok _).mono ?_
           rintro e w2 ⟨rfl, hb2⟩
           have hz := str_four u
           have HN : Hid ((∀ u ∈ (v :: r), 0 ≤ u ∧ u ≤ 65535) ∧ (acc ++ strOfNums (encodeRuneZ u)) ++ strOfNums (encs (pairL (v :: r))) = strOfNums (encs (prs t))) := ⟨HRR.out, nstep HR.out.2 HP.out⟩
           generalize strOfNums (encodeRuneZ u) = x at *
           have hzz : (acc ++ x).size = acc.size + x.size := ByteArray.size_append
           go_wp2
           go_roundw
           case rel => exact ⟨(v :: r), acc ++ x, Rd.keep RD1.out hb2, rfl, hbel.trans (hb2.mono hbel.size), HN⟩
           case measure => simp [lnOf]
    ·have h2 : 2 ≤ t'.size := by have := HR.out.1; omega
     have hne : t'.toList.isEmpty = false := str_full t' (by omega)
     have hb := get_bt t'
     have b0 := bt_bounds t' 0
     have b1 := bt_bounds t' 1
     have g0 : 0 < t'.size := by omega
     have g1 : 1 < t'.size := by omega
     have hxs : (t'.extract 2 t'.size).size = t'.size - 2 := by rw [ByteArray.size_extract]; omega
     have hun : unitsL (nums t') = (bt t' 0 + 256 * bt t' 1) :: unitsL (nums (t'.extract 2 t'.size)) := by
      rw [nums_extract, List.take_of_length_le (by rw [nums_length]; exact Nat.le_refl _)]
      conv => lhs; rw [nums_two t' h2]
      rw [unitsL_two]
     obtain ⟨t2, ht2⟩ : ∃ t2, t'.extract 2 t'.size = t2 := ⟨_, rfl⟩
     rw [ht2] at hxs hun
     have HQ : Hid (t2.size % 2 = 0 ∧ (us ++ [bt t' 0 + 256 * bt t' 1]) ++ unitsL (nums t2) = unitsL (nums t)) := by
      have h := HR.out
      rw [hun] at h
      refine ⟨?_, by rw [List.append_assoc]; exact h.2⟩
      have := h.1; omega
     have HO : Hid (Ins wr w.heap.size u4 us) := hown
     clear HR hun hown
     have k0 : IntKind.i64.wrap (bt t' 0) = bt t' 0 := by rw [IntKind.wrap_i64]; omega
     have k1 : IntKind.i64.wrap (bt t' 1) = bt t' 1 := by rw [IntKind.wrap_i64]; omega
     have k2 : IntKind.i64.wrap (256 * bt t' 1) = 256 * bt t' 1 := by rw [IntKind.wrap_i64]; omega
     have k3 : IntKind.i64.wrap (bt t' 0 + 256 * bt t' 1) = bt t' 0 + 256 * bt t' 1 := by rw [IntKind.wrap_i64]; omega
     go_wp2_with fail
     go_region_held3 (fun w' => True) (trivial)
      ((refine step_append_lies _ (by rfl) _ _ _ (by rfl) w.heap.size 3 i0 _ 1 8 Tryz.underlying30 hi hz0 hz1 hz2 rfl (by omega) u4 us.length (us.map (Value.int .i64)) (by rfl) ((World.ownsRow.alloc HO.out _).drew)
         ⟨wr.heap.size, 0, none⟩ 1 1 [.int .i64 (bt t' 0 + 256 * bt t' 1)] (by rfl) (by rfl) (World.news_of_block (cs := #[.int .i64 (bt t' 0 + 256 * bt t' 1)]) (t := 3) (fr := (0, 0)) (heap_alloc_new wr _)) (by simp [Value.oneCell'])
         (by omega) (by unfold maxLen; omega) (by omega) (by simp; omega) (wr.heap.size + 1) (by simp) ?_; intro g cap w1 hown1 hgrow hat hgl))
     all_goals
      go_wp2
      go_roundw
      case rel => exact ⟨t2, us ++ [bt t' 0 + 256 * bt t' 1], rfl, Ins.push hown1, by omega, by simp; omega, ((hbel.alloc hsz _).drew).grown hgrow (by simp; omega) HO.out.block, HQ⟩
      case measure => show t2.size < t'.size; omega
end Go.Proofs.YtonheibhbilhhaaGreat.utf
namespace Go.Proofs.YtonheibhbilhhaaGreat.utf
set_option maxRecDepth 100000
open Go.RowKit Go.PlainAid Go.Lib Go.Proofs.YtonheibhbilhhaaGreat.lane
def contF (s : ByteArray) : Nat → Nat → Int → Option Int
 | _, 0, b => some b
 | p, m + 1, b => if p < s.size ∧ bt s p / 64 = 2 then contF s (p + 1) m (64 * b + bt s p % 64) else none
abbrev badR (least c : Int) : Prop := c < least ∨ c > 1114111 ∨ (55296 ≤ c ∧ c < 57344)
def ansR (n : Nat) (least : Int) : Option Int → Int × Int
 | none => (65533, 1)
 | some c => if badR least c then (65533, 1) else (c, (n : Int) + 1)
theorem get_bt_at (s : ByteArray) (i : Nat) : ((s.get! i).toNat : Int) = bt s i := by
 unfold bt
 split
 ·rename_i h
  rw [show s.get! i = s[i]'h from get_at s i h]
 ·rename_i h
  have : s.get! i = 0 := by
   cases s with
   | mk d => show d[i]! = 0; rw [getElem!_neg d i h]; rfl
  rw [this]; rfl
theorem ref_two (s : ByteArray) (p : Nat) (h0 : 192 ≤ bt s p) (h1 : bt s p < 224) : ansR 1 128 (contF s (p + 1) 1 (bt s p - 192)) = (((Utf8.decode s p).1 : Int), ((Utf8.decode s p).2 : Int)) := by
 have e0 := get_bt_at s p
 have e1 := get_bt_at s (p + 1)
 rw [decode_at]
 generalize (s.get! p).toNat = x0 at *
 generalize (s.get! (p + 1)).toNat = x1 at *
 generalize (s.get! (p + 2)).toNat = x2 at *
 generalize (s.get! (p + 3)).toNat = x3 at *
 rw [← e0] at h0 h1
 unfold decodeN
 rw [if_neg (by omega)]
 simp only [contF, ← e0, ← e1]
 by_cases c1 : p + 1 < s.size ∧ (x1 : Int) / 64 = 2
 ·rw [if_pos c1, if_pos (by omega)]
  simp only [ansR]
  by_cases hb : badR 128 (64 * ((x0 : Int) - 192) + (x1 : Int) % 64)
  ·rw [if_pos hb]; unfold badR at hb; rw [if_neg (by omega)]; rfl
  ·rw [if_neg hb]; unfold badR at hb; rw [if_pos (by omega)]; apply Prod.ext <;> simp only <;> omega
 ·rw [if_neg c1, if_neg (by omega), if_neg (by omega), if_neg (by omega)]
  rfl
theorem ref_three (s : ByteArray) (p : Nat) (h0 : 224 ≤ bt s p) (h1 : bt s p < 240) : ansR 2 2048 (contF s (p + 1) 2 (bt s p - 224)) = (((Utf8.decode s p).1 : Int), ((Utf8.decode s p).2 : Int)) := by
 have e0 := get_bt_at s p
 have e1 := get_bt_at s (p + 1)
 have e2 := get_bt_at s (p + 2)
 rw [decode_at]
 generalize (s.get! p).toNat = x0 at *
 generalize (s.get! (p + 1)).toNat = x1 at *
 generalize (s.get! (p + 2)).toNat = x2 at *
 generalize (s.get! (p + 3)).toNat = x3 at *
 rw [← e0] at h0 h1
 unfold decodeN
 rw [if_neg (by omega), if_neg (by omega)]
 simp only [contF, Nat.add_assoc, Nat.reduceAdd, ← e0, ← e1, ← e2]
 by_cases c1 : p + 1 < s.size ∧ (x1 : Int) / 64 = 2
 ·rw [if_pos c1]
  by_cases c2 : p + 2 < s.size ∧ (x2 : Int) / 64 = 2
  ·rw [if_pos c2, if_pos (by omega)]
   simp only [ansR]
   by_cases hb : badR 2048 (64 * (64 * ((x0 : Int) - 224) + (x1 : Int) % 64) + (x2 : Int) % 64)
   ·rw [if_pos hb]; unfold badR at hb; rw [if_neg (by omega)]; rfl
   ·rw [if_neg hb]; unfold badR at hb; rw [if_pos (by omega)]; apply Prod.ext <;> simp only <;> omega
  ·rw [if_neg c2, if_neg (by omega), if_neg (by omega)]
   rfl
 ·rw [if_neg c1, if_neg (by omega), if_neg (by omega)]
  rfl
theorem ref_four (s : ByteArray) (p : Nat) (h0 : 240 ≤ bt s p) (h1 : bt s p < 248) : ansR 3 65536 (contF s (p + 1) 3 (bt s p - 240)) = (((Utf8.decode s p).1 : Int), ((Utf8.decode s p).2 : Int)) := by
 have e0 := get_bt_at s p
 have e1 := get_bt_at s (p + 1)
 have e2 := get_bt_at s (p + 2)
 have e3 := get_bt_at s (p + 3)
 rw [decode_at]
 generalize (s.get! p).toNat = x0 at *
 generalize (s.get! (p + 1)).toNat = x1 at *
 generalize (s.get! (p + 2)).toNat = x2 at *
 generalize (s.get! (p + 3)).toNat = x3 at *
 rw [← e0] at h0 h1
 unfold decodeN
 rw [if_neg (by omega), if_neg (by omega), if_neg (by omega)]
 simp only [contF, Nat.add_assoc, Nat.reduceAdd, ← e0, ← e1, ← e2, ← e3]
 by_cases c1 : p + 1 < s.size ∧ (x1 : Int) / 64 = 2
 ·rw [if_pos c1]
  by_cases c2 : p + 2 < s.size ∧ (x2 : Int) / 64 = 2
  ·rw [if_pos c2]
   by_cases c3 : p + 3 < s.size ∧ (x3 : Int) / 64 = 2
   ·rw [if_pos c3, if_pos (by omega)]
    simp only [ansR]
    by_cases hb : badR 65536 (64 * (64 * (64 * ((x0 : Int) - 240) + (x1 : Int) % 64) + (x2 : Int) % 64) + (x3 : Int) % 64)
    ·rw [if_pos hb]; unfold badR at hb; rw [if_neg (by omega)]; rfl
    ·rw [if_neg hb]; unfold badR at hb; rw [if_pos (by omega)]; apply Prod.ext <;> simp only <;> omega
   ·rw [if_neg c3, if_neg (by omega)]
    rfl
  ·rw [if_neg c2, if_neg (by omega)]
   rfl
 ·rw [if_neg c1, if_neg (by omega)]
  rfl
theorem ref_one (s : ByteArray) (p : Nat) (h1 : bt s p < 128) : Utf8.decode s p = ((bt s p).toNat, 1) := by
 have e0 := get_bt_at s p
 rw [decode_at]
 unfold decodeN
 rw [← e0] at h1 ⊢
 rw [if_pos (by omega)]
 simp
theorem ref_none (s : ByteArray) (p : Nat) (h1 : 128 ≤ bt s p) (h2 : bt s p < 192 ∨ 248 ≤ bt s p) : Utf8.decode s p = (65533, 1) := by
 have e0 := get_bt_at s p
 rw [decode_at]
 have := bt_le s p
 exact decodeN_bad _ _ _ _ _ (by omega)
end Go.Proofs.YtonheibhbilhhaaGreat.utf
namespace Go.Proofs.YtonheibhbilhhaaGreat.utf
set_option maxRecDepth 100000
open Go.RowKit Go.PlainAid Go.Lib Go.Proofs.YtonheibhbilhhaaGreat.lane
theorem ret_ii {a b c d : Int} (h1 : a = b) (h2 : c = d) : Ending.returned (.tuple #[.int .i64 a, .int .i64 c]) = .returned (.tuple #[.int .i64 b, .int .i64 d]) := by rw [h1, h2]
theorem ansR_bad {n : Nat} {least c : Int} (h : badR least c) : ansR n least (some c) = (65533, 1) := by simp only [ansR]; rw [if_pos h]
theorem ansR_good {n : Nat} {least c : Int} (h : ¬ badR least c) : ansR n least (some c) = (c, (n : Int) + 1) := by simp only [ansR]; rw [if_neg h]
theorem contF_yes {s : ByteArray} {p m : Nat} {b : Int} (h1 : p < s.size) (h2 : bt s p / 64 = 2) : contF s p (m + 1) b = contF s (p + 1) m (64 * b + bt s p % 64) := by simp [contF, h1, h2]
theorem contF_no {s : ByteArray} {p m : Nat} {b : Int} (h : ¬ (p < s.size ∧ bt s p / 64 = 2)) : contF s p (m + 1) b = none := by unfold contF; rw [if_neg h]
set_option maxHeartbeats 2000000 in
theorem runeAt_two (s : ByteArray) (p : Nat) (w : World) (hs : s.size ≤ 140737488351232) (hp : p < s.size) (h0 : 192 ≤ bt s p) (h1 : bt s p < 224) :
  Calls Tryz.prog 125 #[.string s, .int .i64 (p : Int)] w fun e w' => e = .returned (.tuple #[.int .i64 ((Utf8.decode s p).1 : Int), .int .i64 ((Utf8.decode s p).2 : Int)]) ∧ w = w' := by
 have hb := get_bt s
 obtain ⟨R, hR⟩ : ∃ R, contF s (p + 1) 1 (bt s p - 192) = R := ⟨_, rfl⟩
 have hans := ref_two s p h0 h1
 rw [hR] at hans
 generalize ((Utf8.decode s p).1 : Int) = A at *
 generalize ((Utf8.decode s p).2 : Int) = W at *
 have HA : Hid (ansR 1 128 R = (A, W)) := hans
 have HR0 : Hid (contF s (p + 1) 1 (bt s p - 192) = R) := hR
 clear hans hR
 go_enter Tryz.func125, Tryz.ntmps125
 go_wp2
 go_loop [6, 46] (fun b k => ∃ (j : Nat) (c : Int), j ≤ 1 ∧ k = .int .i64 (j : Int) ∧ b = .int .i64 c ∧ 0 ≤ c ∧ c ≤ 16777215 ∧ Hid (((j = 0 ∧ c ≤ 63) ∨ (j = 1 ∧ c ≤ 4095) ∨ (j = 2 ∧ c ≤ 262143) ∨ j = 3) ∧ contF s (p + 1 + j) (1 - j) c = R)) (fun _ k => 4 - (RowKit.intOf k).toNat)
 case atStart => exact ⟨0, bt s p - 192, by omega, rfl, rfl, by omega, by omega, by omega, HR0.out⟩
 case round =>
  obtain ⟨j, c, hj, rfl, rfl, hc0, hc1, HR⟩ := hrel
  clear HR0
  by_cases hlt : j < 1
  ·obtain ⟨hjc, hcont⟩ := HR.out
   rw [show 1 - j = (1 - (j + 1)) + 1 by omega] at hcont
   obtain ⟨q, hq⟩ : ∃ q, p + 1 + j = q := ⟨_, rfl⟩
   have hqz : (p : Int) + 1 + (j : Int) = (q : Int) := by omega
   rw [hq] at hcont
   by_cases hin : q < s.size
   ·have b0 := bt_nonneg s q
    have b1 := bt_le s q
    by_cases h2 : bt s q / 64 = 2
    ·rw [contF_yes hin h2] at hcont
     have e2 : (bt s q / 64 != 2) = false := by simp [h2]
     have HN : Hid (((j + 1 = 0 ∧ 64 * c + bt s q % 64 ≤ 63) ∨ (j + 1 = 1 ∧ 64 * c + bt s q % 64 ≤ 4095) ∨ (j + 1 = 2 ∧ 64 * c + bt s q % 64 ≤ 262143) ∨ j + 1 = 3) ∧ contF s (p + 1 + (j + 1)) (1 - (j + 1)) (64 * c + bt s q % 64) = R) := by
      refine ⟨by omega, ?_⟩
      rw [show p + 1 + (j + 1) = q + 1 by omega]; exact hcont
     have hcb : 64 * c + bt s q % 64 ≤ 16777215 := by omega
     clear HR hjc hcont h2
     go_wp2
     go_round
     case rel => exact ⟨j + 1, 64 * c + bt s q % 64, by omega, by go_num, rfl, by omega, hcb, HN⟩
     case measure => simp [RowKit.intOf]; omega
    ·rw [contF_no (fun h => h2 h.2)] at hcont
     have e2 : (bt s q / 64 != 2) = true := by simp [h2]
     have hA := HA.out
     rw [← hcont] at hA
     have HA2 : Hid ((65533, 1) = (A, W)) := hA
     clear HR hjc hcont h2 hA HA
     go_wp2
     go_ret2
     exact ⟨ret_ii (congrArg Prod.fst HA2.out) (congrArg Prod.snd HA2.out), rfl⟩
   ·rw [contF_no (fun h => hin h.1)] at hcont
    have hA := HA.out
    rw [← hcont] at hA
    have HA2 : Hid ((65533, 1) = (A, W)) := hA
    clear HR hjc hcont hA HA
    go_wp2
    go_ret2
    exact ⟨ret_ii (congrArg Prod.fst HA2.out) (congrArg Prod.snd HA2.out), rfl⟩
  ·obtain rfl : j = 1 := by omega
   have hcont := HR.out.2
   rw [Nat.sub_self, contF] at hcont
   have hA := HA.out
   rw [← hcont] at hA
   clear HR hcont HA hlt
   by_cases t1 : c < 128
   ·rw [ansR_bad (.inl t1)] at hA
    have HA2 : Hid ((65533, 1) = (A, W)) := hA
    clear hA
    go_wp2
    go_ret2
    exact ⟨ret_ii (congrArg Prod.fst HA2.out) (congrArg Prod.snd HA2.out), rfl⟩
   ·by_cases t2 : 1114111 < c
    ·rw [ansR_bad (.inr (.inl t2))] at hA
     have HA2 : Hid ((65533, 1) = (A, W)) := hA
     clear hA
     go_wp2
     go_ret2
     exact ⟨ret_ii (congrArg Prod.fst HA2.out) (congrArg Prod.snd HA2.out), rfl⟩
    ·by_cases t3 : 55296 ≤ c ∧ c < 57344
     ·rw [ansR_bad (.inr (.inr t3))] at hA
      have HA2 : Hid ((65533, 1) = (A, W)) := hA
      obtain ⟨t4, t5⟩ := t3
      clear hA
      go_wp2
      go_ret2
      exact ⟨ret_ii (congrArg Prod.fst HA2.out) (congrArg Prod.snd HA2.out), rfl⟩
     ·rw [ansR_good (by unfold badR; omega)] at hA
      have HA2 : Hid ((c, ((1 : Nat) : Int) + 1) = (A, W)) := hA
      clear hA
      by_cases t4 : 55296 ≤ c
      ·have t5 : ¬ c < 57344 := by omega
       clear t3
       go_wp2
       go_ret2
       exact ⟨ret_ii (congrArg Prod.fst HA2.out) (congrArg Prod.snd HA2.out), rfl⟩
      ·clear t3
       go_wp2
       go_ret2
       exact ⟨ret_ii (congrArg Prod.fst HA2.out) (congrArg Prod.snd HA2.out), rfl⟩
set_option maxHeartbeats 2000000 in
theorem runeAt_three (s : ByteArray) (p : Nat) (w : World) (hs : s.size ≤ 140737488351232) (hp : p < s.size) (h0 : 224 ≤ bt s p) (h1 : bt s p < 240) :
  Calls Tryz.prog 125 #[.string s, .int .i64 (p : Int)] w fun e w' => e = .returned (.tuple #[.int .i64 ((Utf8.decode s p).1 : Int), .int .i64 ((Utf8.decode s p).2 : Int)]) ∧ w = w' := by
 have hb := get_bt s
 obtain ⟨R, hR⟩ : ∃ R, contF s (p + 1) 2 (bt s p - 224) = R := ⟨_, rfl⟩
 have hans := ref_three s p h0 h1
 rw [hR] at hans
 generalize ((Utf8.decode s p).1 : Int) = A at *
 generalize ((Utf8.decode s p).2 : Int) = W at *
 have HA : Hid (ansR 2 2048 R = (A, W)) := hans
 have HR0 : Hid (contF s (p + 1) 2 (bt s p - 224) = R) := hR
 clear hans hR
 go_enter Tryz.func125, Tryz.ntmps125
 go_wp2
 go_loop [6, 46] (fun b k => ∃ (j : Nat) (c : Int), j ≤ 2 ∧ k = .int .i64 (j : Int) ∧ b = .int .i64 c ∧ 0 ≤ c ∧ c ≤ 16777215 ∧ Hid (((j = 0 ∧ c ≤ 63) ∨ (j = 1 ∧ c ≤ 4095) ∨ (j = 2 ∧ c ≤ 262143) ∨ j = 3) ∧ contF s (p + 1 + j) (2 - j) c = R)) (fun _ k => 4 - (RowKit.intOf k).toNat)
 case atStart => exact ⟨0, bt s p - 224, by omega, rfl, rfl, by omega, by omega, by omega, HR0.out⟩
 case round =>
  obtain ⟨j, c, hj, rfl, rfl, hc0, hc1, HR⟩ := hrel
  clear HR0
  by_cases hlt : j < 2
  ·obtain ⟨hjc, hcont⟩ := HR.out
   rw [show 2 - j = (2 - (j + 1)) + 1 by omega] at hcont
   obtain ⟨q, hq⟩ : ∃ q, p + 1 + j = q := ⟨_, rfl⟩
   have hqz : (p : Int) + 1 + (j : Int) = (q : Int) := by omega
   rw [hq] at hcont
   by_cases hin : q < s.size
   ·have b0 := bt_nonneg s q
    have b1 := bt_le s q
    by_cases h2 : bt s q / 64 = 2
    ·rw [contF_yes hin h2] at hcont
     have e2 : (bt s q / 64 != 2) = false := by simp [h2]
     have HN : Hid (((j + 1 = 0 ∧ 64 * c + bt s q % 64 ≤ 63) ∨ (j + 1 = 1 ∧ 64 * c + bt s q % 64 ≤ 4095) ∨ (j + 1 = 2 ∧ 64 * c + bt s q % 64 ≤ 262143) ∨ j + 1 = 3) ∧ contF s (p + 1 + (j + 1)) (2 - (j + 1)) (64 * c + bt s q % 64) = R) := by
      refine ⟨by omega, ?_⟩
      rw [show p + 1 + (j + 1) = q + 1 by omega]; exact hcont
     have hcb : 64 * c + bt s q % 64 ≤ 16777215 := by omega
     clear HR hjc hcont h2
     go_wp2
     go_round
     case rel => exact ⟨j + 1, 64 * c + bt s q % 64, by omega, by go_num, rfl, by omega, hcb, HN⟩
     case measure => simp [RowKit.intOf]; omega
    ·rw [contF_no (fun h => h2 h.2)] at hcont
     have e2 : (bt s q / 64 != 2) = true := by simp [h2]
     have hA := HA.out
     rw [← hcont] at hA
     have HA2 : Hid ((65533, 1) = (A, W)) := hA
     clear HR hjc hcont h2 hA HA
     go_wp2
     go_ret2
     exact ⟨ret_ii (congrArg Prod.fst HA2.out) (congrArg Prod.snd HA2.out), rfl⟩
   ·rw [contF_no (fun h => hin h.1)] at hcont
    have hA := HA.out
    rw [← hcont] at hA
    have HA2 : Hid ((65533, 1) = (A, W)) := hA
    clear HR hjc hcont hA HA
    go_wp2
    go_ret2
    exact ⟨ret_ii (congrArg Prod.fst HA2.out) (congrArg Prod.snd HA2.out), rfl⟩
  ·obtain rfl : j = 2 := by omega
   have hcont := HR.out.2
   rw [Nat.sub_self, contF] at hcont
   have hA := HA.out
   rw [← hcont] at hA
   clear HR hcont HA hlt
   by_cases t1 : c < 2048
   ·rw [ansR_bad (.inl t1)] at hA
    have HA2 : Hid ((65533, 1) = (A, W)) := hA
    clear hA
    go_wp2
    go_ret2
    exact ⟨ret_ii (congrArg Prod.fst HA2.out) (congrArg Prod.snd HA2.out), rfl⟩
   ·by_cases t2 : 1114111 < c
    ·rw [ansR_bad (.inr (.inl t2))] at hA
     have HA2 : Hid ((65533, 1) = (A, W)) := hA
     clear hA
     go_wp2
     go_ret2
     exact ⟨ret_ii (congrArg Prod.fst HA2.out) (congrArg Prod.snd HA2.out), rfl⟩
    ·by_cases t3 : 55296 ≤ c ∧ c < 57344
     ·rw [ansR_bad (.inr (.inr t3))] at hA
      have HA2 : Hid ((65533, 1) = (A, W)) := hA
      obtain ⟨t4, t5⟩ := t3
      clear hA
      go_wp2
      go_ret2
      exact ⟨ret_ii (congrArg Prod.fst HA2.out) (congrArg Prod.snd HA2.out), rfl⟩
     ·rw [ansR_good (by unfold badR; omega)] at hA
      have HA2 : Hid ((c, ((2 : Nat) : Int) + 1) = (A, W)) := hA
      clear hA
      by_cases t4 : 55296 ≤ c
      ·have t5 : ¬ c < 57344 := by omega
       clear t3
       go_wp2
       go_ret2
       exact ⟨ret_ii (congrArg Prod.fst HA2.out) (congrArg Prod.snd HA2.out), rfl⟩
      ·clear t3
       go_wp2
       go_ret2
       exact ⟨ret_ii (congrArg Prod.fst HA2.out) (congrArg Prod.snd HA2.out), rfl⟩
set_option maxHeartbeats 2000000 in
theorem runeAt_four (s : ByteArray) (p : Nat) (w : World) (hs : s.size ≤ 140737488351232) (hp : p < s.size) (h0 : 240 ≤ bt s p) (h1 : bt s p < 248) :
  Calls Tryz.prog 125 #[.string s, .int .i64 (p : Int)] w fun e w' => e = .returned (.tuple #[.int .i64 ((Utf8.decode s p).1 : Int), .int .i64 ((Utf8.decode s p).2 : Int)]) ∧ w = w' := by
 have hb := get_bt s
 obtain ⟨R, hR⟩ : ∃ R, contF s (p + 1) 3 (bt s p - 240) = R := ⟨_, rfl⟩
 have hans := ref_four s p h0 h1
 rw [hR] at hans
 generalize ((Utf8.decode s p).1 : Int) = A at *
 generalize ((Utf8.decode s p).2 : Int) = W at *
 have HA : Hid (ansR 3 65536 R = (A, W)) := hans
 have HR0 : Hid (contF s (p + 1) 3 (bt s p - 240) = R) := hR
 clear hans hR
 go_enter Tryz.func125, Tryz.ntmps125
 go_wp2
 go_loop [6, 46] (fun b k => ∃ (j : Nat) (c : Int), j ≤ 3 ∧ k = .int .i64 (j : Int) ∧ b = .int .i64 c ∧ 0 ≤ c ∧ c ≤ 16777215 ∧ Hid (((j = 0 ∧ c ≤ 63) ∨ (j = 1 ∧ c ≤ 4095) ∨ (j = 2 ∧ c ≤ 262143) ∨ j = 3) ∧ contF s (p + 1 + j) (3 - j) c = R)) (fun _ k => 4 - (RowKit.intOf k).toNat)
 case atStart => exact ⟨0, bt s p - 240, by omega, rfl, rfl, by omega, by omega, by omega, HR0.out⟩
 case round =>
  obtain ⟨j, c, hj, rfl, rfl, hc0, hc1, HR⟩ := hrel
  clear HR0
  by_cases hlt : j < 3
  ·obtain ⟨hjc, hcont⟩ := HR.out
   rw [show 3 - j = (3 - (j + 1)) + 1 by omega] at hcont
   obtain ⟨q, hq⟩ : ∃ q, p + 1 + j = q := ⟨_, rfl⟩
   have hqz : (p : Int) + 1 + (j : Int) = (q : Int) := by omega
   rw [hq] at hcont
   by_cases hin : q < s.size
   ·have b0 := bt_nonneg s q
    have b1 := bt_le s q
    by_cases h2 : bt s q / 64 = 2
    ·rw [contF_yes hin h2] at hcont
     have e2 : (bt s q / 64 != 2) = false := by simp [h2]
     have HN : Hid (((j + 1 = 0 ∧ 64 * c + bt s q % 64 ≤ 63) ∨ (j + 1 = 1 ∧ 64 * c + bt s q % 64 ≤ 4095) ∨ (j + 1 = 2 ∧ 64 * c + bt s q % 64 ≤ 262143) ∨ j + 1 = 3) ∧ contF s (p + 1 + (j + 1)) (3 - (j + 1)) (64 * c + bt s q % 64) = R) := by
      refine ⟨by omega, ?_⟩
      rw [show p + 1 + (j + 1) = q + 1 by omega]; exact hcont
     have hcb : 64 * c + bt s q % 64 ≤ 16777215 := by omega
     clear HR hjc hcont h2
     go_wp2
     go_round
     case rel => exact ⟨j + 1, 64 * c + bt s q % 64, by omega, by go_num, rfl, by omega, hcb, HN⟩
     case measure => simp [RowKit.intOf]; omega
    ·rw [contF_no (fun h => h2 h.2)] at hcont
     have e2 : (bt s q / 64 != 2) = true := by simp [h2]
     have hA := HA.out
     rw [← hcont] at hA
     have HA2 : Hid ((65533, 1) = (A, W)) := hA
     clear HR hjc hcont h2 hA HA
     go_wp2
     go_ret2
     exact ⟨ret_ii (congrArg Prod.fst HA2.out) (congrArg Prod.snd HA2.out), rfl⟩
   ·rw [contF_no (fun h => hin h.1)] at hcont
    have hA := HA.out
    rw [← hcont] at hA
    have HA2 : Hid ((65533, 1) = (A, W)) := hA
    clear HR hjc hcont hA HA
    go_wp2
    go_ret2
    exact ⟨ret_ii (congrArg Prod.fst HA2.out) (congrArg Prod.snd HA2.out), rfl⟩
  ·obtain rfl : j = 3 := by omega
   have hcont := HR.out.2
   rw [Nat.sub_self, contF] at hcont
   have hA := HA.out
   rw [← hcont] at hA
   clear HR hcont HA hlt
   by_cases t1 : c < 65536
   ·rw [ansR_bad (.inl t1)] at hA
    have HA2 : Hid ((65533, 1) = (A, W)) := hA
    clear hA
    go_wp2
    go_ret2
    exact ⟨ret_ii (congrArg Prod.fst HA2.out) (congrArg Prod.snd HA2.out), rfl⟩
   ·by_cases t2 : 1114111 < c
    ·rw [ansR_bad (.inr (.inl t2))] at hA
     have HA2 : Hid ((65533, 1) = (A, W)) := hA
     clear hA
     go_wp2
     go_ret2
     exact ⟨ret_ii (congrArg Prod.fst HA2.out) (congrArg Prod.snd HA2.out), rfl⟩
    ·by_cases t3 : 55296 ≤ c ∧ c < 57344
     ·rw [ansR_bad (.inr (.inr t3))] at hA
      have HA2 : Hid ((65533, 1) = (A, W)) := hA
      obtain ⟨t4, t5⟩ := t3
      clear hA
      go_wp2
      go_ret2
      exact ⟨ret_ii (congrArg Prod.fst HA2.out) (congrArg Prod.snd HA2.out), rfl⟩
     ·rw [ansR_good (by unfold badR; omega)] at hA
      have HA2 : Hid ((c, ((3 : Nat) : Int) + 1) = (A, W)) := hA
      clear hA
      by_cases t4 : 55296 ≤ c
      ·have t5 : ¬ c < 57344 := by omega
       clear t3
       go_wp2
       go_ret2
       exact ⟨ret_ii (congrArg Prod.fst HA2.out) (congrArg Prod.snd HA2.out), rfl⟩
      ·clear t3
       go_wp2
       go_ret2
       exact ⟨ret_ii (congrArg Prod.fst HA2.out) (congrArg Prod.snd HA2.out), rfl⟩
set_option maxHeartbeats 1000000 in
theorem runeAt_any (s : ByteArray) (p : Nat) (w : World) (hs : s.size ≤ 140737488351232) (hp : p < s.size) :
  Calls Tryz.prog 125 #[.string s, .int .i64 (p : Int)] w fun e w' => e = .returned (.tuple #[.int .i64 ((Utf8.decode s p).1 : Int), .int .i64 ((Utf8.decode s p).2 : Int)]) ∧ w = w' := by
 have b0 := bt_nonneg s p
 have b1 := bt_le s p
 by_cases k1 : bt s p < 128
 ·rw [ref_one s p k1]
  have hb := get_bt s
  have ez : (((bt s p).toNat : Nat) : Int) = bt s p := by omega
  simp only [ez]
  clear ez
  go_enter Tryz.func125, Tryz.ntmps125
  go_wp2
  go_ret2
  exact ⟨rfl, rfl⟩
 ·by_cases k2 : 192 ≤ bt s p ∧ bt s p < 224
  ·exact runeAt_two s p w hs hp k2.1 k2.2
  ·by_cases k3 : 224 ≤ bt s p ∧ bt s p < 240
   ·exact runeAt_three s p w hs hp k3.1 k3.2
   ·by_cases k4 : 240 ≤ bt s p ∧ bt s p < 248
    ·exact runeAt_four s p w hs hp k4.1 k4.2
    ·rw [ref_none s p (by omega) (by omega)]
     have hb := get_bt s
     by_cases k5 : bt s p < 192
     ·have k6 : ¬ 192 ≤ bt s p := by omega
      have k7 : ¬ 224 ≤ bt s p := by omega
      have k8 : ¬ 240 ≤ bt s p := by omega
      clear k2 k3 k4
      go_enter Tryz.func125, Tryz.ntmps125
      go_wp2
      go_ret2
      exact ⟨rfl, rfl⟩
     ·have k6 : 248 ≤ bt s p := by omega
      clear k2 k3 k4
      go_enter Tryz.func125, Tryz.ntmps125
      go_wp2
      go_ret2
      exact ⟨rfl, rfl⟩
end Go.Proofs.YtonheibhbilhhaaGreat.utf
namespace Go.Proofs.YtonheibhbilhhaaGreat.utf
set_option maxRecDepth 100000
open Go.RowKit Go.PlainAid Go.Lib Go.Proofs.YtonheibhbilhhaaGreat.lane
theorem rns_length (s : ByteArray) : (rns s).length ≤ s.size := by
 have h2 := runesU_length _ s.data.toList (Nat.le_refl _)
 rw [← size_eq] at h2
 exact h2
theorem decode_in (s : ByteArray) (pos : Nat) (h : pos < s.size) : pos + (Utf8.decode s pos).2 ≤ s.size := by
 rw [← decodeL_drop]
 have hne : s.data.toList.drop pos ≠ [] := by
  intro h0
  have := congrArg List.length h0
  rw [List.length_drop, ← size_eq, List.length_nil] at this
  omega
 have := decodeL_le _ hne
 rw [List.length_drop, ← size_eq] at this
 omega
set_option maxHeartbeats 1000000 in
theorem runes_any (s : ByteArray) (w : World) (hs : s.size ≤ 17000000000000) :
  Calls Tryz.prog 106 #[.string s] w fun e w' => ∃ v, e = .returned v ∧ Rd w' v (rns s) ∧ Below w.heap.size w w' := by
 obtain ⟨i0, hi, hz0, hz1, hz2⟩ := info_parts infoI
 have HM : Hid ((rns s).length ≤ s.size) := rns_length s
 go_enter Tryz.func106, Tryz.ntmps106
 go_wp2
 go_loopw [3, 4] (fun v p wr => ∃ (pos : Nat) (acc : List Int), pos ≤ s.size ∧ p = .int .i64 (pos : Int) ∧ Ins wr w.heap.size v acc ∧ Below w.heap.size w wr ∧ Hid (acc ++ runesU (s.data.toList.drop pos) = rns s))
  (fun _ p _ => s.size - (RowKit.intOf p).toNat)
 case atStart => exact ⟨0, [], Nat.zero_le _, rfl, Ins.nil _ _, Below.refl _ _, rfl⟩
 case round =>
  obtain ⟨pos, acc, hps, rfl, hown, hbel, HR⟩ := hrel
  have hsz := hbel.size
  by_cases hp : pos < s.size
  ·have hin := decode_in s pos hp
   have hwd := decode_w s pos
   have HC : Hid (∀ w : World, Calls Tryz.prog 125 #[.string s, .int .i64 (pos : Int)] w fun e w' => e = .returned (.tuple #[.int .i64 ((Utf8.decode s pos).1 : Int), .int .i64 ((Utf8.decode s pos).2 : Int)]) ∧ w = w') := fun w => runeAt_any s pos w (by omega) hp
   have h := HR.out
   have hal : acc.length ≤ s.size := by
    have h2 := congrArg List.length h
    rw [List.length_append] at h2
    have := HM.out; omega
   rw [rns_at s pos hp] at h
   generalize ((Utf8.decode s pos).1 : Int) = r at h HC
   generalize (Utf8.decode s pos).2 = d at h HC hin hwd
   have HH : Hid ((acc ++ [r]) ++ runesU (s.data.toList.drop (pos + d)) = rns s) := by show _ = _; rw [List.append_assoc]; exact h
   have HO : Hid (Ins wr w.heap.size u3 acc) := hown
   clear HR h hown
   go_wp2_with fail
   refine (HC.out _).mono ?_
   rintro e w1 ⟨rfl, rfl⟩
   go_wp2_with (at_builtin; (refine wpList_append_lies _ rfl _ _ 30 rfl w.heap.size 3 i0 _ 1 8 Tryz.underlying30 hi hz0 hz1 hz2 rfl (by omega) u3 acc.length (acc.map (Value.int .i64)) rfl (World.ownsRow.alloc HO.out _) ⟨wr.heap.size, 0, none⟩ 1 1 [.int .i64 r] rfl rfl (World.news_of_block (cs := #[.int .i64 r]) (t := 3) (fr := (0, 0)) (heap_alloc_new wr _)) (by simp [Value.oneCell']) (by omega) (by unfold maxLen; omega) (by omega) (by simp; omega) (wr.heap.size + 1) (by simp) ?_); intro g cap w1 hown1 hgrow hat hgl)
   go_wp2
   go_roundw
   case rel => exact ⟨pos + d, acc ++ [r], hin, by go_num, Ins.push hown1, (hbel.alloc hsz _).grown hgrow (by simp; omega) HO.out.block, HH⟩
   case measure => simp [RowKit.intOf]; omega
  ·have h := HR.out
   rw [rns_end s pos hp, List.append_nil] at h
   go_wp2
   go_ret
   exact ⟨_, rfl, by rw [← h]; exact Ins.rd hown, hbel⟩
theorem wtxt_small {s : ByteArray} (h : cnt (rns s) ≤ 126) : wtxt s = strOfNums (wideL (rns s)) ∧ werr s = 0 := by
 have := wideL_length (rns s)
 unfold wtxt werr
 rw [if_pos (by omega), if_pos (by omega)]; exact ⟨rfl, rfl⟩
theorem wtxt_great {s : ByteArray} (h : 126 < cnt (rns s)) : wtxt s = ⟨#[]⟩ ∧ werr s = 2 := by
 have := wideL_length (rns s)
 unfold wtxt werr
 rw [if_neg (by omega), if_neg (by omega)]; exact ⟨rfl, rfl⟩
theorem str_nil (acc : ByteArray) : acc ++ strOfNums [] = acc := by apply ByteArray.ext; simp [strOfNums]
set_option maxHeartbeats 2000000 in
theorem rwide_any (s : ByteArray) (w : World) (hs : s.size ≤ 17000000000000) :
  Calls Tryz.prog 72 #[.string s] w fun e w' => e = .returned (.tuple #[.string (wtxt s), .int .i64 (werr s)]) ∧ Below w.heap.size w w' := by
 have HRU : Hid (∀ w : World, Calls Tryz.prog 106 #[.string s] w fun e w' => ∃ v, e = .returned v ∧ Rd w' v (rns s) ∧ Below w.heap.size w w') := fun w => runes_any s w hs
 have HOK : Hid (∀ r ∈ rns s, okR r) := rns_ok s
 have hrl := rns_length s
 have HS : Hid (cnt (rns s) ≤ 126 → wtxt s = strOfNums (wideL (rns s)) ∧ werr s = 0) := wtxt_small
 have HG : Hid (126 < cnt (rns s) → wtxt s = ⟨#[]⟩ ∧ werr s = 2) := wtxt_great
 generalize rns s = rs at *
 generalize wtxt s = T at *
 generalize werr s = Z at *
 go_enter Tryz.func72, Tryz.ntmps72
 go_wp2_with fail
 refine (HRU.out _).mono ?_
 rintro e u ⟨v, rfl, ⟨a, cp, rfl, hcp, hcells⟩, hb⟩
 have HCE : Hid (rs ≠ [] → ∃ g off, a = some ⟨g, off, none⟩ ∧ g < u.heap.size ∧ ∀ j x, rs[j]? = some x → u.cell? ⟨g, off + j, none⟩ = some (.int .i64 x)) := hcells
 clear hcells HRU
 go_wp2_with fail
 go_loopw [4, 5, 11] (fun o nn i wr => ∃ (k n : Nat) (acc : ByteArray), k ≤ rs.length ∧ n ≤ 126 ∧ acc.size = 2 * n ∧ o = .string acc ∧ nn = .int .i64 (n : Int) ∧ i = .int .i64 (k : Int) ∧ Below u.heap.size u wr ∧ Hid (n + cnt (rs.drop k) = cnt rs ∧ acc ++ strOfNums (wideL (rs.drop k)) = strOfNums (wideL rs)))
  (fun _ _ i _ => rs.length - (RowKit.intOf i).toNat)
 case atStart => exact ⟨0, 0, ⟨#[]⟩, Nat.zero_le _, by omega, rfl, rfl, rfl, rfl, Below.refl _ _, by simp, by apply ByteArray.ext; simp⟩
 case round =>
  obtain ⟨k, n, acc, hk, hn, hac, rfl, rfl, rfl, hbel, HR⟩ := hrel
  by_cases hlt : k < rs.length
  ·obtain ⟨g, off, rfl, hg, hcl⟩ := HCE.out (by intro h; rw [h] at hlt; simp at hlt)
   obtain ⟨c, hc⟩ : ∃ c, rs[k]? = some c := ⟨_, List.getElem?_eq_getElem hlt⟩
   have hcell := (hbel.cell (p := ⟨g, off + k, none⟩) hg).trans (hcl k c hc)
   have hok : okR c := HOK.out c (List.mem_of_getElem? hc)
   have hd : rs.drop k = c :: rs.drop (k + 1) := by
    obtain ⟨h1, h2⟩ := List.getElem?_eq_some_iff.1 hc
    rw [List.drop_eq_getElem_cons h1, h2]
   have h := HR.out
   rw [hd, cnt, wideL_cons, str_append, ← ByteArray.append_assoc] at h
   have hok' := hok
   unfold okR at hok'
   clear HR hd hcl hc
   by_cases h1 : c < 65536
   ·have hw1 : wn c = 1 := by unfold wn; rw [if_pos h1]
    rw [hw1, wu_one h1] at h
    have hc0 : 0 ≤ c := by omega
    have hng : ¬ 65535 < c := by omega
    by_cases hbig : n + 1 ≤ 126
    ·have HT : Hid (∀ w : World, Calls Tryz.prog 69 #[.int .i64 c] w fun e w' => e = .returned (.string (strOfNums [c % 256, c / 256])) ∧ Below w.heap.size w w') := fun w => twoBytes_any c hc0 (by omega) w
     have hxz : (strOfNums [c % 256, c / 256]).size = 2 := str_size _
     generalize strOfNums [c % 256, c / 256] = x at h HT hxz
     have hzz : (acc ++ x).size = acc.size + x.size := ByteArray.size_append
     have HH : Hid (n + 1 + cnt (rs.drop (k + 1)) = cnt rs ∧ (acc ++ x) ++ strOfNums (wideL (rs.drop (k + 1))) = strOfNums (wideL rs)) := ⟨by omega, h.2⟩
     have hbig' : ¬ (126 : Int) < (n : Int) + 1 := by omega
     clear h hok hok' h1 hw1 HS HG HOK
     go_wp2_with fail
     refine (HT.out _).mono ?_
     rintro e w1 ⟨rfl, hb1⟩
     go_wp2
     go_roundw
     case rel => exact ⟨k + 1, n + 1, acc ++ x, by omega, hbig, by omega, rfl, by go_num, by go_num, bsq hbel hb1, HH⟩
     case measure => simp [RowKit.intOf]; omega
    ·have hG := HG.out (by omega)
     have hbig' : (126 : Int) < (n : Int) + 1 := by omega
     have HZ : Hid (T = ⟨#[]⟩ ∧ Z = 2) := hG
     clear h hok hok' h1 hw1 HS HG HOK hG hbig
     go_wp2
     go_ret2
     exact ⟨ret_si HZ.out.1.symm HZ.out.2.symm, bsq hb hbel⟩
   ·have hw1 : wn c = 2 := by unfold wn; rw [if_neg h1]
    rw [hw1, wu_two h1] at h
    obtain ⟨q, rfl⟩ : ∃ q, c = q + 65536 := ⟨c - 65536, by omega⟩
    rw [show q + 65536 - 65536 = q by omega] at h
    have hq0 : 0 ≤ q := by omega
    have hq1 : q ≤ 1048575 := by omega
    have hgt : 65535 < q + 65536 := by omega
    by_cases hbig : n + 2 ≤ 126
    ·have HT : Hid (∀ w : World, Calls Tryz.prog 69 #[.int .i64 (55296 + q / 1024)] w fun e w' => e = .returned (.string (strOfNums [(55296 + q / 1024) % 256, (55296 + q / 1024) / 256])) ∧ Below w.heap.size w w') := fun w => twoBytes_any _ (by omega) (by omega) w
     have HU : Hid (∀ w : World, Calls Tryz.prog 69 #[.int .i64 (56320 + q % 1024)] w fun e w' => e = .returned (.string (strOfNums [(56320 + q % 1024) % 256, (56320 + q % 1024) / 256])) ∧ Below w.heap.size w w') := fun w => twoBytes_any _ (by omega) (by omega) w
     have hsp : strOfNums [(55296 + q / 1024) % 256, (55296 + q / 1024) / 256, (56320 + q % 1024) % 256, (56320 + q % 1024) / 256] = strOfNums [(55296 + q / 1024) % 256, (55296 + q / 1024) / 256] ++ strOfNums [(56320 + q % 1024) % 256, (56320 + q % 1024) / 256] := by rw [← str_append]; rfl
     rw [hsp] at h
     clear hsp
     have hxz : (strOfNums [(55296 + q / 1024) % 256, (55296 + q / 1024) / 256]).size = 2 := str_size _
     have hyz : (strOfNums [(56320 + q % 1024) % 256, (56320 + q % 1024) / 256]).size = 2 := str_size _
     generalize strOfNums [(55296 + q / 1024) % 256, (55296 + q / 1024) / 256] = x at h HT hxz
     generalize strOfNums [(56320 + q % 1024) % 256, (56320 + q % 1024) / 256] = y at h HU hyz
     have eas : acc ++ (x ++ y) = acc ++ x ++ y := ByteArray.append_assoc.symm
     rw [eas] at h
     clear eas
     have hzz : (acc ++ x).size = acc.size + x.size := ByteArray.size_append
     have hzy : (acc ++ x ++ y).size = (acc ++ x).size + y.size := ByteArray.size_append
     have HH : Hid (n + 2 + cnt (rs.drop (k + 1)) = cnt rs ∧ (acc ++ x ++ y) ++ strOfNums (wideL (rs.drop (k + 1))) = strOfNums (wideL rs)) := ⟨by omega, h.2⟩
     have hbig' : ¬ (126 : Int) < (n : Int) + 1 + 1 := by omega
     clear h hok hok' h1 hw1 HS HG HOK
     go_wp2_with fail
     refine (HT.out _).mono ?_
     rintro e w1 ⟨rfl, hb1⟩
     go_wp2_with fail
     refine (HU.out _).mono ?_
     rintro e w2 ⟨rfl, hb2⟩
     go_wp2
     go_roundw
     case rel => exact ⟨k + 1, n + 2, acc ++ x ++ y, by omega, hbig, by omega, rfl, by go_num, by go_num, bsq (bsq hbel hb1) hb2, HH⟩
     case measure => simp [RowKit.intOf]; omega
    ·have hG := HG.out (by omega)
     have hbig' : (126 : Int) < (n : Int) + 1 + 1 := by omega
     have HZ : Hid (T = ⟨#[]⟩ ∧ Z = 2) := hG
     clear h hok hok' h1 hw1 HS HG HOK hG hbig
     go_wp2
     go_ret2
     exact ⟨ret_si HZ.out.1.symm HZ.out.2.symm, bsq hb hbel⟩
  ·obtain rfl : k = rs.length := by omega
   have h := HR.out
   rw [List.drop_length, cnt, wideL_nil, str_nil] at h
   have hS := HS.out (by omega)
   have HZ : Hid (acc = T ∧ 0 = Z) := ⟨by rw [hS.1, h.2], hS.2.symm⟩
   clear h hS HS HG HOK HR HCE
   go_wp2
   go_ret2
   exact ⟨ret_si HZ.out.1 HZ.out.2, bsq hb hbel⟩
end Go.Proofs.YtonheibhbilhhaaGreat.utf
namespace Go.Proofs.YtonheibhbilhhaaGreat.desc
open Go.RowKit Go.PlainAid Go.Proofs.YtonheibhbilhhaaGreat.lane Go.Proofs.YtonheibhbilhhaaGreat.utf
set_option linter.unusedVariables false
theorem two_all (n : Int) (h0 : 0 ≤ n) (h1 : n ≤ 255) : allB 255 [n, 3] = true := by
 simp [allB, inB, h0, h1]
set_option maxHeartbeats 1000000 in
theorem rtextText_any (s : ByteArray) (w : World) (hs : s.size ≤ 17000000000000) :
  Calls Tryz.prog 34 #[.string s] w fun e w' => e = .returned (.tuple #[.string (dtxt s), .int .i64 (werr s)]) ∧ Below w.heap.size w w' := by
 have HW : Hid (∀ w : World, Calls Tryz.prog 72 #[.string s] w fun e w' => e = .returned (.tuple #[.string (wtxt s), .int .i64 (werr s)]) ∧ Below w.heap.size w w') := fun w => rwide_any s w hs
 unfold dtxt
 rcases werr_cases s with ⟨h0, hz⟩ | h0
 ·rw [h0] at HW ⊢
  rw [if_pos rfl]
  generalize wtxt s = x at *
  clear h0
  go_enter Tryz.func34, Tryz.ntmps34
  go_wp2_with fail
  refine (HW.out _).mono ?_
  rintro e wa ⟨rfl, hb⟩
  have HB : Hid (Below w.heap.size w wa) := hb
  obtain ⟨y, hy⟩ : ∃ y, strOfNums [2 + (x.size : Int), 3] = y := ⟨_, rfl⟩
  have HY : Hid (strOfNums [2 + (x.size : Int), 3] = y) := hy
  have hz2 : y.size = 2 := by rw [← hy]; exact str_size _
  have HC : Hid (Calls Tryz.prog 41 #[.slice (some ⟨wa.heap.size, 0, none⟩) 2 2] (wa.alloc (.cells #[.int .i64 ((x.size : Int) + 2), .int .i64 3] 3)) fun e w' => e = .returned (.tuple #[.string y, .bool true]) ∧ Below (wa.heap.size + 1) (wa.alloc (.cells #[.int .i64 ((x.size : Int) + 2), .int .i64 3] 3)) w') := by
   have := bytesOf_any _ [(x.size : Int) + 2, 3] _ (Rig.new wa [(x.size : Int) + 2, 3] 3 (by simp [maxLen])) (by simp)
   rw [bof, two_all _ (by omega) (by omega), if_pos rfl, Int.add_comm (x.size : Int) 2, hy] at this
   rw [Int.add_comm (x.size : Int) 2]
   show Calls _ _ _ _ _
   simpa using this
  have hz3 : (y ++ x).size = 2 + x.size := by rw [ByteArray.size_append, hz2]
  clear hb hy
  go_wp2_with fail
  refine HC.out.mono ?_
  rintro e wb ⟨rfl, hb2⟩
  have HB2 : Hid (Below w.heap.size w wb) := (HB.out.trans ((balloc wa _).mono HB.out.size)).trans (hb2.mono (by have := HB.out.size; omega))
  clear hb2
  go_wp2
  go_ret2
  rw [HY.out]
  exact ⟨rfl, HB2.out⟩
 ·rw [h0] at HW ⊢
  rw [if_neg (by decide)]
  generalize wtxt s = x at *
  clear h0
  go_enter Tryz.func34, Tryz.ntmps34
  go_wp2_with fail
  refine (HW.out _).mono ?_
  rintro e wa ⟨rfl, hb⟩
  have HB : Hid (Below w.heap.size w wa) := hb
  clear hb
  go_wp2
  go_ret2
  exact ⟨rfl, HB.out⟩
set_option maxHeartbeats 1000000 in
theorem rreadText_any (t : ByteArray) (w : World) (hm : t.size ≤ maxLen) :
  Calls Tryz.prog 82 #[.string t] w fun e w' => e = .returned (.tuple #[.string (rdT t), .int .i64 (rdC t)]) ∧ Below w.heap.size w w' := by
 have HW : Hid (∀ w : World, Calls Tryz.prog 111 #[.string (t.extract 2 t.size)] w fun e w' => e = .returned (.tuple #[.string (ntxt (t.extract 2 t.size)), .int .i64 (nerr (t.extract 2 t.size))]) ∧ Below w.heap.size w w') := fun w => rnarrow_any _ w (by rw [ByteArray.size_extract]; omega)
 unfold maxLen at hm
 have hbt := get_bt t
 have h1 := bt_le t 0
 have h0 := bt_nonneg t 0
 unfold rdT rdC
 by_cases hs : t.size < 2
 ·rw [if_pos hs, if_pos hs]
  clear HW h0 h1
  go_enter Tryz.func82, Tryz.ntmps82
  go_wp2
  go_ret2
  exact ⟨rfl, Below.refl _ _⟩
 rw [if_neg hs, if_neg hs]
 by_cases he : bt t 0 = (t.size : Int)
 ·by_cases h3 : bt t 1 = 3
  ·rw [if_pos ⟨he, h3⟩, if_pos ⟨he, h3⟩]
   have e1 : (bt t 0 != (t.size : Int)) = false := by simpa using he
   have e2 : (bt t 1 != 3) = false := by simpa using h3
   generalize ntxt (t.extract 2 t.size) = x at *
   generalize nerr (t.extract 2 t.size) = z at *
   clear he h3
   go_enter Tryz.func82, Tryz.ntmps82
   go_wp2_with fail
   refine (HW.out _).mono ?_
   rintro e wa ⟨rfl, hb⟩
   go_wp2
   go_ret2
   exact ⟨rfl, hb⟩
  ·rw [if_neg (fun h => h3 h.2), if_neg (fun h => h3 h.2)]
   have e1 : (bt t 0 != (t.size : Int)) = false := by simpa using he
   have e2 : (bt t 1 != 3) = true := by simpa using h3
   clear he h3 HW
   go_enter Tryz.func82, Tryz.ntmps82
   go_wp2
   go_ret2
   exact ⟨rfl, Below.refl _ _⟩
 ·rw [if_neg (fun h => he h.1), if_neg (fun h => he h.1)]
  have e1 : (bt t 0 != (t.size : Int)) = true := by simpa using he
  clear he HW
  go_enter Tryz.func82, Tryz.ntmps82
  go_wp2
  go_ret2
  exact ⟨rfl, Below.refl _ _⟩
end Go.Proofs.YtonheibhbilhhaaGreat.desc
