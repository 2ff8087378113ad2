/- setup: what Write answers. -/
import Derived.Test.YtdnmjeiljpdmcaaSetC
namespace Go.Proofs.Ytdnmjeiljpdmcaa.setup
open Go.RowKit Go.PlainAid Go.Proofs.Ytdnmjeiljpdmcaa.lane
set_option linter.unusedVariables false

/-- an ask's cells at block b -/
structure Ak (w : World) (b : Nat) (k v i l : Int) : Prop where
  size : b < w.heap.size
  c0 : w.cell? ⟨b, 0, none⟩ = some (.int .i64 k)
  c1 : w.cell? ⟨b, 1, none⟩ = some (.int .i64 v)
  c2 : w.cell? ⟨b, 2, none⟩ = some (.int .i64 i)
  c3 : w.cell? ⟨b, 3, none⟩ = some (.int .i64 l)
theorem ak_alloc (w : World) (k v i l : Int) : Ak (w.alloc (askc k v i l)) w.heap.size k v i l := by
  refine ⟨by simp, ?_, ?_, ?_, ?_⟩ <;> go_simp
theorem Ak.below {w u : World} {b B : Nat} {k v i l : Int} (h : Ak w b k v i l) (hlt : b < B) (hb : Below B w u) : Ak u b k v i l :=
  ⟨Nat.lt_of_lt_of_le h.size hb.size, (hb.cell hlt).trans h.c0, (hb.cell hlt).trans h.c1, (hb.cell hlt).trans h.c2, (hb.cell hlt).trans h.c3⟩
theorem ret_two {s t : ByteArray} (c : Int) (h : s = t) : Ending.returned (.tuple #[.string s, .int .i64 c]) = .returned (.tuple #[.string t, .int .i64 c]) := by rw [h]
/-- a shape's two bytes at block b -/
structure Sk (w : World) (b : Nat) (x y : Int) : Prop where
  size : b < w.heap.size
  c0 : w.cell? ⟨b, 0, none⟩ = some (.int .u8 x)
  c1 : w.cell? ⟨b, 1, none⟩ = some (.int .u8 y)
theorem Sk.below {w u : World} {b B : Nat} {x y : Int} (h : Sk w b x y) (hlt : b < B) (hb : Below B w u) : Sk u b x y :=
  ⟨Nat.lt_of_lt_of_le h.size hb.size, (hb.cell hlt).trans h.c0, (hb.cell hlt).trans h.c1⟩
theorem sk_alloc (w : World) (x y : Int) (r : Array Value) : Sk (w.alloc (.cells (#[.int .u8 x, .int .u8 y] ++ r) 69)) w.heap.size x y := by
  refine ⟨by simp, ?_, ?_⟩
  all_goals
    rw [World.cell?_alloc_new]
    simp [Array.getElem?_append]
theorem Bys.two (w : World) (x y : Int) : Bys (w.alloc (.cells #[.int .u8 x, .int .u8 y] 5)) w.heap.size (.slice (some ⟨w.heap.size, 0, none⟩) 2 2) [x, y] := by
  refine ⟨rfl, .inr ⟨w.heap.size, 2, #[.int .u8 x, .int .u8 y], rfl, Nat.le_refl _, ?_⟩⟩
  have e := (MapKept.heap_alloc w (.cells #[.int .u8 x, .int .u8 y] 5)).1
  simp [maxLen] at e ⊢
  exact e
set_option maxHeartbeats 2000000 in
theorem write_none (k v i l : Int) (h : isK k = false) (w : World) :
    Calls Try.prog 36 #[ask k v i l] w fun r w' => r = .returned (.tuple #[.string ⟨#[]⟩, .int .i64 1]) ∧ Below w.heap.size w w' := by
  have HS : Hid (∀ w : World, Calls Try.prog 42 #[.int .i64 k] w fun e w' => e = .returned (.tuple #[shv 0 0 0 0 0 0 0 0 false, .bool false]) ∧ Below w.heap.size w w') := shape_bad k h
  clear h
  go_enter Try.func36, Try.ntmps36
  go_wp2_with fail
  refine (HS.out _).mono ?_
  rintro r u ⟨rfl, hb⟩
  have HB : Hid (Below w.heap.size w u) := bsq (balloc w _) hb
  clear hb
  go_wp2
  go_ret2
  exact ⟨rfl, bsq HB.out (balloc _ _)⟩
set_option maxHeartbeats 2000000 in
theorem write_off (SH : ShAll) (k v i l : Int) (h : isK k = true) (hi : -9223372036854775808 ≤ i ∧ i ≤ 9223372036854775807) (hf : fitB k v i l = false) (w : World) :
    Calls Try.prog 36 #[ask k v i l] w fun r w' => r = .returned (.tuple #[.string ⟨#[]⟩, .int .i64 1]) ∧ Below w.heap.size w w' := by
  have HS : Hid (∀ w : World, Calls Try.prog 42 #[.int .i64 k] w fun e w' => e = .returned (.tuple #[shv (col k 0) (col k 1) (col k 2) (col k 3) (col k 4) (col k 5) (col k 6) (col k 7) (te k), .bool true]) ∧ Below w.heap.size w w') := SH k h
  have HF : Hid (∀ w : World, Calls Try.prog 43 #[shv (col k 0) (col k 1) (col k 2) (col k 3) (col k 4) (col k 5) (col k 6) (col k 7) (te k), ask k v i l] w fun e w' => e = .returned (.bool false) ∧ Below w.heap.size w w') := by
    intro w; rw [← hf]; exact fits_any _ _ _ _ _ _ _ _ _ k v i l hi w
  clear h hi hf
  generalize col k 0 = a0 at *
  generalize col k 1 = a1 at *
  generalize col k 2 = a2 at *
  generalize col k 3 = a3 at *
  generalize col k 4 = a4 at *
  generalize col k 5 = a5 at *
  generalize col k 6 = a6 at *
  generalize col k 7 = a7 at *
  generalize te k = t at *
  go_enter Try.func36, Try.ntmps36
  go_wp2_with fail
  refine (HS.out _).mono ?_
  rintro r u ⟨rfl, hb⟩
  have HB : Hid (Below w.heap.size w u) := bsq (balloc w _) hb
  obtain ⟨hz, c0, c1, c2, c3⟩ := (ak_alloc w k v i l).below (by simp) hb
  clear hb
  go_wp2_with fail
  refine (HF.out _).mono ?_
  rintro r u2 ⟨rfl, hb⟩
  have HB2 : Hid (Below w.heap.size w u2) := bsq (bsq HB.out (balloc _ _)) hb
  clear hb
  go_wp2
  go_ret2
  exact ⟨rfl, HB2.out⟩
set_option maxHeartbeats 4000000 in
theorem write_ok (SH : ShAll) (k v i l : Int) (h : good k v i l = true) (w : World) :
    Calls Try.prog 36 #[ask k v i l] w fun r w' => r = .returned (.tuple #[.string (strOfNums (txt k v i l)), .int .i64 0]) ∧ Below w.heap.size w w' := by
  obtain ⟨hk, hv, hi, hl⟩ := good_words h
  unfold good at h
  rw [Bool.and_eq_true] at h
  have HS : Hid (∀ w : World, Calls Try.prog 42 #[.int .i64 k] w fun e w' => e = .returned (.tuple #[shv (col k 0) (col k 1) (col k 2) (col k 3) (col k 4) (col k 5) (col k 6) (col k 7) (te k), .bool true]) ∧ Below w.heap.size w w') := SH k h.1
  have HF : Hid (∀ w : World, Calls Try.prog 43 #[shv (col k 0) (col k 1) (col k 2) (col k 3) (col k 4) (col k 5) (col k 6) (col k 7) (te k), ask k v i l] w fun e w' => e = .returned (.bool true) ∧ Below w.heap.size w w') := by
    intro w; rw [← h.2]; exact fits_any _ _ _ _ _ _ _ _ _ k v i l (by omega) w
  have HX : Hid (∀ s, s = [col k 0, col k 1] ++ wrd v ++ wrd i ++ wrd l → strOfNums s = strOfNums (txt k v i l)) := by rintro s rfl; rfl
  have HA : Hid (∀ (n : Int), n = v ∨ n = i ∨ n = l → ∀ (B : Nat) (x : Value) (acc : List Int) (w : World), Bys w B x acc → B ≤ w.heap.size → acc.length ≤ 1000000 → Calls Try.prog 44 #[x, .int .i64 n] w fun e w' => ∃ v', e = .returned v' ∧ Bys w' B v' (acc ++ wrd n) ∧ Below B w w') :=
    fun n hn B x acc w h1 h2 h3 => appendWord_any B x acc n (by omega) (by omega) w h1 h2 h3
  clear h hi hk hv hl
  generalize strOfNums (txt k v i l) = R at *
  generalize col k 0 = a0 at *
  generalize col k 1 = a1 at *
  generalize col k 2 = a2 at *
  generalize col k 3 = a3 at *
  generalize col k 4 = a4 at *
  generalize col k 5 = a5 at *
  generalize col k 6 = a6 at *
  generalize col k 7 = a7 at *
  generalize te k = t at *
  go_enter Try.func36, Try.ntmps36
  go_wp2_with fail
  refine (HS.out _).mono ?_
  rintro r u ⟨rfl, hb⟩
  have HB : Hid (Below w.heap.size w u) := bsq (balloc w _) hb
  have A1 := (ak_alloc w k v i l).below (by simp) hb
  have HK : Hid (Ak u w.heap.size k v i l) := A1
  obtain ⟨hz, c0, c1, c2, c3⟩ := A1
  clear hb
  go_wp2_with fail
  refine (HF.out _).mono ?_
  rintro r u2 ⟨rfl, hb⟩
  have HB2 : Hid (Below w.heap.size w u2) := bsq (bsq HB.out (balloc _ _)) hb
  have A2 := (HK.out.below HK.out.size (balloc u _)).below (Nat.lt_of_lt_of_le HK.out.size (by simp)) hb
  obtain ⟨sz, s0, s1⟩ := (sk_alloc u a0 a1 #[.int .i64 a2, .int .i64 a3, .int .i64 a4, .int .i64 a5, .int .i64 a6, .int .i64 a7, .bool t]).below (by simp) hb
  have HK2 : Hid (Ak u2 w.heap.size k v i l) := A2
  obtain ⟨hz2, d0, d1, d2, d3⟩ := A2
  clear hb c0 c1 c2 c3 hz HK
  go_wp2_with fail
  refine (HA.out v (.inl rfl) u2.heap.size _ _ _ (Bys.two u2 a0 a1) (by simp) (by simp)).mono ?_
  rintro r u3 ⟨x3, rfl, hx3, hb3⟩
  have HK3 : Hid (Ak u3 w.heap.size k v i l) := (HK2.out.below HK2.out.size (balloc u2 _)).below HK2.out.size hb3
  have HB3 : Hid (Below w.heap.size w u3) := (bsq HB2.out (balloc _ _)).trans (hb3.mono HB2.out.size)
  have HX3 : Hid (Bys u3 u2.heap.size x3 ([a0, a1] ++ wrd v)) := hx3
  have hs3 : u2.heap.size ≤ u3.heap.size := Nat.le_trans (by simp) hb3.size
  obtain ⟨hz3, e0, e1, e2, e3⟩ := HK3.out
  clear hx3 hb3 d0 d1 d2 d3 s0 s1
  go_wp2_with fail
  refine (HA.out i (.inr (.inl rfl)) u2.heap.size _ _ _ HX3.out hs3 (by simp [wrd])).mono ?_
  rintro r u4 ⟨x4, rfl, hx4, hb4⟩
  have HK4 : Hid (Ak u4 w.heap.size k v i l) := HK3.out.below HK2.out.size hb4
  have HB4 : Hid (Below w.heap.size w u4) := HB3.out.trans (hb4.mono HB2.out.size)
  have HX4 : Hid (Bys u4 u2.heap.size x4 ([a0, a1] ++ wrd v ++ wrd i)) := hx4
  have hs4 : u2.heap.size ≤ u4.heap.size := Nat.le_trans hs3 hb4.size
  obtain ⟨hz4, f0, f1, f2, f3⟩ := HK4.out
  clear hx4 hb4 e0 e1 e2 e3
  go_wp2_with fail
  refine (HA.out l (.inr (.inr rfl)) u2.heap.size _ _ _ HX4.out hs4 (by simp [wrd])).mono ?_
  rintro r u5 ⟨x5, rfl, hx5, hb5⟩
  have HB5 : Hid (Below w.heap.size w u5) := HB4.out.trans (hb5.mono HB2.out.size)
  have hcv := hx5.conv
  rw [HX.out _ rfl] at hcv
  clear hx5 hb5 f0 f1 f2 f3
  go_wp2
  go_ret2
  exact ⟨rfl, HB5.out⟩
theorem write_of (SH : ShAll) (k v i l : Int) (hi : -9223372036854775808 ≤ i ∧ i ≤ 9223372036854775807) : 
    (good k v i l = true → ∀ w, Calls Try.prog 36 #[ask k v i l] w fun r w' => r = .returned (.tuple #[.string (strOfNums (txt k v i l)), .int .i64 0]) ∧ Below w.heap.size w w') ∧
    (good k v i l = false → ∀ w, Calls Try.prog 36 #[ask k v i l] w fun r w' => r = .returned (.tuple #[.string ⟨#[]⟩, .int .i64 1]) ∧ Below w.heap.size w w') := by
  refine ⟨fun h => write_ok SH k v i l h, fun h => ?_⟩
  cases hk : isK k with
  | false => exact write_none k v i l hk
  | true =>
    unfold good at h
    rw [hk, Bool.true_and] at h
    exact write_off SH k v i l hk hi h
end Go.Proofs.Ytdnmjeiljpdmcaa.setup
