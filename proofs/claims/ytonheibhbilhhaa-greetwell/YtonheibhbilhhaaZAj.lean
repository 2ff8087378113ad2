/- setup: what Write answers. -/
import Derived.Test.YtonheibhbilhhaaZAi
import Derived.Test.YtonheibhbilhhaaZAg
import Derived.StillTail
import Derived.OpenShut
import Derived.ChangeArms
import Derived.ChangeSame
import Derived.Laws.StructEq
namespace Go.Proofs.Ytonheibhbilhhaa.setup
open Go.RowKit Go.PlainAid Go.Proofs.Ytonheibhbilhhaa.lane
set_option linter.unusedVariables false

/-- an ask's cells at block b -/
structure Ak (w : World) (b : Nat) (k v i l : Int) : Prop where
  size : b < w.heap.size
  c0 : w.cell? ⟨b, 0, none⟩ = some (.int .i64 k)
  c1 : w.cell? ⟨b, 1, none⟩ = some (.int .i64 v)
  c2 : w.cell? ⟨b, 2, none⟩ = some (.int .i64 i)
  c3 : w.cell? ⟨b, 3, none⟩ = some (.int .i64 l)
theorem ak_alloc (w : World) (k v i l : Int) : Ak (w.alloc (askc k v i l)) w.heap.size k v i l := by
  refine ⟨by simp, ?_, ?_, ?_, ?_⟩ <;> go_simp
theorem Ak.below {w u : World} {b B : Nat} {k v i l : Int} (h : Ak w b k v i l) (hlt : b < B) (hb : Below B w u) : Ak u b k v i l :=
  ⟨Nat.lt_of_lt_of_le h.size hb.size, (hb.cell hlt).trans h.c0, (hb.cell hlt).trans h.c1, (hb.cell hlt).trans h.c2, (hb.cell hlt).trans h.c3⟩
theorem ret_two {s t : ByteArray} (c : Int) (h : s = t) : Ending.returned (.tuple #[.string s, .int .i64 c]) = .returned (.tuple #[.string t, .int .i64 c]) := by rw [h]
/-- a shape's two bytes at block b -/
structure Sk (w : World) (b : Nat) (x y : Int) : Prop where
  size : b < w.heap.size
  c0 : w.cell? ⟨b, 0, none⟩ = some (.int .u8 x)
  c1 : w.cell? ⟨b, 1, none⟩ = some (.int .u8 y)
theorem Sk.below {w u : World} {b B : Nat} {x y : Int} (h : Sk w b x y) (hlt : b < B) (hb : Below B w u) : Sk u b x y :=
  ⟨Nat.lt_of_lt_of_le h.size hb.size, (hb.cell hlt).trans h.c0, (hb.cell hlt).trans h.c1⟩
theorem sk_alloc (w : World) (x y : Int) (r : Array Value) : Sk (w.alloc (.cells (#[.int .u8 x, .int .u8 y] ++ r) 90)) w.heap.size x y := by
  refine ⟨by simp, ?_, ?_⟩
  all_goals
    rw [World.cell?_alloc_new]
    simp [Array.getElem?_append]
theorem Bys.two (w : World) (x y : Int) : Bys (w.alloc (.cells #[.int .u8 x, .int .u8 y] 5)) w.heap.size (.slice (some ⟨w.heap.size, 0, none⟩) 2 2) [x, y] := by
  refine ⟨rfl, .inr ⟨w.heap.size, 2, #[.int .u8 x, .int .u8 y], rfl, Nat.le_refl _, ?_⟩⟩
  have e := (MapKept.heap_alloc w (.cells #[.int .u8 x, .int .u8 y] 5)).1
  simp [maxLen] at e ⊢
  exact e
set_option maxHeartbeats 2000000 in
theorem write_none (k v i l : Int) (h : isK k = false) (w : World) :
    Calls Try.prog 24 #[ask k v i l] w fun r w' => r = .returned (.tuple #[.string ⟨#[]⟩, .int .i64 1]) ∧ Below w.heap.size w w' := by
  have HS : Hid (∀ w : World, Calls Try.prog 44 #[.int .i64 k] w fun e w' => e = .returned (.tuple #[shv 0 0 0 0 0 0 0 0 false, .bool false]) ∧ Below w.heap.size w w') := shape_bad k h
  clear h
  go_enter Try.func24, Try.ntmps24
  go_wp2_with fail
  refine (HS.out _).mono ?_
  rintro r u ⟨rfl, hb⟩
  have HB : Hid (Below w.heap.size w u) := bsq (balloc w _) hb
  clear hb
  go_wp2
  go_ret2
  exact ⟨rfl, bsq HB.out (balloc _ _)⟩
set_option maxHeartbeats 2000000 in
theorem write_off (SH : ShAll) (k v i l : Int) (h : isK k = true) (hi : -9223372036854775808 ≤ i ∧ i ≤ 9223372036854775807) (hf : fitB k v i l = false) (w : World) :
    Calls Try.prog 24 #[ask k v i l] w fun r w' => r = .returned (.tuple #[.string ⟨#[]⟩, .int .i64 1]) ∧ Below w.heap.size w w' := by
  have HS : Hid (∀ w : World, Calls Try.prog 44 #[.int .i64 k] w fun e w' => e = .returned (.tuple #[shv (col k 0) (col k 1) (col k 2) (col k 3) (col k 4) (col k 5) (col k 6) (col k 7) (te k), .bool true]) ∧ Below w.heap.size w w') := SH k h
  have HF : Hid (∀ w : World, Calls Try.prog 45 #[shv (col k 0) (col k 1) (col k 2) (col k 3) (col k 4) (col k 5) (col k 6) (col k 7) (te k), ask k v i l] w fun e w' => e = .returned (.bool false) ∧ Below w.heap.size w w') := by
    intro w; rw [← hf]; exact fits_any _ _ _ _ _ _ _ _ _ k v i l hi w
  clear h hi hf
  generalize col k 0 = a0 at *
  generalize col k 1 = a1 at *
  generalize col k 2 = a2 at *
  generalize col k 3 = a3 at *
  generalize col k 4 = a4 at *
  generalize col k 5 = a5 at *
  generalize col k 6 = a6 at *
  generalize col k 7 = a7 at *
  generalize te k = t at *
  go_enter Try.func24, Try.ntmps24
  go_wp2_with fail
  refine (HS.out _).mono ?_
  rintro r u ⟨rfl, hb⟩
  have HB : Hid (Below w.heap.size w u) := bsq (balloc w _) hb
  obtain ⟨hz, c0, c1, c2, c3⟩ := (ak_alloc w k v i l).below (by simp) hb
  clear hb
  go_wp2_with fail
  refine (HF.out _).mono ?_
  rintro r u2 ⟨rfl, hb⟩
  have HB2 : Hid (Below w.heap.size w u2) := bsq (bsq HB.out (balloc _ _)) hb
  clear hb
  go_wp2
  go_ret2
  exact ⟨rfl, HB2.out⟩
set_option maxHeartbeats 4000000 in
theorem write_ok (SH : ShAll) (k v i l : Int) (h : good k v i l = true) (w : World) :
    Calls Try.prog 24 #[ask k v i l] w fun r w' => r = .returned (.tuple #[.string (strOfNums (txt k v i l)), .int .i64 0]) ∧ Below w.heap.size w w' := by
  obtain ⟨hk, hv, hi, hl⟩ := good_words h
  unfold good at h
  rw [Bool.and_eq_true] at h
  have HS : Hid (∀ w : World, Calls Try.prog 44 #[.int .i64 k] w fun e w' => e = .returned (.tuple #[shv (col k 0) (col k 1) (col k 2) (col k 3) (col k 4) (col k 5) (col k 6) (col k 7) (te k), .bool true]) ∧ Below w.heap.size w w') := SH k h.1
  have HF : Hid (∀ w : World, Calls Try.prog 45 #[shv (col k 0) (col k 1) (col k 2) (col k 3) (col k 4) (col k 5) (col k 6) (col k 7) (te k), ask k v i l] w fun e w' => e = .returned (.bool true) ∧ Below w.heap.size w w') := by
    intro w; rw [← h.2]; exact fits_any _ _ _ _ _ _ _ _ _ k v i l (by omega) w
  have HX : Hid (∀ s, s = [col k 0, col k 1] ++ wrd v ++ wrd i ++ wrd l → strOfNums s = strOfNums (txt k v i l)) := by rintro s rfl; rfl
  have HA : Hid (∀ (n : Int), n = v ∨ n = i ∨ n = l → ∀ (B : Nat) (x : Value) (acc : List Int) (w : World), Bys w B x acc → B ≤ w.heap.size → acc.length ≤ 1000000 → Calls Try.prog 46 #[x, .int .i64 n] w fun e w' => ∃ v', e = .returned v' ∧ Bys w' B v' (acc ++ wrd n) ∧ Below B w w') :=
    fun n hn B x acc w h1 h2 h3 => appendWord_any B x acc n (by omega) (by omega) w h1 h2 h3
  clear h hi hk hv hl
  generalize strOfNums (txt k v i l) = R at *
  generalize col k 0 = a0 at *
  generalize col k 1 = a1 at *
  generalize col k 2 = a2 at *
  generalize col k 3 = a3 at *
  generalize col k 4 = a4 at *
  generalize col k 5 = a5 at *
  generalize col k 6 = a6 at *
  generalize col k 7 = a7 at *
  generalize te k = t at *
  go_enter Try.func24, Try.ntmps24
  go_wp2_with fail
  refine (HS.out _).mono ?_
  rintro r u ⟨rfl, hb⟩
  have HB : Hid (Below w.heap.size w u) := bsq (balloc w _) hb
  have A1 := (ak_alloc w k v i l).below (by simp) hb
  have HK : Hid (Ak u w.heap.size k v i l) := A1
  obtain ⟨hz, c0, c1, c2, c3⟩ := A1
  clear hb
  go_wp2_with fail
  refine (HF.out _).mono ?_
  rintro r u2 ⟨rfl, hb⟩
  have HB2 : Hid (Below w.heap.size w u2) := bsq (bsq HB.out (balloc _ _)) hb
  have A2 := (HK.out.below HK.out.size (balloc u _)).below (Nat.lt_of_lt_of_le HK.out.size (by simp)) hb
  obtain ⟨sz, s0, s1⟩ := (sk_alloc u a0 a1 #[.int .i64 a2, .int .i64 a3, .int .i64 a4, .int .i64 a5, .int .i64 a6, .int .i64 a7, .bool t]).below (by simp) hb
  have HK2 : Hid (Ak u2 w.heap.size k v i l) := A2
  obtain ⟨hz2, d0, d1, d2, d3⟩ := A2
  clear hb c0 c1 c2 c3 hz HK
  go_wp2_with fail
  refine (HA.out v (.inl rfl) u2.heap.size _ _ _ (Bys.two u2 a0 a1) (by simp) (by simp)).mono ?_
  rintro r u3 ⟨x3, rfl, hx3, hb3⟩
  have HK3 : Hid (Ak u3 w.heap.size k v i l) := (HK2.out.below HK2.out.size (balloc u2 _)).below HK2.out.size hb3
  have HB3 : Hid (Below w.heap.size w u3) := (bsq HB2.out (balloc _ _)).trans (hb3.mono HB2.out.size)
  have HX3 : Hid (Bys u3 u2.heap.size x3 ([a0, a1] ++ wrd v)) := hx3
  have hs3 : u2.heap.size ≤ u3.heap.size := Nat.le_trans (by simp) hb3.size
  obtain ⟨hz3, e0, e1, e2, e3⟩ := HK3.out
  clear hx3 hb3 d0 d1 d2 d3 s0 s1
  go_wp2_with fail
  refine (HA.out i (.inr (.inl rfl)) u2.heap.size _ _ _ HX3.out hs3 (by simp [wrd])).mono ?_
  rintro r u4 ⟨x4, rfl, hx4, hb4⟩
  have HK4 : Hid (Ak u4 w.heap.size k v i l) := HK3.out.below HK2.out.size hb4
  have HB4 : Hid (Below w.heap.size w u4) := HB3.out.trans (hb4.mono HB2.out.size)
  have HX4 : Hid (Bys u4 u2.heap.size x4 ([a0, a1] ++ wrd v ++ wrd i)) := hx4
  have hs4 : u2.heap.size ≤ u4.heap.size := Nat.le_trans hs3 hb4.size
  obtain ⟨hz4, f0, f1, f2, f3⟩ := HK4.out
  clear hx4 hb4 e0 e1 e2 e3
  go_wp2_with fail
  refine (HA.out l (.inr (.inr rfl)) u2.heap.size _ _ _ HX4.out hs4 (by simp [wrd])).mono ?_
  rintro r u5 ⟨x5, rfl, hx5, hb5⟩
  have HB5 : Hid (Below w.heap.size w u5) := HB4.out.trans (hb5.mono HB2.out.size)
  have hcv := hx5.conv
  rw [HX.out _ rfl] at hcv
  clear hx5 hb5 f0 f1 f2 f3
  go_wp2
  go_ret2
  exact ⟨rfl, HB5.out⟩
theorem write_of (SH : ShAll) (k v i l : Int) (hi : -9223372036854775808 ≤ i ∧ i ≤ 9223372036854775807) : 
    (good k v i l = true → ∀ w, Calls Try.prog 24 #[ask k v i l] w fun r w' => r = .returned (.tuple #[.string (strOfNums (txt k v i l)), .int .i64 0]) ∧ Below w.heap.size w w') ∧
    (good k v i l = false → ∀ w, Calls Try.prog 24 #[ask k v i l] w fun r w' => r = .returned (.tuple #[.string ⟨#[]⟩, .int .i64 1]) ∧ Below w.heap.size w w') := by
  refine ⟨fun h => write_ok SH k v i l h, fun h => ?_⟩
  cases hk : isK k with
  | false => exact write_none k v i l hk
  | true =>
    unfold good at h
    rw [hk, Bool.true_and] at h
    exact write_off SH k v i l hk hi h
end Go.Proofs.Ytonheibhbilhhaa.setup

/- setup: what Read answers. -/
namespace Go.Proofs.Ytonheibhbilhhaa.setup
open Go.RowKit Go.PlainAid Go.Proofs.Ytonheibhbilhhaa.lane Go.Proofs.Ytonheibhbilhhaa.desc
set_option linter.unusedVariables false
set_option linter.unusedSimpArgs false

theorem rdy_at {md : Region.Mode} {ops : Array Oper} {L : Array Bool} {k : Nat} (h : k ∈ Region.ready md ops L) : L.getD k false = false ∧ k < L.size := by
  have h0 := (mem_ready.1 h).1
  rcases Nat.lt_or_ge k L.size with h' | h'
  · refine ⟨?_, h'⟩
    simp [h'] at h0 ⊢
    exact h0
  · simp [Array.getElem?_eq_none h'] at h0
theorem rdy_after {md : Region.Mode} {ops : Array Oper} {L : Array Bool} {k j : Nat} (h : k ∈ Region.ready md ops L) (hw : Region.waitsFor md ops k j = true) : L.getD j false = true := by
  obtain ⟨oj, h1, e, he, hb, rfl⟩ := Region.waitsFor_spec hw
  obtain ⟨_, oj', h1', hall⟩ := mem_ready.1 h
  rw [h1] at h1'
  injection h1' with h1'
  subst h1'
  have := hall e he hb
  simp only [Array.getD_eq_getD_getElem?]
  first | (rw [this]; rfl) | simpa using this
theorem set_same {L : Array Bool} {k : Nat} (h : k < L.size) : (L.setIfInBounds k true).getD k false = true := by
  simp [h]
theorem run_cut (s : ByteArray) (k : Nat) (h : k ≤ s.size) (W : World) : (Instr.slice 9 (.string s) (some (.int .i64 (k : Int))) none none).run Try.prog W = .ok (.string (s.extract k s.size)) W := by
  have := run_slice_string_l (P := Try.prog) (w := W) 9 s Try.underlying9 .i64 (k : Int) (by omega) (by omega)
  rw [Int.toNat_natCast] at this
  exact this
theorem toList_beq (s t : ByteArray) : (s.toList == t.toList) = decide (s = t) := by
  rw [ByteArray.toList_eq, ByteArray.toList_eq]
  by_cases h : s = t
  · subst h; simp
  · rw [decide_eq_false h, beq_eq_false_iff_ne]
    intro q
    apply h
    apply ByteArray.ext
    exact Array.toList_inj.1 q
theorem below_drewN {B : Nat} {a w : World} (h : Below B a w) (n : Nat) : Below B a (w.drewN n) := ⟨h.os, h.tape, h.output, h.size, h.block⟩
theorem res_below {wr w' : World} {R : Nat} {o : Obj} (h : wr.heap[R]? = some o) (hb : Below wr.heap.size wr w') : w'.heap[R]? = some o := (hb.block R (Array.getElem?_eq_some_iff.1 h).1).trans h
theorem res_set {w : World} {R g k : Nat} {u : Value} {o : Obj} (h : w.heap[R]? = some o) (hne : R ≠ g) : (w.setCell ⟨g, k, none⟩ u).heap[R]? = some o := (Below.heap_setCell _ _ _ _ hne).trans h
theorem cset1 {v : World} {R : Nat} {cs cs' : Array Value} {T : TypeId} (k : Nat) (x : Value) (h : v.heap[R]? = some (.cells cs T)) (hk : cs.setIfInBounds k x = cs') : (v.setCell ⟨R, k, none⟩ x).heap[R]? = some (.cells cs' T) := by
  rw [← hk]; exact heap_setCell_same v R k cs T x h
theorem box4 {u : World} {b : Nat} {k v i l : Int} (h : u.heap[b]? = some (askc k v i l)) : Ak u b k v i l ∧ ∀ j, u.frozen? ⟨b, j, none⟩ = false := by
  have hlt := (Array.getElem?_eq_some_iff.1 h).1
  refine ⟨⟨hlt, ?_, ?_, ?_, ?_⟩, fun j => frozen_of_row u b j _ 61 h⟩ <;> (rw [cell_of_row u b _ _ 61 (0, 0) h]; rfl)
theorem ch4 {u : World} {b : Nat} {k v i l k' v' i' l' : Int} (h : u.heap[b]? = some (askc k v i l)) :
    ((((u.setCell ⟨b, 0, none⟩ (.int .i64 k')).setCell ⟨b, 1, none⟩ (.int .i64 v')).setCell ⟨b, 2, none⟩ (.int .i64 i')).setCell ⟨b, 3, none⟩ (.int .i64 l')).heap[b]? = some (askc k' v' i' l') := by
  have h0 := cset1 (cs' := #[.int .i64 k', .int .i64 v, .int .i64 i, .int .i64 l]) 0 (.int .i64 k') h rfl
  have h1 := cset1 (cs' := #[.int .i64 k', .int .i64 v', .int .i64 i, .int .i64 l]) 1 (.int .i64 v') h0 rfl
  have h2 := cset1 (cs' := #[.int .i64 k', .int .i64 v', .int .i64 i', .int .i64 l]) 2 (.int .i64 i') h1 rfl
  exact cset1 3 (.int .i64 l') h2 rfl
theorem bch4 {w u : World} {k' v' i' l' : Int} (h : Below w.heap.size w u) :
    Below w.heap.size w ((((u.setCell ⟨w.heap.size, 0, none⟩ (.int .i64 k')).setCell ⟨w.heap.size, 1, none⟩ (.int .i64 v')).setCell ⟨w.heap.size, 2, none⟩ (.int .i64 i')).setCell ⟨w.heap.size, 3, none⟩ (.int .i64 l')) :=
  (((h.setCell (Nat.le_refl _) _).setCell (Nat.le_refl _) _).setCell (Nat.le_refl _) _).setCell (Nat.le_refl _) _
/-- how many kinds are left -/
def kleft (b : Nat) (w : World) : Nat := (15 - intOf ((w.cell? ⟨b, 0, none⟩).getD undef)).toNat
theorem kleft_eq {w : World} {b : Nat} {k v i l : Int} (h : w.heap[b]? = some (askc k v i l)) : kleft b w = (15 - k).toNat := by
  unfold kleft
  rw [(box4 h).1.c0]
  rfl
def rdK (s : ByteArray) : Int := find (nums s) 14 1
def rdA (s : ByteArray) : Value := if rdK s = 0 then ask 0 0 0 0 else ask (rdK s) (wat (nums s) 2) (wat (nums s) 4) (wat (nums s) 6)
def rdC (s : ByteArray) : Int := if rdK s = 0 then 12 else 0
theorem wd_wat (s : ByteArray) (h : s.size = 8) (k : Nat) (hk : k < 7) : wdOf (s.extract k s.size) = wat (nums s) k := by
  unfold wdOf wat
  rw [bt_extract s k 0 (by omega), bt_extract s k 1 (by omega), bt_nums s _ (by omega), bt_nums s _ (by omega)]
  rfl
theorem wat_range (s : ByteArray) (k : Nat) : 0 ≤ wat (nums s) k ∧ wat (nums s) k ≤ 65535 := by
  have hb := nums_byt s
  have g : ∀ j, 0 ≤ (nums s).getD j 0 ∧ (nums s).getD j 0 ≤ 255 := by
    intro j
    rw [List.getD_eq_getElem?_getD]
    cases h : (nums s)[j]? with
    | none => simp
    | some x => exact hb x (List.mem_of_getElem? h)
  have := g k
  have := g (k + 1)
  unfold wat
  omega
theorem str_iff (s : ByteArray) (l : List Int) (h : Byt l) : strOfNums l = s ↔ l = nums s := by
  constructor
  · intro e; rw [← e, nums_str _ h]
  · intro e; rw [e, str_nums]
theorem write_hit (SH : ShAll) (s : ByteArray) (k : Int) : ∃ (T : ByteArray) (c : Int),
    (∀ w : World, Calls Try.prog 24 #[ask k (wat (nums s) 2) (wat (nums s) 4) (wat (nums s) 6)] w fun e w' => e = .returned (.tuple #[.string T, .int .i64 c]) ∧ Below w.heap.size w w') ∧
    ((hit (nums s) k = true ∧ c = 0 ∧ T = s) ∨ (hit (nums s) k = false ∧ (c = 1 ∨ (c = 0 ∧ ¬ T = s)))) := by
  have hr := wat_range s 4
  have H := write_of SH k (wat (nums s) 2) (wat (nums s) 4) (wat (nums s) 6) (by omega)
  unfold hit
  cases hg : good k (wat (nums s) 2) (wat (nums s) 4) (wat (nums s) 6) with
  | false => exact ⟨_, _, H.2 hg, .inr ⟨rfl, .inl rfl⟩⟩
  | true =>
    refine ⟨_, _, H.1 hg, ?_⟩
    rw [Bool.true_and]
    by_cases e : txt k (wat (nums s) 2) (wat (nums s) 4) (wat (nums s) 6) = nums s
    · exact .inl ⟨decide_eq_true e, rfl, (str_iff s _ (txt_byt hg)).2 e⟩
    · exact .inr ⟨decide_eq_false e, .inr ⟨rfl, fun q => e ((str_iff s _ (txt_byt hg)).1 q)⟩⟩
theorem read_short (s : ByteArray) (w : World) (h : s.size < 8) :
    Calls Try.prog 87 #[.string s] w fun e w' => e = .returned (.tuple #[ask 0 0 0 0, .int .i64 3]) ∧ Below w.heap.size w w' := by
  have q1 : (s.size : Int) < 8 := by omega
  go_enter Try.func87, Try.ntmps87
  go_wp2
  exact bodyPost_ret (by simp [results, Try.results87, go_sem]) rfl ⟨rfl, balloc _ _⟩
theorem read_long (s : ByteArray) (w : World) (h : 8 < s.size) (hm : s.size ≤ maxLen) :
    Calls Try.prog 87 #[.string s] w fun e w' => e = .returned (.tuple #[ask 0 0 0 0, .int .i64 4]) ∧ Below w.heap.size w w' := by
  have q1 : (8 : Int) < (s.size : Int) := by omega
  have q2 : ¬ (s.size : Int) < 8 := by omega
  unfold maxLen at hm
  go_enter Try.func87, Try.ntmps87
  go_wp2
  exact bodyPost_ret (by simp [results, Try.results87, go_sem]) rfl ⟨rfl, balloc _ _⟩
set_option maxRecDepth 100000 in
set_option maxHeartbeats 4000000 in
theorem read_eight (SH : ShAll) (s : ByteArray) (w : World) (h8 : s.size = 8) :
    Calls Try.prog 87 #[.string s] w fun e w' => e = .returned (.tuple #[rdA s, .int .i64 (rdC s)]) ∧ Below w.heap.size w w' := by
  have HW : Hid (∀ (t : ByteArray) (w : World), 2 ≤ t.size → Calls Try.prog 100 #[.string t] w fun e w' => e = .returned (.int .i64 (wdOf t)) ∧ ∃ q, w' = w.drewN q) := fun t w h => word_any t w h
  have l2 : ∀ W : World, (Instr.slice 9 (.string s) (some (.int .i64 2)) none none).run Try.prog W = .ok (.string (s.extract 2 s.size)) W := run_cut s 2 (by omega)
  have z2 : 2 ≤ (s.extract 2 s.size).size := by rw [ByteArray.size_extract]; omega
  have l4 : ∀ W : World, (Instr.slice 9 (.string s) (some (.int .i64 4)) none none).run Try.prog W = .ok (.string (s.extract 4 s.size)) W := run_cut s 4 (by omega)
  have z4 : 2 ≤ (s.extract 4 s.size).size := by rw [ByteArray.size_extract]; omega
  have l6 : ∀ W : World, (Instr.slice 9 (.string s) (some (.int .i64 6)) none none).run Try.prog W = .ok (.string (s.extract 6 s.size)) W := run_cut s 6 (by omega)
  have z6 : 2 ≤ (s.extract 6 s.size).size := by rw [ByteArray.size_extract]; omega
  have HF : Hid (∀ k : Int, ∃ (T : ByteArray) (c : Int), (∀ w : World, Calls Try.prog 24 #[ask k (wdOf (s.extract 2 s.size)) (wdOf (s.extract 4 s.size)) (wdOf (s.extract 6 s.size))] w fun e w' => e = .returned (.tuple #[.string T, .int .i64 c]) ∧ Below w.heap.size w w') ∧
    ((hit (nums s) k = true ∧ c = 0 ∧ T = s) ∨ (hit (nums s) k = false ∧ (c = 1 ∨ (c = 0 ∧ ¬ T = s))))) := by
    intro k
    rw [wd_wat s h8 2 (by omega), wd_wat s h8 4 (by omega), wd_wat s h8 6 (by omega)]
    exact write_hit SH s k
  have HE : Hid (∀ k : Int, k ≠ 0 → find (nums s) 14 1 = k → Ending.returned (.tuple #[ask k (wdOf (s.extract 2 s.size)) (wdOf (s.extract 4 s.size)) (wdOf (s.extract 6 s.size)), .int .i64 0]) = .returned (.tuple #[rdA s, .int .i64 (rdC s)])) := by
    intro k hk he
    rw [wd_wat s h8 2 (by omega), wd_wat s h8 4 (by omega), wd_wat s h8 6 (by omega)]
    unfold rdA rdC rdK
    rw [he, if_neg hk, if_neg hk]
  have HN : Hid (find (nums s) 14 1 = 0 → Ending.returned (.tuple #[ask 0 0 0 0, .int .i64 12]) = .returned (.tuple #[rdA s, .int .i64 (rdC s)])) := by
    intro he
    unfold rdA rdC rdK
    rw [he, if_pos rfl, if_pos rfl]
  have q1 : ¬ (s.size : Int) < 8 := by omega
  have q2 : ¬ (8 : Int) < (s.size : Int) := by omega
  clear h8
  generalize s.extract 2 s.size = s2 at *
  generalize s.extract 4 s.size = s4 at *
  generalize s.extract 6 s.size = s6 at *
  generalize rdA s = ra at *
  generalize rdC s = rc at *
  go_enter Try.func87, Try.ntmps87
  go_wp2_with fail
  obtain ⟨W0, hW0⟩ : ∃ W0, w.alloc (askc 0 0 0 0) = W0 := ⟨_, rfl⟩
  have hz0 : W0.heap.size = w.heap.size + 1 := by rw [← hW0]; simp
  have hb0 : Below w.heap.size w W0 := by rw [← hW0]; exact balloc _ _
  have hr0 : W0.heap[w.heap.size]? = some (askc 0 0 0 0) := by rw [← hW0]; exact (MapKept.heap_alloc w _).1
  rw [hW0]
  refine wp_region_L (St fun L => (if L.getD 11 false = true then (if L.getD 10 false = true then some (W0.alloc (askc 0 (wdOf s2) (wdOf s4) (wdOf s6))) else none) else if L.getD 10 false = true then some (W0.alloc (askc 0 0 0 0)) else some W0)) (by kernel_rfl) (by kernel_rfl) ⟨W0, 1, rfl, rfl⟩ ?_
  have hst : ∀ k, k ≠ 10 → k ≠ 11 → ∀ L : Array Bool, (if (L.setIfInBounds k true).getD 11 false = true then (if (L.setIfInBounds k true).getD 10 false = true then some (W0.alloc (askc 0 (wdOf s2) (wdOf s4) (wdOf s6))) else none) else if (L.setIfInBounds k true).getD 10 false = true then some (W0.alloc (askc 0 0 0 0)) else some W0) = (if L.getD 11 false = true then (if L.getD 10 false = true then some (W0.alloc (askc 0 (wdOf s2) (wdOf s4) (wdOf s6))) else none) else if L.getD 10 false = true then some (W0.alloc (askc 0 0 0 0)) else some W0) := fun k h1 h2 L => by rw [getD_set_ne false h1, getD_set_ne false h2]
  refine lex_plain (.string s) (fun L => by simp only [hst 0 (by decide) (by decide)]) rfl (fun W => by simp [execOp, go_sem]) ?_
  refine lex_plain (.string s2) (fun L => by simp only [hst 1 (by decide) (by decide)]) rfl (fun W => by simp [execOp, go_sem, l2]) ?_
  refine lex_call (.int .i64 (wdOf s2)) 100 #[.string s2] (fun L => by simp only [hst 2 (by decide) (by decide)]) rfl (fun W => by simp [execOp, go_sem]) (fun W => HW.out s2 W z2) ?_
  refine lex_plain (.string s) (fun L => by simp only [hst 3 (by decide) (by decide)]) rfl (fun W => by simp [execOp, go_sem]) ?_
  refine lex_plain (.string s4) (fun L => by simp only [hst 4 (by decide) (by decide)]) rfl (fun W => by simp [execOp, go_sem, l4]) ?_
  refine lex_call (.int .i64 (wdOf s4)) 100 #[.string s4] (fun L => by simp only [hst 5 (by decide) (by decide)]) rfl (fun W => by simp [execOp, go_sem]) (fun W => HW.out s4 W z4) ?_
  refine lex_plain (.string s) (fun L => by simp only [hst 6 (by decide) (by decide)]) rfl (fun W => by simp [execOp, go_sem]) ?_
  refine lex_plain (.string s6) (fun L => by simp only [hst 7 (by decide) (by decide)]) rfl (fun W => by simp [execOp, go_sem, l6]) ?_
  refine lex_call (.int .i64 (wdOf s6)) 100 #[.string s6] (fun L => by simp only [hst 8 (by decide) (by decide)]) rfl (fun W => by simp [execOp, go_sem]) (fun W => HW.out s6 W z6) ?_
  refine lex_plain (ask 0 (wdOf s2) (wdOf s4) (wdOf s6)) (fun L => by simp only [hst 9 (by decide) (by decide)]) rfl (fun W => by simp [execOp, go_sem]) ?_
  refine lex_turn (.pointer (some ⟨W0.heap.size, 0, none⟩)) rfl (fun L W n hr hs => ?_) ?_
  · obtain ⟨h37, hz37⟩ := rdy_at hr
    have h37' : (L.setIfInBounds 10 true).getD 10 false = true := set_same hz37
    have h38' : (L.setIfInBounds 10 true).getD 11 false = L.getD 11 false := getD_set_ne false (by decide)
    have h37 : L.getD 10 false = false := h37
    cases h38 : L.getD 11 false
    · simp only [h38, h37] at hs
      have hs : some W0 = some W := hs
      injection hs with hs
      subst hs
      refine ⟨W0.alloc (askc 0 0 0 0), ?_, .inl ?_⟩
      · show (if (L.setIfInBounds 10 true).getD 11 false = true then _ else if (L.setIfInBounds 10 true).getD 10 false = true then _ else _) = _
        rw [h38', h38, h37']
        rfl
      · simp [execOp, go_sem]
        rfl
    · simp only [h38, h37] at hs
      have hs : (none : Option World) = some W := hs
      cases hs
  refine lex_turn undef rfl (fun L W n hr hs => ?_) ?_
  · obtain ⟨h38, hz38⟩ := rdy_at hr
    have h37 : L.getD 10 false = true := rdy_after hr (by kernel_rfl)
    have h38 : L.getD 11 false = false := h38
    have h38' : (L.setIfInBounds 11 true).getD 11 false = true := set_same hz38
    have h37' : (L.setIfInBounds 11 true).getD 10 false = L.getD 10 false := getD_set_ne false (by decide)
    simp only [h38, h37] at hs
    have hs : some (W0.alloc (askc 0 0 0 0)) = some W := hs
    injection hs with hs
    subst hs
    refine ⟨W0.alloc (askc 0 (wdOf s2) (wdOf s4) (wdOf s6)), ?_, .inr ⟨?_, rfl⟩⟩
    · show (if (L.setIfInBounds 11 true).getD 11 false = true then (if (L.setIfInBounds 11 true).getD 10 false = true then _ else _) else _) = _
      rw [h38', h37', h37]
      rfl
    · simp [execOp, go_sem]
      simp only [set_drewN]
      simp [go_sem]
  intro w' hw'
  obtain ⟨W, n, hs, rfl⟩ := hw'
  have hs2 : some (W0.alloc (askc 0 (wdOf s2) (wdOf s4) (wdOf s6))) = some W := hs
  injection hs2 with hs2
  subst hs2
  obtain ⟨u, hu⟩ : ∃ u, (W0.alloc (askc 0 (wdOf s2) (wdOf s4) (wdOf s6))).drewN n = u := ⟨_, rfl⟩
  have hbu : Below w.heap.size w u := by rw [← hu]; exact below_drewN (bsq hb0 (balloc _ _)) _
  have hX : u.heap[W0.heap.size]? = some (askc 0 (wdOf s2) (wdOf s4) (wdOf s6)) := by rw [← hu]; exact (MapKept.heap_alloc W0 _).1
  have hR : u.heap[w.heap.size]? = some (askc 0 0 0 0) := by rw [← hu]; exact ((MapKept.heap_alloc W0 _).2 _ (by omega)).trans hr0
  rw [hu]
  obtain ⟨XB, hXB⟩ : ∃ X, W0.heap.size = X := ⟨_, rfl⟩
  rw [hXB] at hX hz0 ⊢
  have hne : w.heap.size ≠ XB := by omega
  have hle : w.heap.size ≤ XB := by omega
  have HX : Hid (u.heap[XB]? = some (askc 0 (wdOf s2) (wdOf s4) (wdOf s6))) := hX
  have HR : Hid (u.heap[w.heap.size]? = some (askc 0 0 0 0)) := hR
  have HB : Hid (Below w.heap.size w u) := hbu
  have HNE : Hid (w.heap.size ≠ XB) := hne
  have HLE : Hid (w.heap.size ≤ XB) := hle
  obtain ⟨⟨hzX, c0, c1, c2, c3⟩, hfr⟩ := box4 hX
  have f0 := hfr 0
  clear hu hs hst hX hR hbu hr0 hb0 hW0 hz0 hXB HW l2 z2 l4 z4 l6 z6 hfr hne hle
  generalize wdOf s2 = v at *
  generalize wdOf s4 = i at *
  generalize wdOf s6 = l at *
  go_wp2
  go_loopw [] (fun wr => ∃ k : Int, 1 ≤ k ∧ k ≤ 15 ∧ Hid (wr.heap[XB]? = some (askc k v i l)) ∧ Hid (wr.heap[w.heap.size]? = some (askc 0 0 0 0)) ∧ Hid (Below w.heap.size w wr) ∧ Hid (find (nums s) (15 - k).toNat k = find (nums s) 14 1)) (fun wr => kleft XB wr)
  case atStart => exact ⟨1, by omega, by omega, cset1 0 (.int .i64 1) HX.out rfl, res_set HR.out HNE.out, HB.out.setCell HLE.out _, rfl⟩
  case round =>
    obtain ⟨k, hk1, hk2, HX, HR, HB, HI⟩ := hrel
    obtain ⟨⟨hzX, c0, c1, c2, c3⟩, hfr⟩ := box4 HX.out
    clear hfr
    by_cases hk : k ≤ 14
    · obtain ⟨T, c, hw, hc⟩ := HF.out k
      have HWr : Hid (∀ w : World, Calls Try.prog 24 #[ask k v i l] w fun e w' => e = .returned (.tuple #[.string T, .int .i64 c]) ∧ Below w.heap.size w w') := hw
      have HC : Hid ((hit (nums s) k = true ∧ c = 0 ∧ T = s) ∨ (hit (nums s) k = false ∧ (c = 1 ∨ (c = 0 ∧ ¬ T = s)))) := hc
      clear hw hc
      go_wp2_with fail
      refine (HWr.out _).mono ?_
      rintro e u ⟨rfl, hbu⟩
      have HXu : Hid (u.heap[XB]? = some (askc k v i l)) := res_below HX.out hbu
      have HRu : Hid (u.heap[w.heap.size]? = some (askc 0 0 0 0)) := res_below HR.out hbu
      have HBu : Hid (Below w.heap.size w u) := bsq HB.out hbu
      clear hbu c0 c1 c2 c3 hzX
      obtain ⟨⟨hzX, c0, c1, c2, c3⟩, hfr⟩ := box4 HXu.out
      obtain ⟨⟨hzR, d0, d1, d2, d3⟩, hfs⟩ := box4 HRu.out
      have f0 := hfr 0
      have g0 := hfs 0
      have g1 := hfs 1
      have g2 := hfs 2
      have g3 := hfs 3
      clear hfr hfs
      rcases HC.out with ⟨hh, rfl, rfl⟩ | ⟨hh, rfl | ⟨rfl, hne⟩⟩
      · have HH : Hid (find (nums T) 14 1 = k) := by
          show find (nums T) 14 1 = k
          rw [← HI.out]
          obtain ⟨n, hn⟩ : ∃ n, (15 - k).toNat = n + 1 := ⟨(14 - k).toNat, by omega⟩
          rw [hn, find, if_pos hh]
        have hch := ch4 (k' := k) (v' := v) (i' := i) (l' := l) HRu.out
        have hBf := bch4 (k' := k) (v' := v) (i' := i) (l' := l) HBu.out
        obtain ⟨vf, hvf⟩ : ∃ vf, ((((u.setCell ⟨w.heap.size, 0, none⟩ (.int .i64 k)).setCell ⟨w.heap.size, 1, none⟩ (.int .i64 v)).setCell ⟨w.heap.size, 2, none⟩ (.int .i64 i)).setCell ⟨w.heap.size, 3, none⟩ (.int .i64 l)) = vf := ⟨_, rfl⟩
        rw [hvf] at hch hBf
        clear hh
        go_wp2
        try rw [hvf]
        obtain ⟨⟨hzf, r0, r1, r2, r3⟩, _⟩ := box4 hch
        exact bodyPost_ret (v := .tuple #[ask k v i l, .int .i64 0]) (by simp [results, Try.results87, go_sem, hzf, r0, r1, r2, r3]) rfl ⟨HE.out k (by omega) HH.out, hBf⟩
      · have HH : Hid (find (nums s) (15 - (k + 1)).toNat (k + 1) = find (nums s) 14 1) := by
          show _ = _
          rw [← HI.out]
          obtain ⟨n, hn⟩ : ∃ n, (15 - k).toNat = n + 1 := ⟨(14 - k).toNat, by omega⟩
          rw [hn, find, if_neg (by simp [hh]), show (15 - (k + 1)).toNat = n by omega]
        clear hh
        go_wp2
        go_roundw
        case rel => exact ⟨k + 1, by omega, by omega, cset1 0 (.int .i64 (k + 1)) HXu.out rfl, res_set HRu.out HNE.out, HBu.out.setCell HLE.out _, HH.out⟩
        case measure => rw [kleft_eq (cset1 0 (.int .i64 (k + 1)) HXu.out rfl), kleft_eq HX.out]; omega
      · have HH : Hid (find (nums s) (15 - (k + 1)).toNat (k + 1) = find (nums s) 14 1) := by
          show _ = _
          rw [← HI.out]
          obtain ⟨n, hn⟩ : ∃ n, (15 - k).toNat = n + 1 := ⟨(14 - k).toNat, by omega⟩
          rw [hn, find, if_neg (by simp [hh]), show (15 - (k + 1)).toNat = n by omega]
        have hne2 : (T.toList == s.toList) = false := by rw [toList_beq]; simpa using hne
        clear hne
        clear hh
        go_wp2
        go_roundw
        case rel => exact ⟨k + 1, by omega, by omega, cset1 0 (.int .i64 (k + 1)) HXu.out rfl, res_set HRu.out HNE.out, HBu.out.setCell HLE.out _, HH.out⟩
        case measure => rw [kleft_eq (cset1 0 (.int .i64 (k + 1)) HXu.out rfl), kleft_eq HX.out]; omega
    · have HH : Hid (find (nums s) 14 1 = 0) := by
        show _ = _
        rw [← HI.out, show (15 - k).toNat = 0 by omega]
        rfl
      obtain ⟨⟨hzR, d0, d1, d2, d3⟩, hfs⟩ := box4 HR.out
      have g0 := hfs 0
      have g1 := hfs 1
      have g2 := hfs 2
      have g3 := hfs 3
      have hch := ch4 (k' := 0) (v' := 0) (i' := 0) (l' := 0) HR.out
      have hBf := bch4 (k' := 0) (v' := 0) (i' := 0) (l' := 0) HB.out
      obtain ⟨vf, hvf⟩ : ∃ vf, ((((wr.setCell ⟨w.heap.size, 0, none⟩ (.int .i64 0)).setCell ⟨w.heap.size, 1, none⟩ (.int .i64 0)).setCell ⟨w.heap.size, 2, none⟩ (.int .i64 0)).setCell ⟨w.heap.size, 3, none⟩ (.int .i64 0)) = vf := ⟨_, rfl⟩
      rw [hvf] at hch hBf
      clear hfs
      go_wp2
      try rw [hvf]
      obtain ⟨⟨hzf, r0, r1, r2, r3⟩, _⟩ := box4 hch
      exact bodyPost_ret (v := .tuple #[ask 0 0 0 0, .int .i64 12]) (by simp [results, Try.results87, go_sem, hzf, r0, r1, r2, r3]) rfl ⟨HN.out HH.out, hBf⟩
/-- what Read answers: the ask and the code -/
def rA (s : ByteArray) : Value := if s.size = 8 then rdA s else ask 0 0 0 0
def rC (s : ByteArray) : Int := if s.size < 8 then 3 else if s.size = 8 then rdC s else 4
theorem read_of (SH : ShAll) (s : ByteArray) (hm : s.size ≤ maxLen) (w : World) :
    Calls Try.prog 87 #[.string s] w fun e w' => e = .returned (.tuple #[rA s, .int .i64 (rC s)]) ∧ Below w.heap.size w w' := by
  unfold rA rC
  by_cases h : s.size < 8
  · rw [if_neg (by omega), if_pos h]; exact read_short s w h
  · rw [if_neg h]
    by_cases h8 : s.size = 8
    · rw [if_pos h8, if_pos h8]; exact read_eight SH s w h8
    · rw [if_neg h8, if_neg h8]; exact read_long s w (by omega) hm
end Go.Proofs.Ytonheibhbilhhaa.setup

/- setup: Write and Read whole; an ask as an argument; two asks held against each other; setupLives. -/
namespace Go.Proofs.Ytonheibhbilhhaa.setup
open Go.RowKit Go.PlainAid Go.Proofs.Ytonheibhbilhhaa.lane Go.ChangeShapes Go.WideShapes Go.ChangeAt
set_option linter.unusedVariables false
set_option maxRecDepth 100000

def wrT (k v i l : Int) : ByteArray := if good k v i l = true then strOfNums (txt k v i l) else ⟨#[]⟩
def wrC (k v i l : Int) : Int := if good k v i l = true then 0 else 1
theorem write_any (k v i l : Int) (hi : -9223372036854775808 ≤ i ∧ i ≤ 9223372036854775807) (w : World) :
    Calls Try.prog 24 #[ask k v i l] w fun r w' => r = .returned (.tuple #[.string (wrT k v i l), .int .i64 (wrC k v i l)]) ∧ Below w.heap.size w w' := by
  have H := write_of shape_any k v i l hi
  unfold wrT wrC
  cases hg : good k v i l with
  | true => rw [if_pos rfl, if_pos rfl]; exact H.1 hg w
  | false => rw [if_neg (by simp), if_neg (by simp)]; exact H.2 hg w
/-- the ask that Read answers -/
def rK (s : ByteArray) : Int := if s.size = 8 then rdK s else 0
def rN (s : ByteArray) (j : Nat) : Int := if rK s = 0 then 0 else wat (nums s) j
theorem rA_eq (s : ByteArray) : rA s = ask (rK s) (rN s 2) (rN s 4) (rN s 6) := by
  unfold rA rN rK rdA
  by_cases h8 : s.size = 8
  · rw [if_pos h8, if_pos h8]
    by_cases h0 : rdK s = 0
    · simp only [h0, if_true]
    · simp only [h0, if_false]
  · rw [if_neg h8, if_neg h8]
    simp
theorem read_any (s : ByteArray) (hm : s.size ≤ maxLen) (w : World) :
    Calls Try.prog 87 #[.string s] w fun e w' => e = .returned (.tuple #[ask (rK s) (rN s 2) (rN s 4) (rN s 6), .int .i64 (rC s)]) ∧ Below w.heap.size w w' := by
  rw [← rA_eq]
  exact read_of shape_any s hm w
theorem rC_zero {s : ByteArray} (h : rC s = 0) : s.size = 8 ∧ rK s ≠ 0 ∧ hit (nums s) (rK s) = true := by
  unfold rC at h
  split at h
  · omega
  · split at h
    · rename_i h8
      unfold rdC at h
      split at h
      · omega
      · rename_i h0
        have hk : rK s = rdK s := by unfold rK; rw [if_pos h8]
        rw [hk]
        exact ⟨h8, h0, (find_hit 14 1 (by omega) h0).1⟩
    · omega
theorem rC_bad {s : ByteArray} (h : rC s ≠ 0) : rK s = 0 := by
  unfold rC at h
  unfold rK
  split at h
  · rw [if_neg (by omega)]
  · split at h
    · rename_i h8
      rw [if_pos h8]
      unfold rdC at h
      split at h
      · assumption
      · exact absurd rfl h
    · rename_i h8; rw [if_neg h8]
/-- what was read is written as it was -/
theorem read_write {s : ByteArray} (h : rC s = 0) : wrT (rK s) (rN s 2) (rN s 4) (rN s 6) = s ∧ wrC (rK s) (rN s 2) (rN s 4) (rN s 6) = 0 := by
  obtain ⟨h8, h0, hh⟩ := rC_zero h
  unfold rN
  simp only [h0, if_false]
  unfold hit at hh
  rw [Bool.and_eq_true, decide_eq_true_iff] at hh
  unfold wrT wrC
  rw [if_pos hh.1, if_pos hh.1, hh.2, str_nums]
  exact ⟨rfl, rfl⟩
/-- what was written is read as it was -/
theorem write_read {k v i l : Int} (h : good k v i l = true) : rK (wrT k v i l) = k ∧ rN (wrT k v i l) 2 = v ∧ rN (wrT k v i l) 4 = i ∧ rN (wrT k v i l) 6 = l ∧ rC (wrT k v i l) = 0 ∧ (wrT k v i l).size = 8 := by
  have e : wrT k v i l = strOfNums (txt k v i l) := by unfold wrT; rw [if_pos h]
  rw [e]
  have hn : nums (strOfNums (txt k v i l)) = txt k v i l := nums_str _ (txt_byt h)
  have hs : (strOfNums (txt k v i l)).size = 8 := by rw [str_size]; rfl
  have hk := (good_words h).1
  have hK : rK (strOfNums (txt k v i l)) = k := by unfold rK rdK; rw [if_pos hs, hn, find_txt h]
  obtain ⟨e1, e2, e3⟩ := wat_txt h
  have hk0 : ¬ k = 0 := by omega
  refine ⟨hK, ?_, ?_, ?_, ?_, hs⟩
  · unfold rN; rw [hK, hn, if_neg hk0, e1]
  · unfold rN; rw [hK, hn, if_neg hk0, e2]
  · unfold rN; rw [hK, hn, if_neg hk0, e3]
  · unfold rC rdC rdK
    rw [hs, hn, find_txt h, if_neg (by omega), if_pos rfl, if_neg hk0]
theorem und : Try.prog.underlying 61 = some (.struct (Try.prog.fieldsOf 61)) := by kernel_rfl
theorem stood : Try.prog.stoodInHeld 61 = false := by kernel_rfl
/-- are two asks alike? -/
def same (k v i l k' v' i' l' : Int) : Bool := k == k' && (v == v' && (i == i' && l == l'))
theorem eq_ask (k v i l k' v' i' l' : Int) (w : World) :
    (Op.equalIn 10000 61 (ask k v i l) (ask k' v' i' l')).run Try.prog w = .ok (same k v i l k' v' i' l') w := by
  rw [run_equalIn_struct w 9999 61 _ _ und stood]
  simp [go_sem]
  unfold same
  by_cases h1 : k = k' <;> by_cases h2 : v = v' <;> by_cases h3 : i = i' <;> by_cases h4 : l = l' <;> simp [h1, h2, h3, h4]
theorem eql_ask (k v i l k' v' i' l' : Int) (w : World) :
    (binOp .eql 61 (ask k v i l) (ask k' v' i' l')).run Try.prog w = .ok (.bool (same k v i l k' v' i' l')) w := by
  rw [run_eql_struct, eq_ask]; rfl
theorem neq_ask (k v i l k' v' i' l' : Int) (w : World) :
    (binOp .neq 61 (ask k v i l) (ask k' v' i' l')).run Try.prog w = .ok (.bool (!same k v i l k' v' i' l')) w := by
  rw [run_neq_struct, eq_ask]; rfl
theorem same_iff {k v i l k' v' i' l' : Int} : same k v i l k' v' i' l' = true ↔ k = k' ∧ v = v' ∧ i = i' ∧ l = l' := by
  simp [same]
theorem same_self (k v i l : Int) : same k v i l k v i l = true := same_iff.2 ⟨rfl, rfl, rfl, rfl⟩
theorem four_array {α : Type} {cs : Array α} (h : cs.size = 4) : ∃ c0 c1 c2 c3, cs = #[c0, c1, c2, c3] := by
  obtain ⟨l⟩ := cs
  match l, h with
  | [c0, c1, c2, c3], _ => exact ⟨c0, c1, c2, c3, rfl⟩
theorem four_list {α : Type} {l : List α} (h : l.length = 4) : ∃ c0 c1 c2 c3, l = [c0, c1, c2, c3] := by
  match l, h with
  | [c0, c1, c2, c3], _ => exact ⟨c0, c1, c2, c3, rfl⟩
theorem ask_cells : Try.prog.cellsOf 61 = 4 := by kernel_rfl
theorem int_cells : Try.prog.cellsOf 3 = 1 := by kernel_rfl
/-- an ask's datum -/
abbrev askD {H : Type} (k v i l : Int) : DataW H := .agg [.lit (.int .i64 k), .lit (.int .i64 v), .lit (.int .i64 i), .lit (.int .i64 l)]
theorem ask_open {H : Type} {enc : TypeId × Value → H} {w : World} {base : Nat} {spare : Nat → Bool} {held : Bool} {r : Reach} {b0 : Nat} {y : Value} {x : DataW H} {p : List MemPlace} (hv : Value.okWide Try.prog w r b0 61 y) (h : DataW.Trod enc Try.prog w base spare held 61 y x p) :
    ∃ (k v i l : Int), y = ask k v i l ∧ x = askD k v i l ∧ p = [] ∧ (Lit.int .i64 k).wf = true ∧ (Lit.int .i64 v).wf = true ∧ (Lit.int .i64 i).wf = true ∧ (Lit.int .i64 l).wf = true := by
  obtain ⟨cs, rfl, hsz⟩ := okWide_struct Try.underlying61 hv
  obtain ⟨c0, c1, c2, c3, rfl⟩ := four_array (hsz.trans ask_cells)
  obtain ⟨fuel, hf⟩ := h
  obtain ⟨xs, n, _, hx, _, hlen, hfs⟩ := DataW.trod_struct Try.underlying61 hf
  obtain ⟨y0, y1, y2, y3, rfl⟩ := four_list hlen
  have g0 := hfs 0 _ rfl
  have g1 := hfs 1 _ rfl
  have g2 := hfs 2 _ rfl
  have g3 := hfs 3 _ rfl
  simp [Value.cells, int_cells] at g0 g1 g2 g3
  obtain ⟨k, e0, rfl, wk⟩ := DataW.trod_int Try.underlying3 g0
  obtain ⟨v, e1, rfl, wv⟩ := DataW.trod_int Try.underlying3 g1
  obtain ⟨i, e2, rfl, wi⟩ := DataW.trod_int Try.underlying3 g2
  obtain ⟨l, e3, rfl, wl⟩ := DataW.trod_int Try.underlying3 g3
  simp at e0 e1 e2 e3
  subst e0 e1 e2 e3
  simp only [Prod.mk.injEq] at hx
  exact ⟨k, v, i, l, rfl, hx.1, hx.2, wk, wv, wi, wl⟩
theorem ask_shut {H : Type} {enc : TypeId × Value → H} {w : World} {base : Nat} {spare : Nat → Bool} {held : Bool} {k v i l : Int} (wk : (Lit.int .i64 k).wf = true) (wv : (Lit.int .i64 v).wf = true) (wi : (Lit.int .i64 i).wf = true) (wl : (Lit.int .i64 l).wf = true) :
    DataW.Trod enc Try.prog w base spare held 61 (ask k v i l) (askD k v i l) [] := by
  refine ⟨2, ?_⟩
  have := trod_struct_mk (enc := enc) (w := w) (base := base) (spare := spare) (held := held) (n := 1) (cs := [.int .i64 k, .int .i64 v, .int .i64 i, .int .i64 l]) (xs := [(.lit (.int .i64 k), []), (.lit (.int .i64 v), []), (.lit (.int .i64 i), []), (.lit (.int .i64 l), [])]) Try.underlying61 (by rw [ask_cells]; rfl)
    (by simp [DataW.trod, int_cells, Try.underlying3, wk, wv, wi, wl])
  simpa [Value.cells] using this
end Go.Proofs.Ytonheibhbilhhaa.setup
