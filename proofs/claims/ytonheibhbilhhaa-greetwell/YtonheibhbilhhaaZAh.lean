/- setup: the plain mathematics: kinds, what their numbers may be, the eight bytes. No program is named here. -/
import Derived.Test.YtonheibhbilhhaaZAa
import Derived.Test.YtonheibhbilhhaaRows
import Derived.Laws.OwnMore
import Derived.Deep.AppendLies
import Derived.OneCell
import Derived.Laws.BitsAllLaws
import Derived.Laws.BitsLemmas
import Derived.Deep.QuietTactic
import Derived.BigQuiet
import Derived.Laws.Strings2
import Derived.Deep.RegionWith
namespace Go.Proofs.Ytonheibhbilhhaa.setup
open Go.PlainAid Go.Proofs.Ytonheibhbilhhaa.lane

def inS (l m n : Int) : Bool := decide (l ≤ n) && decide (n ≤ m)
def isK (k : Int) : Bool := inS 1 14 k
/-- the numbers of a kind: two bytes, and from where to where Value, Index and Length may be -/
def row (k : Int) : List Int :=
  [[128, 0, 0, 0, 0, 0, 2, 2], [2, 1, 0, 0, 0, 0, 0, 0], [2, 3, 0, 0, 0, 0, 0, 0], [0, 5, 0, 127, 0, 0, 0, 0], [128, 6, 0, 65535, 0, 65535, 0, 65535], [0, 9, 0, 255, 0, 0, 0, 0], [128, 8, 0, 0, 0, 0, 1, 1],
   [163, 0, 0, 0, 1, 15, 4, 4], [35, 3, 0, 31, 1, 15, 0, 0], [35, 1, 0, 31, 1, 15, 0, 0], [33, 255, 0, 0, 0, 255, 0, 0], [161, 254, 0, 0, 0, 255, 1, 1], [33, 10, 0, 65535, 0, 255, 0, 0], [33, 9, 512, 512, 0, 255, 1, 1]].getD (k - 1).toNat []
def col (k : Int) (j : Nat) : Int := (row k).getD j 0
def te (k : Int) : Bool := k == 2 || k == 3
def isE (i : Int) : Bool := inS 0 15 i || inS 128 143 i
def fitB (k v i l : Int) : Bool := (if te k then isE i else inS (col k 4) (col k 5) i) && inS (col k 2) (col k 3) v && inS (col k 6) (col k 7) l
def good (k v i l : Int) : Bool := isK k && fitB k v i l
def wrd (n : Int) : List Int := [n % 256, n / 256]
def txt (k v i l : Int) : List Int := [col k 0, col k 1] ++ wrd v ++ wrd i ++ wrd l
theorem inS_iff {l m n : Int} : inS l m n = true ↔ l ≤ n ∧ n ≤ m := by simp [inS]
theorem isK_cases {k : Int} (h : isK k = true) : k = 1 ∨ k = 2 ∨ k = 3 ∨ k = 4 ∨ k = 5 ∨ k = 6 ∨ k = 7 ∨ k = 8 ∨ k = 9 ∨ k = 10 ∨ k = 11 ∨ k = 12 ∨ k = 13 ∨ k = 14 := by
  have := inS_iff.1 h; omega
theorem col_head : ∀ k : Fin 15, ∀ j : Fin 2, 0 ≤ col (k.val : Int) j.val ∧ col (k.val : Int) j.val ≤ 255 := by decide
theorem heads_apart : ∀ k j : Fin 15, 1 ≤ k.val → 1 ≤ j.val → col (k.val : Int) 0 = col (j.val : Int) 0 → col (k.val : Int) 1 = col (j.val : Int) 1 → k = j := by decide
theorem good_words {k v i l : Int} (h : good k v i l = true) : (1 ≤ k ∧ k ≤ 14) ∧ (0 ≤ v ∧ v ≤ 65535) ∧ (0 ≤ i ∧ i ≤ 65535) ∧ (0 ≤ l ∧ l ≤ 65535) := by
  unfold good at h
  rw [Bool.and_eq_true] at h
  obtain ⟨hk, hf⟩ := h
  refine ⟨inS_iff.1 hk, ?_⟩
  unfold fitB at hf
  rw [Bool.and_eq_true, Bool.and_eq_true, inS_iff, inS_iff] at hf
  obtain ⟨⟨h1, h2⟩, h3⟩ := hf
  rcases isK_cases hk with rfl | rfl | rfl | rfl | rfl | rfl | rfl | rfl | rfl | rfl | rfl | rfl | rfl | rfl
  all_goals
    simp [te, isE, inS, col, row] at h1 h2 h3
    omega
theorem txt_byt {k v i l : Int} (h : good k v i l = true) : Byt (txt k v i l) := by
  obtain ⟨⟨h1, h2⟩, _, _, _⟩ := good_words h
  have c0 := col_head ⟨k.toNat, by omega⟩ ⟨0, by omega⟩
  have c1 := col_head ⟨k.toNat, by omega⟩ ⟨1, by omega⟩
  simp only [Int.toNat_of_nonneg (show 0 ≤ k by omega)] at c0 c1
  intro x hx
  simp [txt, wrd] at hx
  omega
theorem txt_len (k v i l : Int) : (txt k v i l).length = 8 := rfl
theorem txt_inj {k v i l k' v' i' l' : Int} (h : good k v i l = true) (h' : good k' v' i' l' = true) (e : txt k v i l = txt k' v' i' l') : k = k' ∧ v = v' ∧ i = i' ∧ l = l' := by
  obtain ⟨⟨a1, a2⟩, a3, a4, a5⟩ := good_words h
  obtain ⟨⟨b1, b2⟩, b3, b4, b5⟩ := good_words h'
  simp [txt, wrd] at e
  obtain ⟨e1, e2, e3, e4, e5, e6, e7, e8⟩ := e
  have hd := heads_apart ⟨k.toNat, by omega⟩ ⟨k'.toNat, by omega⟩ (by simp; omega) (by simp; omega)
  simp only [Int.toNat_of_nonneg (show 0 ≤ k by omega), Int.toNat_of_nonneg (show 0 ≤ k' by omega)] at hd
  have := hd e1 e2
  rw [Fin.mk.injEq] at this
  omega
/-- the word that lies in a text at k -/
def wat (s : List Int) (k : Nat) : Int := s.getD k 0 + 256 * s.getD (k + 1) 0
/-- is s the text of an ask of kind k? -/
def hit (s : List Int) (k : Int) : Bool := good k (wat s 2) (wat s 4) (wat s 6) && decide (txt k (wat s 2) (wat s 4) (wat s 6) = s)
/-- the least kind, from k on (n are left), of which s is the text -/
def find (s : List Int) : Nat → Int → Int
  | 0, _ => 0
  | n + 1, k => if hit s k then k else find s n (k + 1)
theorem find_zero {s : List Int} : ∀ (n : Nat) (k : Int), 1 ≤ k → find s n k = 0 → ∀ j, k ≤ j → j < k + n → hit s j = false := by
  intro n
  induction n with
  | zero => intro k _ _ j _ _; omega
  | succ n ih =>
    intro k hk h j h1 h2
    unfold find at h
    by_cases c : hit s k = true
    · rw [if_pos c] at h; omega
    · rw [if_neg c] at h
      by_cases e : j = k
      · subst e; simpa using c
      · exact ih (k + 1) (by omega) h j (by omega) (by omega)
theorem find_hit {s : List Int} : ∀ (n : Nat) (k : Int), 1 ≤ k → find s n k ≠ 0 → hit s (find s n k) = true ∧ k ≤ find s n k ∧ find s n k < k + n := by
  intro n
  induction n with
  | zero => intro k _ h; simp [find] at h
  | succ n ih =>
    intro k hk h
    unfold find at h ⊢
    by_cases c : hit s k = true
    · rw [if_pos c]; exact ⟨c, by omega, by omega⟩
    · rw [if_neg c] at h ⊢
      have := ih (k + 1) (by omega) h
      exact ⟨this.1, by omega, by omega⟩
theorem wat_txt {k v i l : Int} (h : good k v i l = true) : wat (txt k v i l) 2 = v ∧ wat (txt k v i l) 4 = i ∧ wat (txt k v i l) 6 = l := by
  obtain ⟨_, a3, a4, a5⟩ := good_words h
  simp [wat, txt, wrd]
  omega
theorem hit_txt {k v i l : Int} (h : good k v i l = true) : hit (txt k v i l) k = true := by
  obtain ⟨e1, e2, e3⟩ := wat_txt h
  unfold hit
  rw [e1, e2, e3, h]
  simp
theorem hit_one {s : List Int} {k k' : Int} (h : hit s k = true) (h' : hit s k' = true) : k = k' := by
  unfold hit at h h'
  rw [Bool.and_eq_true, decide_eq_true_iff] at h h'
  exact (txt_inj h.1 h'.1 (h.2.trans h'.2.symm)).1
theorem find_txt {k v i l : Int} (h : good k v i l = true) : find (txt k v i l) 14 1 = k := by
  have hh := hit_txt h
  obtain ⟨⟨a1, a2⟩, _⟩ := good_words h
  by_cases c : find (txt k v i l) 14 1 = 0
  · have := find_zero 14 1 (by omega) c k a1 (by omega)
    rw [hh] at this; cases this
  · exact hit_one (find_hit 14 1 (by omega) c).1 hh
end Go.Proofs.Ytonheibhbilhhaa.setup

/- setup: what the small functions answer: only, has, isEnd, fits, appendWord, word. -/
namespace Go.Proofs.Ytonheibhbilhhaa.setup
open Go.RowKit Go.PlainAid Go.Proofs.Ytonheibhbilhhaa.lane
set_option linter.unusedVariables false

theorem bsq {w w1 w2 : World} (h1 : Below w.heap.size w w1) (h2 : Below w1.heap.size w1 w2) : Below w.heap.size w w2 := h1.trans (h2.mono h1.size)
theorem balloc (w : World) (o : Obj) : Below w.heap.size w (w.alloc o) := (Below.refl _ _).alloc (Nat.le_refl _) _
theorem grown_below {w u : World} (hb : Below w.heap.size w u) : w.grownBy u none := ⟨hb.os, hb.tape, hb.output, hb.size, fun k hk _ => hb.block k hk⟩
theorem own_below {w u : World} {B : Nat} {e : TypeId} {s : Nat} {v : Value} {n : Nat} {xs : List Value} (h : w.ownsRow B e s v n xs) (hb : Below w.heap.size w u) : u.ownsRow B e s v n xs := by
  cases hv : v.ownBlock with
  | none => exact World.ownsRow.kept h (grown_below hb) (.inl hv)
  | some k => exact World.ownsRow.kept h (grown_below hb) (.inr (by rw [hv]; simp))
theorem own_block {w : World} {B : Nat} {e : TypeId} {s : Nat} {v : Value} {n : Nat} {xs : List Value} (h : w.ownsRow B e s v n xs) : ∀ k, v.ownBlock = some k → B ≤ k := fun k hk => (World.ownsRow.lt h k hk).1
theorem own_mono {w : World} {B B' : Nat} {e : TypeId} {s : Nat} {v : Value} {n : Nat} {xs : List Value} (h : w.ownsRow B e s v n xs) (hB : B' ≤ B) : w.ownsRow B' e s v n xs := by
  refine ⟨h.1, ?_⟩
  rcases h.2 with q | ⟨g, cap, cur, hv, hb, q⟩
  · exact .inl q
  · exact .inr ⟨g, cap, cur, hv, Nat.le_trans hB hb, q⟩
theorem extract_rest (t : ByteArray) (n : Nat) : nums (t.extract n t.size) = (nums t).drop n := by
  rw [nums_extract, List.take_of_length_le (by rw [nums_length]; omega)]
theorem ret_bool {a b : Bool} (h : a = b) : Ending.returned (.bool a) = .returned (.bool b) := by rw [h]

/-- a span's value -/
abbrev sp (l m : Int) : Value := .agg #[.int .i64 l, .int .i64 m]
abbrev spc (l m : Int) : Obj := .cells #[.int .i64 l, .int .i64 m] 88
/-- an ask's value -/
abbrev ask (k v i l : Int) : Value := .agg #[.int .i64 k, .int .i64 v, .int .i64 i, .int .i64 l]
abbrev askc (k v i l : Int) : Obj := .cells #[.int .i64 k, .int .i64 v, .int .i64 i, .int .i64 l] 61
/-- a shape's value -/
abbrev shv (a b v0 v1 i0 i1 l0 l1 : Int) (t : Bool) : Value := .agg #[.int .u8 a, .int .u8 b, .int .i64 v0, .int .i64 v1, .int .i64 i0, .int .i64 i1, .int .i64 l0, .int .i64 l1, .bool t]

theorem only_any (n : Int) (w : World) : Calls Try.prog 69 #[.int .i64 n] w fun e w' => e = .returned (sp n n) ∧ w' = w.alloc (spc n n) := by
  go_enter Try.func69, Try.ntmps69
  go_wp2
  refine bodyPost_ret (v := sp n n) (by simp [results, Try.results69, go_sem]) rfl ⟨rfl, rfl⟩
theorem has_any (l m n : Int) (w : World) : Calls Try.prog 70 #[sp l m, .int .i64 n] w fun e w' => e = .returned (.bool (inS l m n)) ∧ w' = w.alloc (spc l m) := by
  go_enter Try.func70, Try.ntmps70
  go_wp2
  · rename_i h
    go_ret
    unfold inS
    rw [show decide (l ≤ n) = true by simpa using h, Bool.true_and]
    exact ⟨rfl, rfl⟩
  · rename_i h
    go_ret
    unfold inS
    rw [show decide (l ≤ n) = false by simp; omega, Bool.false_and]
    exact ⟨rfl, rfl⟩
theorem nat_not128 (a : Nat) (h : a < 18446744073709551616) : a &&& 18446744073709551487 = a % 128 + 256 * (a / 256) := by
  have e1 : (a &&& 18446744073709551487) % 2 ^ 7 = a % 2 ^ 7 := by
    rw [Nat.and_mod_two_pow, show 18446744073709551487 % 2 ^ 7 = 2 ^ 7 - 1 by decide, Nat.and_two_pow_sub_one_eq_mod]; omega
  have e2 : (a &&& 18446744073709551487) / 2 ^ 8 = a / 2 ^ 8 := by
    rw [Nat.and_div_two_pow, show 18446744073709551487 / 2 ^ 8 = 2 ^ 56 - 1 by decide, Nat.and_two_pow_sub_one_eq_mod]; omega
  have e3 : (a &&& 18446744073709551487) / 2 ^ 7 % 2 ^ 1 = 0 := by
    rw [Nat.and_div_two_pow, Nat.and_mod_two_pow, show 18446744073709551487 / 2 ^ 7 % 2 ^ 1 = 0 by decide, Nat.and_zero]
  generalize a &&& 18446744073709551487 = r at *
  omega
theorem not128 (n : Int) (h : -9223372036854775808 ≤ n ∧ n ≤ 9223372036854775807) : inS 0 15 (bits .andNot .i64 n 128) = isE n := by
  show inS 0 15 (IntKind.i64.wrap ((BitVec.ofInt 64 n &&& ~~~BitVec.ofInt 64 128).toNat : Int)) = _
  rw [BitVec.toNat_and, show (~~~BitVec.ofInt 64 128).toNat = 18446744073709551487 by decide, BitVec.toNat_ofInt, nat_not128 _ (by omega), IntKind.wrap_i64]
  rw [Bool.eq_iff_iff]
  unfold isE
  rw [Bool.or_eq_true, inS_iff, inS_iff, inS_iff]
  omega
theorem isEnd_any (n : Int) (h : -9223372036854775808 ≤ n ∧ n ≤ 9223372036854775807) (w : World) : Calls Try.prog 71 #[.int .i64 n] w fun e w' => e = .returned (.bool (isE n)) ∧ w' = w.alloc (spc 0 15) := by
  have e := not128 n h
  have H : Hid (∀ w : World, Calls Try.prog 70 #[sp 0 15, .int .i64 (bits .andNot .i64 n 128)] w fun e w' => e = .returned (.bool (isE n)) ∧ w' = w.alloc (spc 0 15)) := by
    intro w
    refine (has_any 0 15 _ w).mono ?_
    rintro r u ⟨rfl, rfl⟩
    exact ⟨ret_bool e, rfl⟩
  clear e
  go_enter Try.func71, Try.ntmps71
  go_wp2_with fail
  refine (H.out _).mono ?_
  rintro r u ⟨rfl, rfl⟩
  go_wp2
  go_ret
  exact ⟨rfl, rfl⟩
def fits (v0 v1 i0 i1 l0 l1 : Int) (t : Bool) (v i l : Int) : Bool := (if t then isE i else inS i0 i1 i) && inS v0 v1 v && inS l0 l1 l
set_option maxHeartbeats 1000000 in
theorem fits_any (a b v0 v1 i0 i1 l0 l1 : Int) (t : Bool) (k v i l : Int) (h : -9223372036854775808 ≤ i ∧ i ≤ 9223372036854775807) (w : World) :
    Calls Try.prog 45 #[shv a b v0 v1 i0 i1 l0 l1 t, ask k v i l] w fun e w' => e = .returned (.bool (fits v0 v1 i0 i1 l0 l1 t v i l)) ∧ Below w.heap.size w w' := by
  have H1 : Hid (∀ w : World, Calls Try.prog 70 #[sp i0 i1, .int .i64 i] w fun e w' => e = .returned (.bool (inS i0 i1 i)) ∧ w' = w.alloc (spc i0 i1)) := has_any i0 i1 i
  have H2 : Hid (∀ w : World, Calls Try.prog 70 #[sp v0 v1, .int .i64 v] w fun e w' => e = .returned (.bool (inS v0 v1 v)) ∧ w' = w.alloc (spc v0 v1)) := has_any v0 v1 v
  have H3 : Hid (∀ w : World, Calls Try.prog 70 #[sp l0 l1, .int .i64 l] w fun e w' => e = .returned (.bool (inS l0 l1 l)) ∧ w' = w.alloc (spc l0 l1)) := has_any l0 l1 l
  have H4 : Hid (∀ w : World, Calls Try.prog 71 #[.int .i64 i] w fun e w' => e = .returned (.bool (isE i)) ∧ w' = w.alloc (spc 0 15)) := isEnd_any i h
  have HF : Hid (∀ x, x = ((if t then isE i else inS i0 i1 i) && inS v0 v1 v && inS l0 l1 l) → x = fits v0 v1 i0 i1 l0 l1 t v i l) := fun x hx => hx
  generalize fits v0 v1 i0 i1 l0 l1 t v i l = r at *
  generalize inS i0 i1 i = bi at *
  generalize inS v0 v1 v = bv at *
  generalize inS l0 l1 l = bl at *
  generalize isE i = be at *
  clear h
  have fin : Hid (∀ u : World, Below ((w.alloc (.cells #[.int .u8 a, .int .u8 b, .int .i64 v0, .int .i64 v1, .int .i64 i0, .int .i64 i1, .int .i64 l0, .int .i64 l1, .bool t] 90)).alloc (askc k v i l)).heap.size ((w.alloc (.cells #[.int .u8 a, .int .u8 b, .int .i64 v0, .int .i64 v1, .int .i64 i0, .int .i64 i1, .int .i64 l0, .int .i64 l1, .bool t] 90)).alloc (askc k v i l)) u → Below w.heap.size w u) :=
    fun u hu => bsq (bsq (balloc w _) (balloc _ _)) hu
  cases t
  · cases bi
    all_goals go_enter Try.func45, Try.ntmps45
    all_goals go_wp2_with fail
    all_goals refine (H1.out _).mono ?_
    all_goals rintro e u ⟨rfl, rfl⟩
    · go_wp2
      go_ret
      exact ⟨ret_bool (HF.out _ (by simp)), fin.out _ (balloc _ _)⟩
    · go_wp2_with fail
      refine (H2.out _).mono ?_
      rintro e u ⟨rfl, rfl⟩
      cases bv
      · go_wp2
        go_ret
        exact ⟨ret_bool (HF.out _ (by simp)), fin.out _ (bsq (balloc _ _) (balloc _ _))⟩
      · go_wp2_with fail
        refine (H3.out _).mono ?_
        rintro e u ⟨rfl, rfl⟩
        go_wp2
        go_ret
        exact ⟨ret_bool (HF.out _ (by simp)), fin.out _ (bsq (bsq (balloc _ _) (balloc _ _)) (balloc _ _))⟩
  · cases be
    all_goals go_enter Try.func45, Try.ntmps45
    all_goals go_wp2_with fail
    all_goals refine (H1.out _).mono ?_
    all_goals rintro e u ⟨rfl, rfl⟩
    all_goals go_wp2_with fail
    all_goals refine (H4.out _).mono ?_
    all_goals rintro e u2 ⟨rfl, rfl⟩
    · go_wp2
      go_ret
      exact ⟨ret_bool (HF.out _ (by simp)), fin.out _ (bsq (balloc _ _) (balloc _ _))⟩
    · go_wp2_with fail
      refine (H2.out _).mono ?_
      rintro e u ⟨rfl, rfl⟩
      cases bv
      · go_wp2
        go_ret
        exact ⟨ret_bool (HF.out _ (by simp)), fin.out _ (bsq (bsq (balloc _ _) (balloc _ _)) (balloc _ _))⟩
      · go_wp2_with fail
        refine (H3.out _).mono ?_
        rintro e u ⟨rfl, rfl⟩
        go_wp2
        go_ret
        exact ⟨ret_bool (HF.out _ (by simp)), fin.out _ (bsq (bsq (bsq (balloc _ _) (balloc _ _)) (balloc _ _)) (balloc _ _))⟩
theorem bys_new (w : World) (ys : List Int) (t : TypeId) : ∀ j y, ys[j]? = some y → (w.alloc (.cells (ys.map (Value.int .u8)).toArray t)).cell? ⟨w.heap.size, j, none⟩ = some (.int .u8 y) := by
  intro j y hj
  rw [World.cell?_alloc_new]
  simp [hj]
theorem Bys.below {w u : World} {B : Nat} {v : Value} {acc : List Int} (h : Bys w B v acc) (hb : Below w.heap.size w u) : Bys u B v acc := own_below h hb
theorem Bys.mono {w : World} {B B' : Nat} {v : Value} {acc : List Int} (h : Bys w B v acc) (hB : B' ≤ B) : Bys w B' v acc := own_mono h hB
/-- bytes behind bytes -/
theorem wpList_bys {ops : Array Oper} {rest : List Oper} {o : Oper} {a : Act} {Q : Exit → Act → World → Prop} (w : World) (hgd : o.guard = none) (s x : Operand)
    (ho : o.op = .call { callee := .builtin .append, args := #[s, x], argTypes := #[71, 71] }) (B : Nat) (v : Value) (acc : List Int) (hs : a.eval s = v) (h : Bys w B v acc)
    (g m c : Nat) (ys : List Int) (hx : a.eval x = .slice (some ⟨g, 0, none⟩) m c) (hm : ys.length = m) (hc : ∀ j y, ys[j]? = some y → w.cell? ⟨g, j, none⟩ = some (.int .u8 y)) (hl : acc.length ≤ 1000000) (hl2 : m ≤ 1000000) (hB : B ≤ w.heap.size)
    (hK : ∀ v' w', Bys w' B v' (acc ++ ys) → w.grownBy w' v.ownBlock → Below B w w' → wpList Try.prog ops Q rest (a.put o.dst v') w') : wpList Try.prog ops Q (o :: rest) a w := by
  obtain ⟨i0, hi, hz0, hz1, hz2⟩ := info_parts infoB
  refine wpList_append_own w hgd s x 71 ho B 5 i0 _ 1 1 Try.underlying71 hi hz0 hz1 hz2 rfl (by omega) v acc.length (acc.map (Value.int .u8)) hs h ⟨g, 0, none⟩ m c (ys.map (Value.int .u8)) hx (by simp [hm]) ?_ (fun u hu => by obtain ⟨y, _, rfl⟩ := List.mem_map.1 hu; rfl) (by unfold maxLen; omega) (by omega) hB ?_
  · intro j u hj
    rw [List.getElem?_map] at hj
    cases hy : ys[j]? with
    | none => rw [hy] at hj; cases hj
    | some y =>
      rw [hy] at hj
      simp at hj
      subst hj
      rw [Addr.add_lit, Nat.zero_add]; exact hc j y hy
  · intro v' w' h1 h2 _
    refine hK v' w' ?_ h2 ((Below.refl _ _).grown h2 hB (own_block h))
    unfold Bys
    rw [List.length_append, List.map_append, hm]
    exact h1
set_option maxHeartbeats 1000000 in
theorem appendWord_any (B : Nat) (v : Value) (acc : List Int) (n : Int) (h0 : 0 ≤ n) (h1 : n ≤ 65535) (w : World) (h : Bys w B v acc) (hB : B ≤ w.heap.size) (hl : acc.length ≤ 1000000) :
    Calls Try.prog 46 #[v, .int .i64 n] w fun e w' => ∃ v', e = .returned v' ∧ Bys w' B v' (acc ++ wrd n) ∧ Below B w w' := by
  have H : Hid (Bys w B v acc) := h
  clear h
  go_enter Try.func46, Try.ntmps46
  go_wp2_with (at_builtin; (refine wpList_bys _ rfl _ _ rfl B _ acc rfl (World.ownsRow.alloc H.out _) w.heap.size 2 2 [n % 256, n / 256] rfl rfl (bys_new w [n % 256, n / 256] _) hl (by omega) (by simp; omega) ?_))
  intro v' w2 h2 hg2 hb2
  go_wp2
  go_ret
  exact ⟨_, rfl, h2, ((Below.refl _ _).alloc hB _).trans hb2⟩
theorem or_low (k : IntKind) (j i x y : Nat) (c d : Int) (hj : j ≤ k.bits) (hk : ∀ n : Int, 0 ≤ n → n < 2 ^ j → k.wrap n = n) (hx : x < 2 ^ i) (hxj : x < 2 ^ j) (hy : y % 2 ^ i = 0) (hyj : y < 2 ^ j)
    (hc : c = (x : Int)) (hd : d = (y : Int)) : bits .or k c d = ((x + y : Nat) : Int) := by
  subst hc hd
  rw [(bits_nat k j hj hk x y hxj hyj).2, Nat.or_comm, nat_join i y x hy hx, Nat.add_comm]
theorem wraps_i64 (n : Int) (h₀ : 0 ≤ n) (h₁ : n < 2 ^ 32) : IntKind.i64.wrap n = n := by rw [IntKind.wrap_i64]; omega
/-- the word at the front of a text -/
def wdOf (t : ByteArray) : Int := bt t 0 + 256 * bt t 1
set_option maxHeartbeats 400000 in
theorem word_any (s : ByteArray) (w : World) (hs : 2 ≤ s.size) :
    Calls Try.prog 100 #[.string s] w fun e w' => e = .returned (.int .i64 (wdOf s)) ∧ ∃ q, w' = w.drewN q := by
  have hb := get_bt s
  have b0 := bt_nonneg s 0
  have b1 := bt_le s 0
  have c0 := bt_nonneg s 1
  have c1 := bt_le s 1
  have e3 := or_low .i64 32 8 (bt s 0).toNat (256 * (bt s 1).toNat) (bt s 0) (bt s 1 * 256) (by decide) wraps_i64 (by omega) (by omega) (by omega) (by omega) (by omega) (by omega)
  have e0 : (((bt s 0).toNat + 256 * (bt s 1).toNat : Nat) : Int) = wdOf s := by unfold wdOf; omega
  rw [e0] at e3
  clear e0
  generalize wdOf s = N at *
  go_enter Try.func100, Try.ntmps100
  go_wp2_with fail
  go_quiet (fail)
  go_wp2
  go_ret
  exact ⟨rfl, _, rfl⟩
theorem bt_extract (s : ByteArray) (k j : Nat) (h : k + j < s.size) : bt (s.extract k s.size) j = bt s (k + j) := by
  have hz : (s.extract k s.size).size = s.size - k := by rw [ByteArray.size_extract]; omega
  rw [bt_nums _ j (by omega), bt_nums _ (k + j) h, extract_rest]
  simp [List.getD, List.getElem?_drop]
end Go.Proofs.Ytonheibhbilhhaa.setup

/- setup: what shapeOf answers, where it calls nothing. -/
namespace Go.Proofs.Ytonheibhbilhhaa.setup
open Go.RowKit Go.PlainAid Go.Proofs.Ytonheibhbilhhaa.lane
set_option linter.unusedVariables false

def shk (k : Int) : Value := shv (col k 0) (col k 1) (col k 2) (col k 3) (col k 4) (col k 5) (col k 6) (col k 7) (te k)
theorem b5 (w : World) (o1 o2 o3 o4 o5 : Obj) : Below w.heap.size w (((((w.alloc o1).alloc o2).alloc o3).alloc o4).alloc o5) := bsq (bsq (bsq (bsq (balloc _ _) (balloc _ _)) (balloc _ _)) (balloc _ _)) (balloc _ _)
theorem shk_num : shk 1 = shv 128 0 0 0 0 0 2 2 false ∧ shk 2 = shv 2 1 0 0 0 0 0 0 true ∧ shk 3 = shv 2 3 0 0 0 0 0 0 true ∧ shk 4 = shv 0 5 0 127 0 0 0 0 false ∧ shk 5 = shv 128 6 0 65535 0 65535 0 65535 false ∧ shk 6 = shv 0 9 0 255 0 0 0 0 false ∧
    shk 7 = shv 128 8 0 0 0 0 1 1 false ∧ shk 8 = shv 163 0 0 0 1 15 4 4 false ∧ shk 9 = shv 35 3 0 31 1 15 0 0 false ∧ shk 10 = shv 35 1 0 31 1 15 0 0 false ∧ shk 11 = shv 33 255 0 0 0 255 0 0 false ∧ shk 12 = shv 161 254 0 0 0 255 1 1 false ∧
    shk 13 = shv 33 10 0 65535 0 255 0 0 false ∧ shk 14 = shv 33 9 512 512 0 255 1 1 false := ⟨rfl, rfl, rfl, rfl, rfl, rfl, rfl, rfl, rfl, rfl, rfl, rfl, rfl, rfl⟩
set_option maxHeartbeats 4000000 in
theorem shape_plain (k : Int) (h : k = 2 ∨ k = 3 ∨ k = 4 ∨ k = 5 ∨ k = 6 ∨ k = 9 ∨ k = 10 ∨ k = 11 ∨ k = 13) (w : World) :
    Calls Try.prog 44 #[.int .i64 k] w fun e w' => e = .returned (.tuple #[shk k, .bool true]) ∧ Below w.heap.size w w' := by
  rcases h with rfl | rfl | rfl | rfl | rfl | rfl | rfl | rfl | rfl
  all_goals go_enter Try.func44, Try.ntmps44
  all_goals go_wp2
  all_goals exact bodyPost_ret (by simp [results, Try.results44, go_sem]; rfl) rfl ⟨rfl, b5 _ _ _ _ _ _⟩
end Go.Proofs.Ytonheibhbilhhaa.setup
