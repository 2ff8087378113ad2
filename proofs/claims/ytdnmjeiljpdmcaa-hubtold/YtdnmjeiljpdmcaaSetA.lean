/- setup: what the small functions answer: only, has, isEnd, fits, appendWord, word. -/
import Derived.Test.YtdnmjeiljpdmcaaRows
import Derived.Test.YtdnmjeiljpdmcaaSetM
import Derived.Test.YtdnmjeiljpdmcaaOwnB
import Derived.Laws.OwnMore
import Derived.Deep.AppendLies
import Derived.OneCell
import Derived.Laws.BitsAllLaws
import Derived.Laws.BitsLemmas
import Derived.Deep.QuietTactic
import Derived.BigQuiet
import Derived.Laws.Strings2
import Derived.Deep.RegionWith
namespace Go.Proofs.Ytdnmjeiljpdmcaa.setup
open Go.RowKit Go.PlainAid Go.Proofs.Ytdnmjeiljpdmcaa.lane
set_option linter.unusedVariables false

theorem bsq {w w1 w2 : World} (h1 : Below w.heap.size w w1) (h2 : Below w1.heap.size w1 w2) : Below w.heap.size w w2 := h1.trans (h2.mono h1.size)
theorem balloc (w : World) (o : Obj) : Below w.heap.size w (w.alloc o) := (Below.refl _ _).alloc (Nat.le_refl _) _
theorem grown_below {w u : World} (hb : Below w.heap.size w u) : w.grownBy u none := ⟨hb.os, hb.tape, hb.output, hb.size, fun k hk _ => hb.block k hk⟩
theorem own_below {w u : World} {B : Nat} {e : TypeId} {s : Nat} {v : Value} {n : Nat} {xs : List Value} (h : w.ownsRow B e s v n xs) (hb : Below w.heap.size w u) : u.ownsRow B e s v n xs := by
  cases hv : v.ownBlock with
  | none => exact World.ownsRow.kept h (grown_below hb) (.inl hv)
  | some k => exact World.ownsRow.kept h (grown_below hb) (.inr (by rw [hv]; simp))
theorem own_block {w : World} {B : Nat} {e : TypeId} {s : Nat} {v : Value} {n : Nat} {xs : List Value} (h : w.ownsRow B e s v n xs) : ∀ k, v.ownBlock = some k → B ≤ k := fun k hk => (World.ownsRow.lt h k hk).1
theorem own_mono {w : World} {B B' : Nat} {e : TypeId} {s : Nat} {v : Value} {n : Nat} {xs : List Value} (h : w.ownsRow B e s v n xs) (hB : B' ≤ B) : w.ownsRow B' e s v n xs := by
  refine ⟨h.1, ?_⟩
  rcases h.2 with q | ⟨g, cap, cur, hv, hb, q⟩
  · exact .inl q
  · exact .inr ⟨g, cap, cur, hv, Nat.le_trans hB hb, q⟩
theorem extract_rest (t : ByteArray) (n : Nat) : nums (t.extract n t.size) = (nums t).drop n := by
  rw [nums_extract, List.take_of_length_le (by rw [nums_length]; omega)]
theorem ret_bool {a b : Bool} (h : a = b) : Ending.returned (.bool a) = .returned (.bool b) := by rw [h]

/-- a span's value -/
abbrev sp (l m : Int) : Value := .agg #[.int .i64 l, .int .i64 m]
abbrev spc (l m : Int) : Obj := .cells #[.int .i64 l, .int .i64 m] 67
/-- an ask's value -/
abbrev ask (k v i l : Int) : Value := .agg #[.int .i64 k, .int .i64 v, .int .i64 i, .int .i64 l]
abbrev askc (k v i l : Int) : Obj := .cells #[.int .i64 k, .int .i64 v, .int .i64 i, .int .i64 l] 52
/-- a shape's value -/
abbrev shv (a b v0 v1 i0 i1 l0 l1 : Int) (t : Bool) : Value := .agg #[.int .u8 a, .int .u8 b, .int .i64 v0, .int .i64 v1, .int .i64 i0, .int .i64 i1, .int .i64 l0, .int .i64 l1, .bool t]

theorem only_any (n : Int) (w : World) : Calls Try.prog 50 #[.int .i64 n] w fun e w' => e = .returned (sp n n) ∧ w' = w.alloc (spc n n) := by
  go_enter Try.func50, Try.ntmps50
  go_wp2
  refine bodyPost_ret (v := sp n n) (by simp [results, Try.results50, go_sem]) rfl ⟨rfl, rfl⟩
theorem has_any (l m n : Int) (w : World) : Calls Try.prog 51 #[sp l m, .int .i64 n] w fun e w' => e = .returned (.bool (inS l m n)) ∧ w' = w.alloc (spc l m) := by
  go_enter Try.func51, Try.ntmps51
  go_wp2
  · rename_i h
    go_ret
    unfold inS
    rw [show decide (l ≤ n) = true by simpa using h, Bool.true_and]
    exact ⟨rfl, rfl⟩
  · rename_i h
    go_ret
    unfold inS
    rw [show decide (l ≤ n) = false by simp; omega, Bool.false_and]
    exact ⟨rfl, rfl⟩
theorem nat_not128 (a : Nat) (h : a < 18446744073709551616) : a &&& 18446744073709551487 = a % 128 + 256 * (a / 256) := by
  have e1 : (a &&& 18446744073709551487) % 2 ^ 7 = a % 2 ^ 7 := by
    rw [Nat.and_mod_two_pow, show 18446744073709551487 % 2 ^ 7 = 2 ^ 7 - 1 by decide, Nat.and_two_pow_sub_one_eq_mod]; omega
  have e2 : (a &&& 18446744073709551487) / 2 ^ 8 = a / 2 ^ 8 := by
    rw [Nat.and_div_two_pow, show 18446744073709551487 / 2 ^ 8 = 2 ^ 56 - 1 by decide, Nat.and_two_pow_sub_one_eq_mod]; omega
  have e3 : (a &&& 18446744073709551487) / 2 ^ 7 % 2 ^ 1 = 0 := by
    rw [Nat.and_div_two_pow, Nat.and_mod_two_pow, show 18446744073709551487 / 2 ^ 7 % 2 ^ 1 = 0 by decide, Nat.and_zero]
  generalize a &&& 18446744073709551487 = r at *
  omega
theorem not128 (n : Int) (h : -9223372036854775808 ≤ n ∧ n ≤ 9223372036854775807) : inS 0 15 (bits .andNot .i64 n 128) = isE n := by
  show inS 0 15 (IntKind.i64.wrap ((BitVec.ofInt 64 n &&& ~~~BitVec.ofInt 64 128).toNat : Int)) = _
  rw [BitVec.toNat_and, show (~~~BitVec.ofInt 64 128).toNat = 18446744073709551487 by decide, BitVec.toNat_ofInt, nat_not128 _ (by omega), IntKind.wrap_i64]
  rw [Bool.eq_iff_iff]
  unfold isE
  rw [Bool.or_eq_true, inS_iff, inS_iff, inS_iff]
  omega
theorem isEnd_any (n : Int) (h : -9223372036854775808 ≤ n ∧ n ≤ 9223372036854775807) (w : World) : Calls Try.prog 52 #[.int .i64 n] w fun e w' => e = .returned (.bool (isE n)) ∧ w' = w.alloc (spc 0 15) := by
  have e := not128 n h
  have H : Hid (∀ w : World, Calls Try.prog 51 #[sp 0 15, .int .i64 (bits .andNot .i64 n 128)] w fun e w' => e = .returned (.bool (isE n)) ∧ w' = w.alloc (spc 0 15)) := by
    intro w
    refine (has_any 0 15 _ w).mono ?_
    rintro r u ⟨rfl, rfl⟩
    exact ⟨ret_bool e, rfl⟩
  clear e
  go_enter Try.func52, Try.ntmps52
  go_wp2_with fail
  refine (H.out _).mono ?_
  rintro r u ⟨rfl, rfl⟩
  go_wp2
  go_ret
  exact ⟨rfl, rfl⟩
def fits (v0 v1 i0 i1 l0 l1 : Int) (t : Bool) (v i l : Int) : Bool := (if t then isE i else inS i0 i1 i) && inS v0 v1 v && inS l0 l1 l
set_option maxHeartbeats 1000000 in
theorem fits_any (a b v0 v1 i0 i1 l0 l1 : Int) (t : Bool) (k v i l : Int) (h : -9223372036854775808 ≤ i ∧ i ≤ 9223372036854775807) (w : World) :
    Calls Try.prog 43 #[shv a b v0 v1 i0 i1 l0 l1 t, ask k v i l] w fun e w' => e = .returned (.bool (fits v0 v1 i0 i1 l0 l1 t v i l)) ∧ Below w.heap.size w w' := by
  have H1 : Hid (∀ w : World, Calls Try.prog 51 #[sp i0 i1, .int .i64 i] w fun e w' => e = .returned (.bool (inS i0 i1 i)) ∧ w' = w.alloc (spc i0 i1)) := has_any i0 i1 i
  have H2 : Hid (∀ w : World, Calls Try.prog 51 #[sp v0 v1, .int .i64 v] w fun e w' => e = .returned (.bool (inS v0 v1 v)) ∧ w' = w.alloc (spc v0 v1)) := has_any v0 v1 v
  have H3 : Hid (∀ w : World, Calls Try.prog 51 #[sp l0 l1, .int .i64 l] w fun e w' => e = .returned (.bool (inS l0 l1 l)) ∧ w' = w.alloc (spc l0 l1)) := has_any l0 l1 l
  have H4 : Hid (∀ w : World, Calls Try.prog 52 #[.int .i64 i] w fun e w' => e = .returned (.bool (isE i)) ∧ w' = w.alloc (spc 0 15)) := isEnd_any i h
  have HF : Hid (∀ x, x = ((if t then isE i else inS i0 i1 i) && inS v0 v1 v && inS l0 l1 l) → x = fits v0 v1 i0 i1 l0 l1 t v i l) := fun x hx => hx
  generalize fits v0 v1 i0 i1 l0 l1 t v i l = r at *
  generalize inS i0 i1 i = bi at *
  generalize inS v0 v1 v = bv at *
  generalize inS l0 l1 l = bl at *
  generalize isE i = be at *
  clear h
  have fin : Hid (∀ u : World, Below ((w.alloc (.cells #[.int .u8 a, .int .u8 b, .int .i64 v0, .int .i64 v1, .int .i64 i0, .int .i64 i1, .int .i64 l0, .int .i64 l1, .bool t] 69)).alloc (askc k v i l)).heap.size ((w.alloc (.cells #[.int .u8 a, .int .u8 b, .int .i64 v0, .int .i64 v1, .int .i64 i0, .int .i64 i1, .int .i64 l0, .int .i64 l1, .bool t] 69)).alloc (askc k v i l)) u → Below w.heap.size w u) :=
    fun u hu => bsq (bsq (balloc w _) (balloc _ _)) hu
  cases t
  · cases bi
    all_goals go_enter Try.func43, Try.ntmps43
    all_goals go_wp2_with fail
    all_goals refine (H1.out _).mono ?_
    all_goals rintro e u ⟨rfl, rfl⟩
    · go_wp2
      go_ret
      exact ⟨ret_bool (HF.out _ (by simp)), fin.out _ (balloc _ _)⟩
    · go_wp2_with fail
      refine (H2.out _).mono ?_
      rintro e u ⟨rfl, rfl⟩
      cases bv
      · go_wp2
        go_ret
        exact ⟨ret_bool (HF.out _ (by simp)), fin.out _ (bsq (balloc _ _) (balloc _ _))⟩
      · go_wp2_with fail
        refine (H3.out _).mono ?_
        rintro e u ⟨rfl, rfl⟩
        go_wp2
        go_ret
        exact ⟨ret_bool (HF.out _ (by simp)), fin.out _ (bsq (bsq (balloc _ _) (balloc _ _)) (balloc _ _))⟩
  · cases be
    all_goals go_enter Try.func43, Try.ntmps43
    all_goals go_wp2_with fail
    all_goals refine (H1.out _).mono ?_
    all_goals rintro e u ⟨rfl, rfl⟩
    all_goals go_wp2_with fail
    all_goals refine (H4.out _).mono ?_
    all_goals rintro e u2 ⟨rfl, rfl⟩
    · go_wp2
      go_ret
      exact ⟨ret_bool (HF.out _ (by simp)), fin.out _ (bsq (balloc _ _) (balloc _ _))⟩
    · go_wp2_with fail
      refine (H2.out _).mono ?_
      rintro e u ⟨rfl, rfl⟩
      cases bv
      · go_wp2
        go_ret
        exact ⟨ret_bool (HF.out _ (by simp)), fin.out _ (bsq (bsq (balloc _ _) (balloc _ _)) (balloc _ _))⟩
      · go_wp2_with fail
        refine (H3.out _).mono ?_
        rintro e u ⟨rfl, rfl⟩
        go_wp2
        go_ret
        exact ⟨ret_bool (HF.out _ (by simp)), fin.out _ (bsq (bsq (bsq (balloc _ _) (balloc _ _)) (balloc _ _)) (balloc _ _))⟩
theorem bys_new (w : World) (ys : List Int) (t : TypeId) : ∀ j y, ys[j]? = some y → (w.alloc (.cells (ys.map (Value.int .u8)).toArray t)).cell? ⟨w.heap.size, j, none⟩ = some (.int .u8 y) := by
  intro j y hj
  rw [World.cell?_alloc_new]
  simp [hj]
theorem Bys.below {w u : World} {B : Nat} {v : Value} {acc : List Int} (h : Bys w B v acc) (hb : Below w.heap.size w u) : Bys u B v acc := own_below h hb
theorem Bys.mono {w : World} {B B' : Nat} {v : Value} {acc : List Int} (h : Bys w B v acc) (hB : B' ≤ B) : Bys w B' v acc := own_mono h hB
/-- bytes behind bytes -/
theorem wpList_bys {ops : Array Oper} {rest : List Oper} {o : Oper} {a : Act} {Q : Exit → Act → World → Prop} (w : World) (hgd : o.guard = none) (s x : Operand)
    (ho : o.op = .call { callee := .builtin .append, args := #[s, x], argTypes := #[57, 57] }) (B : Nat) (v : Value) (acc : List Int) (hs : a.eval s = v) (h : Bys w B v acc)
    (g m c : Nat) (ys : List Int) (hx : a.eval x = .slice (some ⟨g, 0, none⟩) m c) (hm : ys.length = m) (hc : ∀ j y, ys[j]? = some y → w.cell? ⟨g, j, none⟩ = some (.int .u8 y)) (hl : acc.length ≤ 1000000) (hl2 : m ≤ 1000000) (hB : B ≤ w.heap.size)
    (hK : ∀ v' w', Bys w' B v' (acc ++ ys) → w.grownBy w' v.ownBlock → Below B w w' → wpList Try.prog ops Q rest (a.put o.dst v') w') : wpList Try.prog ops Q (o :: rest) a w := by
  obtain ⟨i0, hi, hz0, hz1, hz2⟩ := info_parts infoB
  refine wpList_append_own w hgd s x 57 ho B 5 i0 _ 1 1 Try.underlying57 hi hz0 hz1 hz2 rfl (by omega) v acc.length (acc.map (Value.int .u8)) hs h ⟨g, 0, none⟩ m c (ys.map (Value.int .u8)) hx (by simp [hm]) ?_ (fun u hu => by obtain ⟨y, _, rfl⟩ := List.mem_map.1 hu; rfl) (by unfold maxLen; omega) (by omega) hB ?_
  · intro j u hj
    rw [List.getElem?_map] at hj
    cases hy : ys[j]? with
    | none => rw [hy] at hj; cases hj
    | some y =>
      rw [hy] at hj
      simp at hj
      subst hj
      rw [Addr.add_lit, Nat.zero_add]; exact hc j y hy
  · intro v' w' h1 h2 _
    refine hK v' w' ?_ h2 ((Below.refl _ _).grown h2 hB (own_block h))
    unfold Bys
    rw [List.length_append, List.map_append, hm]
    exact h1
set_option maxHeartbeats 1000000 in
theorem appendWord_any (B : Nat) (v : Value) (acc : List Int) (n : Int) (h0 : 0 ≤ n) (h1 : n ≤ 65535) (w : World) (h : Bys w B v acc) (hB : B ≤ w.heap.size) (hl : acc.length ≤ 1000000) :
    Calls Try.prog 44 #[v, .int .i64 n] w fun e w' => ∃ v', e = .returned v' ∧ Bys w' B v' (acc ++ wrd n) ∧ Below B w w' := by
  have H : Hid (Bys w B v acc) := h
  clear h
  go_enter Try.func44, Try.ntmps44
  go_wp2_with (at_builtin; (refine wpList_bys _ rfl _ _ rfl B _ acc rfl (World.ownsRow.alloc H.out _) w.heap.size 2 2 [n % 256, n / 256] rfl rfl (bys_new w [n % 256, n / 256] _) hl (by omega) (by simp; omega) ?_))
  intro v' w2 h2 hg2 hb2
  go_wp2
  go_ret
  exact ⟨_, rfl, h2, ((Below.refl _ _).alloc hB _).trans hb2⟩
theorem or_low (k : IntKind) (j i x y : Nat) (c d : Int) (hj : j ≤ k.bits) (hk : ∀ n : Int, 0 ≤ n → n < 2 ^ j → k.wrap n = n) (hx : x < 2 ^ i) (hxj : x < 2 ^ j) (hy : y % 2 ^ i = 0) (hyj : y < 2 ^ j)
    (hc : c = (x : Int)) (hd : d = (y : Int)) : bits .or k c d = ((x + y : Nat) : Int) := by
  subst hc hd
  rw [(bits_nat k j hj hk x y hxj hyj).2, Nat.or_comm, nat_join i y x hy hx, Nat.add_comm]
theorem wraps_i64 (n : Int) (h₀ : 0 ≤ n) (h₁ : n < 2 ^ 32) : IntKind.i64.wrap n = n := by rw [IntKind.wrap_i64]; omega
/-- the word at the front of a text -/
def wdOf (t : ByteArray) : Int := bt t 0 + 256 * bt t 1
set_option maxHeartbeats 400000 in
theorem word_any (s : ByteArray) (w : World) (hs : 2 ≤ s.size) :
    Calls Try.prog 45 #[.string s] w fun e w' => e = .returned (.int .i64 (wdOf s)) ∧ ∃ q, w' = w.drewN q := by
  have hb := get_bt s
  have b0 := bt_nonneg s 0
  have b1 := bt_le s 0
  have c0 := bt_nonneg s 1
  have c1 := bt_le s 1
  have e3 := or_low .i64 32 8 (bt s 0).toNat (256 * (bt s 1).toNat) (bt s 0) (bt s 1 * 256) (by decide) wraps_i64 (by omega) (by omega) (by omega) (by omega) (by omega) (by omega)
  have e0 : (((bt s 0).toNat + 256 * (bt s 1).toNat : Nat) : Int) = wdOf s := by unfold wdOf; omega
  rw [e0] at e3
  clear e0
  generalize wdOf s = N at *
  go_enter Try.func45, Try.ntmps45
  go_wp2_with fail
  go_quiet (fail)
  go_wp2
  go_ret
  exact ⟨rfl, _, rfl⟩
theorem bt_extract (s : ByteArray) (k j : Nat) (h : k + j < s.size) : bt (s.extract k s.size) j = bt s (k + j) := by
  have hz : (s.extract k s.size).size = s.size - k := by rw [ByteArray.size_extract]; omega
  rw [bt_nums _ j (by omega), bt_nums _ (k + j) h, extract_rest]
  simp [List.getD, List.getElem?_drop]
end Go.Proofs.Ytdnmjeiljpdmcaa.setup
