/- a region that draws its order, in worlds of one class: whatever came up, nothing that lay there has changed. -/
import Derived.Test.YtonheibhbilhhaaGreatZAg
import Derived.Test.YtonheibhbilhhaaGreatZAj
import Derived.Test.YtonheibhbilhhaaGreatZAk
namespace Go.Proofs.YtonheibhbilhhaaGreat.setup
open Go Go.RowKit Go.Proofs.YtonheibhbilhhaaGreat.desc
set_option linter.unusedVariables false
section
variable {P : Program} {md : Region.Mode} {ops : Array Oper} {C : Array Bool → World → Prop}
def Cb (W0 : World) : Array Bool → World → Prop := fun _ w => Below W0.heap.size W0 w
theorem lexg {Q : Array Bool → Act → Prop} {k : Nat} {o : Oper} {rest : List Oper} {L : Array Bool} {a : Act} (v : Value) (hg : o.guard = none)
  (hrun : ∀ L W, k ∈ Region.ready md ops L → C L W → rUpon P (C (L.setIfInBounds k true)) W v ((execOp a.eval o).run P W))
  (h : wpLex P md ops C Q (k + 1) rest (L.setIfInBounds k true) (a.put o.dst v)) : wpLex P md ops C Q k (o :: rest) L a :=
 ⟨v, ⟨by simp [Region.wanted, hg], fun L W hr hC => hrun L W hr hC⟩, h⟩
theorem lexb_plain {W0 : World} {Q : Array Bool → Act → Prop} {k : Nat} {o : Oper} {rest : List Oper} {L : Array Bool} {a : Act} (v : Value) (hg : o.guard = none)
  (hrun : ∀ W, Below W0.heap.size W0 W → (execOp a.eval o).run P W = .ok (.value v) W) (h : wpLex P md ops (Cb W0) Q (k + 1) rest (L.setIfInBounds k true) (a.put o.dst v)) : wpLex P md ops (Cb W0) Q k (o :: rest) L a :=
 lexg v hg (fun L W _ hC => by rw [hrun W hC]; exact ⟨hC, rfl⟩) h
theorem lexb_call {W0 : World} {Q : Array Bool → Act → Prop} {k : Nat} {o : Oper} {rest : List Oper} {L : Array Bool} {a : Act} (v : Value) (f : FuncId) (args : Array Value) (hg : o.guard = none)
  (hrun : ∀ W, Below W0.heap.size W0 W → (execOp a.eval o).run P W = .ok (.enter f args) W) (hc : ∀ W : World, Below W0.heap.size W0 W → Calls P f args W fun e w' => e = .returned v ∧ Below W.heap.size W w')
  (h : wpLex P md ops (Cb W0) Q (k + 1) rest (L.setIfInBounds k true) (a.put o.dst v)) : wpLex P md ops (Cb W0) Q k (o :: rest) L a :=
 lexg v hg (fun L W _ hC => by
  rw [hrun W hC]
  exact ⟨rfl, (hc W hC).mono fun e w' ⟨he, hb⟩ => ⟨he, hC.trans (hb.mono hC.size)⟩⟩) h
end
theorem wp_abs {P : Program} {c : Code} {Q : Exit → Act → World → Prop} {a : Act} {w : World} (H : Act → Prop) (ha : H a) (h : ∀ a0, H a0 → a0 = a → c.wp P Q a0 w) : c.wp P Q a w := h a ha rfl
end Go.Proofs.YtonheibhbilhhaaGreat.setup
namespace Go.Proofs.YtonheibhbilhhaaGreat.setup
open Go.RowKit Go.PlainAid Go.Proofs.YtonheibhbilhhaaGreat.lane Go.Proofs.YtonheibhbilhhaaGreat.desc
set_option linter.unusedVariables false
set_option linter.unusedSimpArgs false
theorem run_ix (s : ByteArray) (k : Nat) (h : k < s.size) (W : World) : (Instr.index 9 (.string s) (.int .i64 (k : Int))).run Tryz.prog W = .ok (.int .u8 (bt s k)) W := by
 have e : bt s k = ((s[k]'h).toNat : Int) := by unfold bt; rw [dif_pos h]
 rw [e]
 simp [Instr.index, asIntOf, run_underlying Tryz.underlying9, h, Result.andThen]
theorem nums_inj {a b : ByteArray} (h : nums a = nums b) : a = b := by rw [← str_nums a, h, str_nums]
theorem ext_nums (s p : ByteArray) (h : (nums s).take p.size = nums p) : s.extract 0 p.size = p := by
 apply nums_inj
 rw [nums_extract, List.drop_zero, h]
theorem ext_not (s p : ByteArray) (h : ¬ (nums s).take p.size = nums p) : ¬ s.extract 0 p.size = p := by
 intro c
 apply h
 have := congrArg nums c
 rwa [nums_extract, List.drop_zero] at this
set_option maxHeartbeats 400000 in
theorem hasPrefixLite (s p : ByteArray) (w : World) (hs : s.size ≤ maxLen) (hp : p.size ≤ maxLen) :
  Calls Tryz.prog 107 #[.string s, .string p] w fun e w' => e = .returned (.bool (decide ((nums s).take p.size = nums p))) ∧ w = w' := by
 unfold maxLen at hs hp
 by_cases hl : p.size ≤ s.size
 ·by_cases h : (nums s).take p.size = nums p
  ·have e := ext_nums s p h
   rw [decide_eq_true h]
   clear h
   go_enter Tryz.func107, Tryz.ntmps107
   go_wp2
   go_ret
   exact ⟨rfl, rfl⟩
  ·have e : ((s.extract 0 p.size).toList == p.toList) = false := by rw [toList_beq]; exact decide_eq_false (ext_not s p h)
   rw [decide_eq_false h]
   clear h
   go_enter Tryz.func107, Tryz.ntmps107
   go_wp2
   go_ret
   exact ⟨rfl, rfl⟩
 ·have h : ¬ (nums s).take p.size = nums p := by
   intro c
   have := congrArg List.length c
   rw [List.length_take, nums_length, nums_length] at this
   omega
  rw [decide_eq_false h]
  clear h
  go_enter Tryz.func107, Tryz.ntmps107
  go_wp2
  go_ret
  exact ⟨rfl, rfl⟩
theorem hasPrefix_any (s p : ByteArray) (w : World) (hs : s.size ≤ maxLen) (hp : p.size ≤ maxLen) :
  Calls Tryz.prog 77 #[.string s, .string p] w fun e w' => e = .returned (.bool (decide ((nums s).take p.size = nums p))) ∧ w = w' := by
 have H : Hid (∀ w, Calls Tryz.prog 107 #[.string s, .string p] w fun e w' => e = .returned (.bool (decide ((nums s).take p.size = nums p))) ∧ w = w') := fun w => hasPrefixLite s p w hs hp
 go_enter Tryz.func77, Tryz.ntmps77
 go_wp2_with fail
 refine (H.out _).mono ?_
 rintro e w' ⟨rfl, rfl⟩
 go_wp2
 go_ret
 exact ⟨rfl, rfl⟩
theorem two_conv (x y : Int) (w : World) : (convert 99 9 (.slice (some ⟨w.heap.size, 0, none⟩) 2 2)).run Tryz.prog (w.alloc (.cells #[.int .u8 x, .int .u8 y] 5)) = .ok (.string (strOfNums [x, y])) (w.alloc (.cells #[.int .u8 x, .int .u8 y] 5)) := by
 refine run_convert_bytes_arg _ 99 5 Tryz.underlying99 Tryz.underlying5 w.heap.size 0 2 2 [x, y] rfl ?_ 9 Tryz.underlying9
 intro i hi
 match i, hi with
 | 0, _ => simp
 | 1, _ => simp
theorem twoBytes_any (n : Int) (h0 : 0 ≤ n) (h1 : n ≤ 65535) (w : World) :
  Calls Tryz.prog 69 #[.int .i64 n] w fun e w' => e = .returned (.string (strOfNums (wrd n))) ∧ Below w.heap.size w w' := by
 have hc := two_conv (n % 256) (n / 256) w
 have he : n / 256 % 256 = n / 256 := by omega
 unfold wrd
 go_enter Tryz.func69, Tryz.ntmps69
 go_wp2
 go_ret
 exact ⟨rfl, (Below.refl _ _).alloc (Nat.le_refl _) _⟩
theorem wd_at (s : ByteArray) (k : Nat) (h : k + 1 < s.size) : wdOf (s.extract k s.size) = bt s k + 256 * bt s (k + 1) := by
 unfold wdOf
 rw [bt_extract _ k 0 (by omega), bt_extract _ k 1 (by omega), Nat.add_zero]
set_option maxHeartbeats 400000 in
theorem wordAt_any (s : ByteArray) (k : Nat) (w : World) (hk : k + 1 < s.size) (hs : s.size ≤ maxLen) :
  Calls Tryz.prog 78 #[.string s, .int .i64 (k : Int)] w fun e w' => e = .returned (.int .i64 (wdOf (s.extract k s.size))) ∧ ∃ q, w' = w.drewN q := by
 unfold maxLen at hs
 have x0 : ∀ W : World, (Instr.index 9 (.string s) (.int .i64 (k : Int))).run Tryz.prog W = .ok (.int .u8 (bt s k)) W := run_ix s k (by omega)
 have x1 : ∀ W : World, (Instr.index 9 (.string s) (.int .i64 ((k : Int) + 1))).run Tryz.prog W = .ok (.int .u8 (bt s (k + 1))) W := run_ix s (k + 1) (by omega)
 have b0 := bt_nonneg s k
 have b1 := bt_le s k
 have c0 := bt_nonneg s (k + 1)
 have c1 := bt_le s (k + 1)
 have HN : Hid (256 * bt s (k + 1) + bt s k = wdOf (s.extract k s.size)) := by show _ = _; rw [wd_at s k hk]; omega
 generalize wdOf (s.extract k s.size) = N at *
 generalize bt s (k + 1) = y at *
 generalize bt s k = x at *
 go_enter Tryz.func78, Tryz.ntmps78
 go_wp2_with fail
 go_quiet (fail)
 go_wp2
 go_ret
 rw [HN.out]
 exact ⟨rfl, _, rfl⟩
theorem between_any (n l m : Int) (b : Bool) (hb : inS l m n = b) (w : World) :
  Calls Tryz.prog 13 #[.int .i64 n, .int .i64 l, .int .i64 m] w fun e w' => e = .returned (.bool b) ∧ w = w' := by
 subst hb
 unfold inS
 go_enter Tryz.func13, Tryz.ntmps13
 go_wp2
 ·rename_i h
  go_ret
  rw [show decide (l ≤ n) = true by simpa using h, Bool.true_and]
  exact ⟨rfl, rfl⟩
 ·rename_i h
  go_ret
  rw [show decide (l ≤ n) = false by simp; omega, Bool.false_and]
  exact ⟨rfl, rfl⟩
theorem inS_one (c n : Int) : (n == c) = inS c c n := by
 rw [Bool.eq_iff_iff, inS_iff, beq_iff_eq]; omega
set_option maxHeartbeats 2000000 in
theorem askValue_any (k n : Int) (hk : isK k = true) (w : World) : Calls Tryz.prog 73 #[.int .i64 k, .int .i64 n] w fun e w' => e = .returned (.bool (inS (col k 2) (col k 3) n)) ∧ w = w' := by
 have HB : Hid (∀ (n l m : Int) (b : Bool), inS l m n = b → ∀ w : World, Calls Tryz.prog 13 #[.int .i64 n, .int .i64 l, .int .i64 m] w fun e w' => e = .returned (.bool b) ∧ w = w') := between_any
 rcases isK_cases hk with rfl | rfl | rfl | rfl | rfl | rfl | rfl | rfl | rfl | rfl | rfl | rfl | rfl | rfl
 ·go_enter Tryz.func73, Tryz.ntmps73
  go_wp2
  go_ret
  exact ⟨ret_bool (inS_one 0 n), rfl⟩
 ·go_enter Tryz.func73, Tryz.ntmps73
  go_wp2
  go_ret
  exact ⟨ret_bool (inS_one 0 n), rfl⟩
 ·go_enter Tryz.func73, Tryz.ntmps73
  go_wp2
  go_ret
  exact ⟨ret_bool (inS_one 0 n), rfl⟩
 ·go_enter Tryz.func73, Tryz.ntmps73
  go_wp2_with fail
  refine (HB.out n 0 127 _ rfl _).mono ?_
  rintro r u ⟨rfl, rfl⟩
  go_wp2
  go_ret
  exact ⟨ret_bool (rfl), rfl⟩
 ·go_enter Tryz.func73, Tryz.ntmps73
  go_wp2_with fail
  refine (HB.out n 0 65535 _ rfl _).mono ?_
  rintro r u ⟨rfl, rfl⟩
  go_wp2
  go_ret
  exact ⟨ret_bool (rfl), rfl⟩
 ·go_enter Tryz.func73, Tryz.ntmps73
  go_wp2_with fail
  refine (HB.out n 0 255 _ rfl _).mono ?_
  rintro r u ⟨rfl, rfl⟩
  go_wp2
  go_ret
  exact ⟨ret_bool (rfl), rfl⟩
 ·go_enter Tryz.func73, Tryz.ntmps73
  go_wp2
  go_ret
  exact ⟨ret_bool (inS_one 0 n), rfl⟩
 ·go_enter Tryz.func73, Tryz.ntmps73
  go_wp2
  go_ret
  exact ⟨ret_bool (inS_one 0 n), rfl⟩
 ·go_enter Tryz.func73, Tryz.ntmps73
  go_wp2_with fail
  refine (HB.out n 0 31 _ rfl _).mono ?_
  rintro r u ⟨rfl, rfl⟩
  go_wp2
  go_ret
  exact ⟨ret_bool (rfl), rfl⟩
 ·go_enter Tryz.func73, Tryz.ntmps73
  go_wp2_with fail
  refine (HB.out n 0 31 _ rfl _).mono ?_
  rintro r u ⟨rfl, rfl⟩
  go_wp2
  go_ret
  exact ⟨ret_bool (rfl), rfl⟩
 ·go_enter Tryz.func73, Tryz.ntmps73
  go_wp2
  go_ret
  exact ⟨ret_bool (inS_one 0 n), rfl⟩
 ·go_enter Tryz.func73, Tryz.ntmps73
  go_wp2
  go_ret
  exact ⟨ret_bool (inS_one 0 n), rfl⟩
 ·go_enter Tryz.func73, Tryz.ntmps73
  go_wp2_with fail
  refine (HB.out n 0 65535 _ rfl _).mono ?_
  rintro r u ⟨rfl, rfl⟩
  go_wp2
  go_ret
  exact ⟨ret_bool (rfl), rfl⟩
 ·go_enter Tryz.func73, Tryz.ntmps73
  go_wp2
  go_ret
  exact ⟨ret_bool (inS_one 512 n), rfl⟩
set_option maxHeartbeats 2000000 in
theorem askIndex_any (k n : Int) (hk : isK k = true) (w : World) : Calls Tryz.prog 74 #[.int .i64 k, .int .i64 n] w fun e w' => e = .returned (.bool (if te k then isE n else inS (col k 4) (col k 5) n)) ∧ w = w' := by
 have HB : Hid (∀ (n l m : Int) (b : Bool), inS l m n = b → ∀ w : World, Calls Tryz.prog 13 #[.int .i64 n, .int .i64 l, .int .i64 m] w fun e w' => e = .returned (.bool b) ∧ w = w') := between_any
 rcases isK_cases hk with rfl | rfl | rfl | rfl | rfl | rfl | rfl | rfl | rfl | rfl | rfl | rfl | rfl | rfl
 ·go_enter Tryz.func74, Tryz.ntmps74
  go_wp2_with fail
  refine (HB.out 1 8 10 false rfl _).mono ?_
  rintro r u ⟨rfl, rfl⟩
  go_wp2_with fail
  refine (HB.out 1 11 14 false rfl _).mono ?_
  rintro r u ⟨rfl, rfl⟩
  go_wp2
  go_ret
  exact ⟨ret_bool (inS_one 0 n), rfl⟩
 ·cases hb : inS 0 15 n
  ·have HB1 : Hid (∀ w : World, Calls Tryz.prog 13 #[.int .i64 n, .int .i64 0, .int .i64 15] w fun e w' => e = .returned (.bool false) ∧ w = w') := HB.out n 0 15 false hb
   go_enter Tryz.func74, Tryz.ntmps74
   go_wp2_with fail
   refine (HB1.out _).mono ?_
   rintro r u ⟨rfl, rfl⟩
   go_wp2_with fail
   refine (HB.out n 128 143 _ rfl _).mono ?_
   rintro r u ⟨rfl, rfl⟩
   go_wp2
   go_ret
   exact ⟨ret_bool (by show _ = isE n; unfold isE; rw [hb]; rfl), rfl⟩
  ·have HB1 : Hid (∀ w : World, Calls Tryz.prog 13 #[.int .i64 n, .int .i64 0, .int .i64 15] w fun e w' => e = .returned (.bool true) ∧ w = w') := HB.out n 0 15 true hb
   go_enter Tryz.func74, Tryz.ntmps74
   go_wp2_with fail
   refine (HB1.out _).mono ?_
   rintro r u ⟨rfl, rfl⟩
   go_wp2
   go_ret
   exact ⟨ret_bool (by show _ = isE n; unfold isE; rw [hb]; rfl), rfl⟩
 ·cases hb : inS 0 15 n
  ·have HB1 : Hid (∀ w : World, Calls Tryz.prog 13 #[.int .i64 n, .int .i64 0, .int .i64 15] w fun e w' => e = .returned (.bool false) ∧ w = w') := HB.out n 0 15 false hb
   go_enter Tryz.func74, Tryz.ntmps74
   go_wp2_with fail
   refine (HB1.out _).mono ?_
   rintro r u ⟨rfl, rfl⟩
   go_wp2_with fail
   refine (HB.out n 128 143 _ rfl _).mono ?_
   rintro r u ⟨rfl, rfl⟩
   go_wp2
   go_ret
   exact ⟨ret_bool (by show _ = isE n; unfold isE; rw [hb]; rfl), rfl⟩
  ·have HB1 : Hid (∀ w : World, Calls Tryz.prog 13 #[.int .i64 n, .int .i64 0, .int .i64 15] w fun e w' => e = .returned (.bool true) ∧ w = w') := HB.out n 0 15 true hb
   go_enter Tryz.func74, Tryz.ntmps74
   go_wp2_with fail
   refine (HB1.out _).mono ?_
   rintro r u ⟨rfl, rfl⟩
   go_wp2
   go_ret
   exact ⟨ret_bool (by show _ = isE n; unfold isE; rw [hb]; rfl), rfl⟩
 ·go_enter Tryz.func74, Tryz.ntmps74
  go_wp2_with fail
  refine (HB.out 4 8 10 false rfl _).mono ?_
  rintro r u ⟨rfl, rfl⟩
  go_wp2_with fail
  refine (HB.out 4 11 14 false rfl _).mono ?_
  rintro r u ⟨rfl, rfl⟩
  go_wp2
  go_ret
  exact ⟨ret_bool (inS_one 0 n), rfl⟩
 ·go_enter Tryz.func74, Tryz.ntmps74
  go_wp2_with fail
  refine (HB.out n 0 65535 _ rfl _).mono ?_
  rintro r u ⟨rfl, rfl⟩
  go_wp2
  go_ret
  exact ⟨ret_bool (rfl), rfl⟩
 ·go_enter Tryz.func74, Tryz.ntmps74
  go_wp2_with fail
  refine (HB.out 6 8 10 false rfl _).mono ?_
  rintro r u ⟨rfl, rfl⟩
  go_wp2_with fail
  refine (HB.out 6 11 14 false rfl _).mono ?_
  rintro r u ⟨rfl, rfl⟩
  go_wp2
  go_ret
  exact ⟨ret_bool (inS_one 0 n), rfl⟩
 ·go_enter Tryz.func74, Tryz.ntmps74
  go_wp2_with fail
  refine (HB.out 7 8 10 false rfl _).mono ?_
  rintro r u ⟨rfl, rfl⟩
  go_wp2_with fail
  refine (HB.out 7 11 14 false rfl _).mono ?_
  rintro r u ⟨rfl, rfl⟩
  go_wp2
  go_ret
  exact ⟨ret_bool (inS_one 0 n), rfl⟩
 ·go_enter Tryz.func74, Tryz.ntmps74
  go_wp2_with fail
  refine (HB.out 8 8 10 true rfl _).mono ?_
  rintro r u ⟨rfl, rfl⟩
  go_wp2_with fail
  refine (HB.out n 1 15 _ rfl _).mono ?_
  rintro r u ⟨rfl, rfl⟩
  go_wp2
  go_ret
  exact ⟨ret_bool (rfl), rfl⟩
 ·go_enter Tryz.func74, Tryz.ntmps74
  go_wp2_with fail
  refine (HB.out 9 8 10 true rfl _).mono ?_
  rintro r u ⟨rfl, rfl⟩
  go_wp2_with fail
  refine (HB.out n 1 15 _ rfl _).mono ?_
  rintro r u ⟨rfl, rfl⟩
  go_wp2
  go_ret
  exact ⟨ret_bool (rfl), rfl⟩
 ·go_enter Tryz.func74, Tryz.ntmps74
  go_wp2_with fail
  refine (HB.out 10 8 10 true rfl _).mono ?_
  rintro r u ⟨rfl, rfl⟩
  go_wp2_with fail
  refine (HB.out n 1 15 _ rfl _).mono ?_
  rintro r u ⟨rfl, rfl⟩
  go_wp2
  go_ret
  exact ⟨ret_bool (rfl), rfl⟩
 ·go_enter Tryz.func74, Tryz.ntmps74
  go_wp2_with fail
  refine (HB.out 11 8 10 false rfl _).mono ?_
  rintro r u ⟨rfl, rfl⟩
  go_wp2_with fail
  refine (HB.out 11 11 14 true rfl _).mono ?_
  rintro r u ⟨rfl, rfl⟩
  go_wp2_with fail
  refine (HB.out n 0 255 _ rfl _).mono ?_
  rintro r u ⟨rfl, rfl⟩
  go_wp2
  go_ret
  exact ⟨ret_bool (rfl), rfl⟩
 ·go_enter Tryz.func74, Tryz.ntmps74
  go_wp2_with fail
  refine (HB.out 12 8 10 false rfl _).mono ?_
  rintro r u ⟨rfl, rfl⟩
  go_wp2_with fail
  refine (HB.out 12 11 14 true rfl _).mono ?_
  rintro r u ⟨rfl, rfl⟩
  go_wp2_with fail
  refine (HB.out n 0 255 _ rfl _).mono ?_
  rintro r u ⟨rfl, rfl⟩
  go_wp2
  go_ret
  exact ⟨ret_bool (rfl), rfl⟩
 ·go_enter Tryz.func74, Tryz.ntmps74
  go_wp2_with fail
  refine (HB.out 13 8 10 false rfl _).mono ?_
  rintro r u ⟨rfl, rfl⟩
  go_wp2_with fail
  refine (HB.out 13 11 14 true rfl _).mono ?_
  rintro r u ⟨rfl, rfl⟩
  go_wp2_with fail
  refine (HB.out n 0 255 _ rfl _).mono ?_
  rintro r u ⟨rfl, rfl⟩
  go_wp2
  go_ret
  exact ⟨ret_bool (rfl), rfl⟩
 ·go_enter Tryz.func74, Tryz.ntmps74
  go_wp2_with fail
  refine (HB.out 14 8 10 false rfl _).mono ?_
  rintro r u ⟨rfl, rfl⟩
  go_wp2_with fail
  refine (HB.out 14 11 14 true rfl _).mono ?_
  rintro r u ⟨rfl, rfl⟩
  go_wp2_with fail
  refine (HB.out n 0 255 _ rfl _).mono ?_
  rintro r u ⟨rfl, rfl⟩
  go_wp2
  go_ret
  exact ⟨ret_bool (rfl), rfl⟩
set_option maxHeartbeats 2000000 in
theorem askLength_any (k n : Int) (hk : isK k = true) (w : World) : Calls Tryz.prog 75 #[.int .i64 k, .int .i64 n] w fun e w' => e = .returned (.bool (inS (col k 6) (col k 7) n)) ∧ w = w' := by
 have HB : Hid (∀ (n l m : Int) (b : Bool), inS l m n = b → ∀ w : World, Calls Tryz.prog 13 #[.int .i64 n, .int .i64 l, .int .i64 m] w fun e w' => e = .returned (.bool b) ∧ w = w') := between_any
 rcases isK_cases hk with rfl | rfl | rfl | rfl | rfl | rfl | rfl | rfl | rfl | rfl | rfl | rfl | rfl | rfl
 ·go_enter Tryz.func75, Tryz.ntmps75
  go_wp2_with fail
  refine (HB.out 1 1 14 true rfl _).mono ?_
  rintro r u ⟨rfl, rfl⟩
  go_wp2
  go_ret
  exact ⟨ret_bool (Eq.trans (congrArg (fun c : Int => n == c) (show _ = (2 : Int) by decide +kernel)) (inS_one 2 n)), rfl⟩
 ·go_enter Tryz.func75, Tryz.ntmps75
  go_wp2_with fail
  refine (HB.out 2 1 14 true rfl _).mono ?_
  rintro r u ⟨rfl, rfl⟩
  go_wp2
  go_ret
  exact ⟨ret_bool (Eq.trans (congrArg (fun c : Int => n == c) (show _ = (0 : Int) by decide +kernel)) (inS_one 0 n)), rfl⟩
 ·go_enter Tryz.func75, Tryz.ntmps75
  go_wp2_with fail
  refine (HB.out 3 1 14 true rfl _).mono ?_
  rintro r u ⟨rfl, rfl⟩
  go_wp2
  go_ret
  exact ⟨ret_bool (Eq.trans (congrArg (fun c : Int => n == c) (show _ = (0 : Int) by decide +kernel)) (inS_one 0 n)), rfl⟩
 ·go_enter Tryz.func75, Tryz.ntmps75
  go_wp2_with fail
  refine (HB.out 4 1 14 true rfl _).mono ?_
  rintro r u ⟨rfl, rfl⟩
  go_wp2
  go_ret
  exact ⟨ret_bool (Eq.trans (congrArg (fun c : Int => n == c) (show _ = (0 : Int) by decide +kernel)) (inS_one 0 n)), rfl⟩
 ·go_enter Tryz.func75, Tryz.ntmps75
  go_wp2_with fail
  refine (HB.out n 0 65535 _ rfl _).mono ?_
  rintro r u ⟨rfl, rfl⟩
  go_wp2
  go_ret
  exact ⟨ret_bool (rfl), rfl⟩
 ·go_enter Tryz.func75, Tryz.ntmps75
  go_wp2_with fail
  refine (HB.out 6 1 14 true rfl _).mono ?_
  rintro r u ⟨rfl, rfl⟩
  go_wp2
  go_ret
  exact ⟨ret_bool (Eq.trans (congrArg (fun c : Int => n == c) (show _ = (0 : Int) by decide +kernel)) (inS_one 0 n)), rfl⟩
 ·go_enter Tryz.func75, Tryz.ntmps75
  go_wp2_with fail
  refine (HB.out 7 1 14 true rfl _).mono ?_
  rintro r u ⟨rfl, rfl⟩
  go_wp2
  go_ret
  exact ⟨ret_bool (Eq.trans (congrArg (fun c : Int => n == c) (show _ = (1 : Int) by decide +kernel)) (inS_one 1 n)), rfl⟩
 ·go_enter Tryz.func75, Tryz.ntmps75
  go_wp2_with fail
  refine (HB.out 8 1 14 true rfl _).mono ?_
  rintro r u ⟨rfl, rfl⟩
  go_wp2
  go_ret
  exact ⟨ret_bool (Eq.trans (congrArg (fun c : Int => n == c) (show _ = (4 : Int) by decide +kernel)) (inS_one 4 n)), rfl⟩
 ·go_enter Tryz.func75, Tryz.ntmps75
  go_wp2_with fail
  refine (HB.out 9 1 14 true rfl _).mono ?_
  rintro r u ⟨rfl, rfl⟩
  go_wp2
  go_ret
  exact ⟨ret_bool (Eq.trans (congrArg (fun c : Int => n == c) (show _ = (0 : Int) by decide +kernel)) (inS_one 0 n)), rfl⟩
 ·go_enter Tryz.func75, Tryz.ntmps75
  go_wp2_with fail
  refine (HB.out 10 1 14 true rfl _).mono ?_
  rintro r u ⟨rfl, rfl⟩
  go_wp2
  go_ret
  exact ⟨ret_bool (Eq.trans (congrArg (fun c : Int => n == c) (show _ = (0 : Int) by decide +kernel)) (inS_one 0 n)), rfl⟩
 ·go_enter Tryz.func75, Tryz.ntmps75
  go_wp2_with fail
  refine (HB.out 11 1 14 true rfl _).mono ?_
  rintro r u ⟨rfl, rfl⟩
  go_wp2
  go_ret
  exact ⟨ret_bool (Eq.trans (congrArg (fun c : Int => n == c) (show _ = (0 : Int) by decide +kernel)) (inS_one 0 n)), rfl⟩
 ·go_enter Tryz.func75, Tryz.ntmps75
  go_wp2_with fail
  refine (HB.out 12 1 14 true rfl _).mono ?_
  rintro r u ⟨rfl, rfl⟩
  go_wp2
  go_ret
  exact ⟨ret_bool (Eq.trans (congrArg (fun c : Int => n == c) (show _ = (1 : Int) by decide +kernel)) (inS_one 1 n)), rfl⟩
 ·go_enter Tryz.func75, Tryz.ntmps75
  go_wp2_with fail
  refine (HB.out 13 1 14 true rfl _).mono ?_
  rintro r u ⟨rfl, rfl⟩
  go_wp2
  go_ret
  exact ⟨ret_bool (Eq.trans (congrArg (fun c : Int => n == c) (show _ = (0 : Int) by decide +kernel)) (inS_one 0 n)), rfl⟩
 ·go_enter Tryz.func75, Tryz.ntmps75
  go_wp2_with fail
  refine (HB.out 14 1 14 true rfl _).mono ?_
  rintro r u ⟨rfl, rfl⟩
  go_wp2
  go_ret
  exact ⟨ret_bool (Eq.trans (congrArg (fun c : Int => n == c) (show _ = (1 : Int) by decide +kernel)) (inS_one 1 n)), rfl⟩
end Go.Proofs.YtonheibhbilhhaaGreat.setup
namespace Go.Proofs.YtonheibhbilhhaaGreat.gadget
open Go.RowKit Go.PlainAid Go.Proofs.YtonheibhbilhhaaGreat.lane Go.Proofs.YtonheibhbilhhaaGreat.setup
set_option linter.unusedVariables false
set_option linter.unusedSimpArgs false
theorem pow_bd : ∀ j : Fin 33, (1 : Int) ≤ 2 ^ j.val ∧ (2 : Int) ^ j.val ≤ 4294967296 := by decide
theorem ret_i64 {a b : Int} (h : a = b) : Ending.returned (.int .i64 a) = .returned (.int .i64 b) := by rw [h]
theorem two_any (k : Nat) (hk : k ≤ 32) (w : World) :
  Calls Tryz.prog 76 #[.int .i64 (k : Int)] w fun e w' => e = .returned (.int .i64 (2 ^ k)) ∧ w' = w := by
 go_enter Tryz.func76, Tryz.ntmps76
 go_wp2
 go_loop [3, 5] (fun n i => ∃ (j : Nat) (p : Int), j ≤ k ∧ 1 ≤ p ∧ p ≤ 4294967296 ∧ i = .int .i64 j ∧ n = .int .i64 p ∧ Hid (p = 2 ^ j)) (fun _ i => k - (intOf i).toNat)
 case atStart => exact ⟨0, 1, Nat.zero_le _, by omega, by omega, rfl, rfl, rfl⟩
 case round =>
  obtain ⟨j, p, hj, h1, h2, rfl, rfl, HP⟩ := hrel
  by_cases hlt : j < k
  ·have hb := pow_bd ⟨j + 1, by omega⟩
   simp only [Int.pow_succ, ← HP.out] at hb
   go_wp2
   go_round
   case rel => exact ⟨j + 1, p * 2, by omega, hb.1, hb.2, by go_num, rfl, by show _ = _; rw [Int.pow_succ, HP.out]⟩
   case measure => simp [intOf]; omega
  ·obtain rfl : j = k := by omega
   go_wp2
   go_ret
   exact ⟨ret_i64 HP.out, rfl⟩
theorem bdN (w : World) (o : Obj) (n : Nat) : Below w.heap.size w ((w.alloc o).drewN n) := below_drewN (balloc w o) n
set_option maxHeartbeats 4000000 in
theorem gadget_any (s a h : Int) (w : World) :
  Calls Tryz.prog 37 #[gdV s a h] w fun e w' => e = .returned (.bool (gR s a h)) ∧ Below w.heap.size w w' := by
 have HT : Hid (∀ w : World, Calls Tryz.prog 76 #[.int .i64 32] w fun e w' => e = .returned (.int .i64 4294967296) ∧ w' = w) := two_any 32 (by omega)
 have HB : Hid (∀ (n l m : Int) (b : Bool), inS l m n = b → ∀ w : World, Calls Tryz.prog 13 #[.int .i64 n, .int .i64 l, .int .i64 m] w fun e w' => e = .returned (.bool b) ∧ w' = w) := fun n l m b hb w => (between_any n l m b hb w).mono fun e w' ⟨h1, h2⟩ => ⟨h1, h2.symm⟩
 by_cases b1 : inS 0 2 s = true
 ·by_cases b2 : inS 0 4294967295 h = true
  ·have hs := inS_iff.1 b1
   have hcs : s = 0 ∨ s = 1 ∨ s = 2 := by omega
   clear b1 hs
   have HB2 : Hid (∀ w : World, Calls Tryz.prog 13 #[.int .i64 h, .int .i64 0, .int .i64 4294967295] w fun e w' => e = .returned (.bool true) ∧ w' = w) := HB.out h 0 4294967295 true b2
   rcases hcs with rfl | rfl | rfl
   ·by_cases h0 : h = 0
    ·subst h0
     by_cases a0 : a = 0
     ·subst a0
      have HR : Hid (gR 0 0 0 = true) := rfl
      generalize gR 0 0 0 = r at *
      have HB1 : Hid (∀ w : World, Calls Tryz.prog 13 #[.int .i64 0, .int .i64 0, .int .i64 2] w fun e w' => e = .returned (.bool true) ∧ w' = w) := HB.out 0 0 2 true rfl
      clear b2 HB
      go_enter Tryz.func37, Tryz.ntmps37
      go_wp2_with fail
      go_quiet (first
       | (go_at_call 13; with_reducible exact Calls.quiet_of_same (HB1.out _))
       | (go_at_call 76; exact Calls.quiet_of_same (HT.out _))
       | (go_at_call 13; with_reducible exact Calls.quiet_of_same (HB2.out _)))
      go_wp2
      go_ret
      rw [HR.out]
      exact ⟨rfl, bdN _ _ _⟩
     ·have a1 : (a == 0) = false := by simpa using a0
      have HR : Hid (gR 0 a 0 = false) := by show _ = _; unfold gR; rw [a1]; rfl
      generalize gR 0 a 0 = r at *
      have HB1 : Hid (∀ w : World, Calls Tryz.prog 13 #[.int .i64 0, .int .i64 0, .int .i64 2] w fun e w' => e = .returned (.bool true) ∧ w' = w) := HB.out 0 0 2 true rfl
      clear b2 HB a0
      go_enter Tryz.func37, Tryz.ntmps37
      go_wp2_with fail
      go_quiet (first
       | (go_at_call 13; with_reducible exact Calls.quiet_of_same (HB1.out _))
       | (go_at_call 76; exact Calls.quiet_of_same (HT.out _))
       | (go_at_call 13; with_reducible exact Calls.quiet_of_same (HB2.out _)))
      go_wp2
      go_ret
      rw [HR.out]
      exact ⟨rfl, bdN _ _ _⟩
    ·have h1 : (h == 0) = false := by simpa using h0
     have HR : Hid (gR 0 a h = false) := by show _ = _; unfold gR; rw [h1, b2]; rfl
     generalize gR 0 a h = r at *
     have HB1 : Hid (∀ w : World, Calls Tryz.prog 13 #[.int .i64 0, .int .i64 0, .int .i64 2] w fun e w' => e = .returned (.bool true) ∧ w' = w) := HB.out 0 0 2 true rfl
     clear b2 HB h0
     go_enter Tryz.func37, Tryz.ntmps37
     go_wp2_with fail
     go_quiet (first
      | (go_at_call 13; with_reducible exact Calls.quiet_of_same (HB1.out _))
      | (go_at_call 76; exact Calls.quiet_of_same (HT.out _))
      | (go_at_call 13; with_reducible exact Calls.quiet_of_same (HB2.out _)))
     go_wp2
     go_ret
     rw [HR.out]
     exact ⟨rfl, bdN _ _ _⟩
   ·by_cases h0 : h = 0
    ·subst h0
     have HR : Hid (gR 1 a 0 = inS 1 127 a) := by show _ = _; unfold gR; rfl
     generalize gR 1 a 0 = r at *
     have HB1 : Hid (∀ w : World, Calls Tryz.prog 13 #[.int .i64 1, .int .i64 0, .int .i64 2] w fun e w' => e = .returned (.bool true) ∧ w' = w) := HB.out 1 0 2 true rfl
     have HB3 : Hid (∀ w : World, Calls Tryz.prog 13 #[.int .i64 a, .int .i64 1, .int .i64 127] w fun e w' => e = .returned (.bool (inS 1 127 a)) ∧ w' = w) := HB.out a 1 127 _ rfl
     clear b2 HB
     go_enter Tryz.func37, Tryz.ntmps37
     go_wp2_with fail
     go_quiet (first
      | (go_at_call 13; with_reducible exact Calls.quiet_of_same (HB1.out _))
      | (go_at_call 76; exact Calls.quiet_of_same (HT.out _))
      | (go_at_call 13; with_reducible exact Calls.quiet_of_same (HB2.out _))
      | (go_at_call 13; with_reducible exact Calls.quiet_of_same (HB3.out _)))
     go_wp2
     go_ret
     rw [HR.out]
     exact ⟨rfl, bdN _ _ _⟩
    ·have h1 : (h == 0) = false := by simpa using h0
     have HR : Hid (gR 1 a h = false) := by show _ = _; unfold gR; rw [h1, b2]; rfl
     generalize gR 1 a h = r at *
     have HB1 : Hid (∀ w : World, Calls Tryz.prog 13 #[.int .i64 1, .int .i64 0, .int .i64 2] w fun e w' => e = .returned (.bool true) ∧ w' = w) := HB.out 1 0 2 true rfl
     clear b2 HB h0
     go_enter Tryz.func37, Tryz.ntmps37
     go_wp2_with fail
     go_quiet (first
      | (go_at_call 13; with_reducible exact Calls.quiet_of_same (HB1.out _))
      | (go_at_call 76; exact Calls.quiet_of_same (HT.out _))
      | (go_at_call 13; with_reducible exact Calls.quiet_of_same (HB2.out _)))
     go_wp2
     go_ret
     rw [HR.out]
     exact ⟨rfl, bdN _ _ _⟩
   ·have HR : Hid (gR 2 a h = inS 1 127 a) := by show _ = _; unfold gR; rw [b2]; rfl
    generalize gR 2 a h = r at *
    have HB1 : Hid (∀ w : World, Calls Tryz.prog 13 #[.int .i64 2, .int .i64 0, .int .i64 2] w fun e w' => e = .returned (.bool true) ∧ w' = w) := HB.out 2 0 2 true rfl
    have HB3 : Hid (∀ w : World, Calls Tryz.prog 13 #[.int .i64 a, .int .i64 1, .int .i64 127] w fun e w' => e = .returned (.bool (inS 1 127 a)) ∧ w' = w) := HB.out a 1 127 _ rfl
    clear b2 HB
    go_enter Tryz.func37, Tryz.ntmps37
    go_wp2_with fail
    go_quiet (first
     | (go_at_call 13; with_reducible exact Calls.quiet_of_same (HB1.out _))
     | (go_at_call 76; exact Calls.quiet_of_same (HT.out _))
     | (go_at_call 13; with_reducible exact Calls.quiet_of_same (HB2.out _))
     | (go_at_call 13; with_reducible exact Calls.quiet_of_same (HB3.out _)))
    go_wp2
    go_ret
    rw [HR.out]
    exact ⟨rfl, bdN _ _ _⟩
  ·have b2 : inS 0 4294967295 h = false := by simpa using b2
   have HR : Hid (gR s a h = false) := by show _ = _; unfold gR; rw [b1, b2]; rfl
   generalize gR s a h = r at *
   have HB1 : Hid (∀ w : World, Calls Tryz.prog 13 #[.int .i64 s, .int .i64 0, .int .i64 2] w fun e w' => e = .returned (.bool true) ∧ w' = w) := HB.out s 0 2 true b1
   have HB2 : Hid (∀ w : World, Calls Tryz.prog 13 #[.int .i64 h, .int .i64 0, .int .i64 4294967295] w fun e w' => e = .returned (.bool false) ∧ w' = w) := HB.out h 0 4294967295 false b2
   clear b1 b2 HB
   go_enter Tryz.func37, Tryz.ntmps37
   go_wp2_with fail
   go_quiet (first
    | (go_at_call 13; with_reducible exact Calls.quiet_of_same (HB1.out _))
    | (go_at_call 76; exact Calls.quiet_of_same (HT.out _))
    | (go_at_call 13; with_reducible exact Calls.quiet_of_same (HB2.out _)))
   go_wp2
   go_ret
   rw [HR.out]
   exact ⟨rfl, bdN _ _ _⟩
 ·have b1 : inS 0 2 s = false := by simpa using b1
  have HR : Hid (gR s a h = false) := by show _ = _; unfold gR; rw [b1]; rfl
  generalize gR s a h = r at *
  have HB1 : Hid (∀ w : World, Calls Tryz.prog 13 #[.int .i64 s, .int .i64 0, .int .i64 2] w fun e w' => e = .returned (.bool false) ∧ w' = w) := HB.out s 0 2 false b1
  clear b1 HB HT
  go_enter Tryz.func37, Tryz.ntmps37
  go_wp2_with fail
  go_quiet ((go_at_call 13; with_reducible exact Calls.quiet_of_same (HB1.out _)))
  go_wp2
  go_ret
  rw [HR.out]
  exact ⟨rfl, bdN _ _ _⟩
end Go.Proofs.YtonheibhbilhhaaGreat.gadget
