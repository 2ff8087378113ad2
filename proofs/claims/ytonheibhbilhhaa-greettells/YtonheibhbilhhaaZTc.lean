/- a region that draws its order, in worlds of one class: whatever came up, nothing that lay there has changed. -/
import Derived.Test.YtonheibhbilhhaaZAg
import Derived.Test.YtonheibhbilhhaaZAj
namespace Go.Proofs.Ytonheibhbilhhaa.setup
open Go Go.RowKit Go.Proofs.Ytonheibhbilhhaa.desc
set_option linter.unusedVariables false

section
variable {P : Program} {md : Region.Mode} {ops : Array Oper} {C : Array Bool → World → Prop}
/-- worlds behind W0 in which all of W0 lies as it lay -/
def Cb (W0 : World) : Array Bool → World → Prop := fun _ w => Below W0.heap.size W0 w
theorem lexg {Q : Array Bool → Act → Prop} {k : Nat} {o : Oper} {rest : List Oper} {L : Array Bool} {a : Act} (v : Value) (hg : o.guard = none)
    (hrun : ∀ L W, k ∈ Region.ready md ops L → C L W → rUpon P (C (L.setIfInBounds k true)) W v ((execOp a.eval o).run P W))
    (h : wpLex P md ops C Q (k + 1) rest (L.setIfInBounds k true) (a.put o.dst v)) : wpLex P md ops C Q k (o :: rest) L a :=
  ⟨v, ⟨by simp [Region.wanted, hg], fun L W hr hC => hrun L W hr hC⟩, h⟩
theorem lexb_plain {W0 : World} {Q : Array Bool → Act → Prop} {k : Nat} {o : Oper} {rest : List Oper} {L : Array Bool} {a : Act} (v : Value) (hg : o.guard = none)
    (hrun : ∀ W, Below W0.heap.size W0 W → (execOp a.eval o).run P W = .ok (.value v) W) (h : wpLex P md ops (Cb W0) Q (k + 1) rest (L.setIfInBounds k true) (a.put o.dst v)) : wpLex P md ops (Cb W0) Q k (o :: rest) L a :=
  lexg v hg (fun L W _ hC => by rw [hrun W hC]; exact ⟨hC, rfl⟩) h
theorem lexb_call {W0 : World} {Q : Array Bool → Act → Prop} {k : Nat} {o : Oper} {rest : List Oper} {L : Array Bool} {a : Act} (v : Value) (f : FuncId) (args : Array Value) (hg : o.guard = none)
    (hrun : ∀ W, Below W0.heap.size W0 W → (execOp a.eval o).run P W = .ok (.enter f args) W) (hc : ∀ W : World, Below W0.heap.size W0 W → Calls P f args W fun e w' => e = .returned v ∧ Below W.heap.size W w')
    (h : wpLex P md ops (Cb W0) Q (k + 1) rest (L.setIfInBounds k true) (a.put o.dst v)) : wpLex P md ops (Cb W0) Q k (o :: rest) L a :=
  lexg v hg (fun L W _ hC => by
    rw [hrun W hC]
    exact ⟨rfl, (hc W hC).mono fun e w' ⟨he, hb⟩ => ⟨he, hC.trans (hb.mono hC.size)⟩⟩) h
end
/-- a frame is known by some of its slots -/
theorem wp_abs {P : Program} {c : Code} {Q : Exit → Act → World → Prop} {a : Act} {w : World} (H : Act → Prop) (ha : H a) (h : ∀ a0, H a0 → a0 = a → c.wp P Q a0 w) : c.wp P Q a w := h a ha rfl
theorem put_size (a : Act) (d : Option Nat) (v : Value) : (a.put d v).tmps.size = a.tmps.size := by
  cases d <;> simp [Act.put]
theorem eval_here (a : Act) (d : Nat) (v : Value) (h : d < a.tmps.size) : (a.put (some d) v).eval (.tmp d) = v := by
  simp [Act.put, Act.eval, h]
theorem eval_away (a : Act) (d j : Nat) (v : Value) (h : d ≠ j) : (a.put (some d) v).eval (.tmp j) = a.eval (.tmp j) := by
  simp [Act.put, Act.eval, Array.getElem?_setIfInBounds_ne h]
theorem eval_none (a : Act) (v : Value) (x : Operand) : (a.put none v).eval x = a.eval x := rfl
theorem eval_const (a : Act) (v : Value) : a.eval (.const v) = v := rfl
theorem eval_func (a : Act) (f : FuncId) : a.eval (.func f) = .func (.func f) #[] #[] := rfl
end Go.Proofs.Ytonheibhbilhhaa.setup

/- plugref's setup: what the small functions answer: Between, askValue, askIndex, askLength, TwoBytes, WordAt, HasPrefix. -/
namespace Go.Proofs.Ytonheibhbilhhaa.setup
open Go.RowKit Go.PlainAid Go.Proofs.Ytonheibhbilhhaa.lane Go.Proofs.Ytonheibhbilhhaa.desc
set_option linter.unusedVariables false
set_option linter.unusedSimpArgs false

theorem run_ix (s : ByteArray) (k : Nat) (h : k < s.size) (W : World) : (Instr.index 9 (.string s) (.int .i64 (k : Int))).run Try.prog W = .ok (.int .u8 (bt s k)) W := by
  have e : bt s k = ((s[k]'h).toNat : Int) := by unfold bt; rw [dif_pos h]
  rw [e]
  simp [Instr.index, asIntOf, run_underlying Try.underlying9, h, Result.andThen]
theorem nums_inj {a b : ByteArray} (h : nums a = nums b) : a = b := by rw [← str_nums a, h, str_nums]
theorem ext_nums (s p : ByteArray) (h : (nums s).take p.size = nums p) : s.extract 0 p.size = p := by
  apply nums_inj
  rw [nums_extract, List.drop_zero, h]
theorem ext_not (s p : ByteArray) (h : ¬ (nums s).take p.size = nums p) : ¬ s.extract 0 p.size = p := by
  intro c
  apply h
  have := congrArg nums c
  rwa [nums_extract, List.drop_zero] at this
set_option maxHeartbeats 400000 in
theorem hasPrefixLite (s p : ByteArray) (w : World) (hs : s.size ≤ maxLen) (hp : p.size ≤ maxLen) :
    Calls Try.prog 75 #[.string s, .string p] w fun e w' => e = .returned (.bool (decide ((nums s).take p.size = nums p))) ∧ w = w' := by
  unfold maxLen at hs hp
  by_cases hl : p.size ≤ s.size
  · by_cases h : (nums s).take p.size = nums p
    · have e := ext_nums s p h
      rw [decide_eq_true h]
      clear h
      go_enter Try.func75, Try.ntmps75
      go_wp2
      go_ret
      exact ⟨rfl, rfl⟩
    · have e : ((s.extract 0 p.size).toList == p.toList) = false := by rw [toList_beq]; exact decide_eq_false (ext_not s p h)
      rw [decide_eq_false h]
      clear h
      go_enter Try.func75, Try.ntmps75
      go_wp2
      go_ret
      exact ⟨rfl, rfl⟩
  · have h : ¬ (nums s).take p.size = nums p := by
      intro c
      have := congrArg List.length c
      rw [List.length_take, nums_length, nums_length] at this
      omega
    rw [decide_eq_false h]
    clear h
    go_enter Try.func75, Try.ntmps75
    go_wp2
    go_ret
    exact ⟨rfl, rfl⟩
theorem hasPrefix_any (s p : ByteArray) (w : World) (hs : s.size ≤ maxLen) (hp : p.size ≤ maxLen) :
    Calls Try.prog 57 #[.string s, .string p] w fun e w' => e = .returned (.bool (decide ((nums s).take p.size = nums p))) ∧ w = w' := by
  have H : Hid (∀ w, Calls Try.prog 75 #[.string s, .string p] w fun e w' => e = .returned (.bool (decide ((nums s).take p.size = nums p))) ∧ w = w') := fun w => hasPrefixLite s p w hs hp
  go_enter Try.func57, Try.ntmps57
  go_wp2_with fail
  refine (H.out _).mono ?_
  rintro e w' ⟨rfl, rfl⟩
  go_wp2
  go_ret
  exact ⟨rfl, rfl⟩
theorem two_conv (x y : Int) (w : World) : (convert 71 9 (.slice (some ⟨w.heap.size, 0, none⟩) 2 2)).run Try.prog (w.alloc (.cells #[.int .u8 x, .int .u8 y] 5)) = .ok (.string (strOfNums [x, y])) (w.alloc (.cells #[.int .u8 x, .int .u8 y] 5)) := by
  refine run_convert_bytes_arg _ 71 5 Try.underlying71 Try.underlying5 w.heap.size 0 2 2 [x, y] rfl ?_ 9 Try.underlying9
  intro i hi
  match i, hi with
  | 0, _ => simp
  | 1, _ => simp
theorem twoBytes_any (n : Int) (h0 : 0 ≤ n) (h1 : n ≤ 65535) (w : World) :
    Calls Try.prog 51 #[.int .i64 n] w fun e w' => e = .returned (.string (strOfNums (wrd n))) ∧ Below w.heap.size w w' := by
  have hc := two_conv (n % 256) (n / 256) w
  have he : n / 256 % 256 = n / 256 := by omega
  unfold wrd
  go_enter Try.func51, Try.ntmps51
  go_wp2
  go_ret
  exact ⟨rfl, (Below.refl _ _).alloc (Nat.le_refl _) _⟩
theorem wd_at (s : ByteArray) (k : Nat) (h : k + 1 < s.size) : wdOf (s.extract k s.size) = bt s k + 256 * bt s (k + 1) := by
  unfold wdOf
  rw [bt_extract _ k 0 (by omega), bt_extract _ k 1 (by omega), Nat.add_zero]
set_option maxHeartbeats 400000 in
theorem wordAt_any (s : ByteArray) (k : Nat) (w : World) (hk : k + 1 < s.size) (hs : s.size ≤ maxLen) :
    Calls Try.prog 60 #[.string s, .int .i64 (k : Int)] w fun e w' => e = .returned (.int .i64 (wdOf (s.extract k s.size))) ∧ ∃ q, w' = w.drewN q := by
  unfold maxLen at hs
  have x0 : ∀ W : World, (Instr.index 9 (.string s) (.int .i64 (k : Int))).run Try.prog W = .ok (.int .u8 (bt s k)) W := run_ix s k (by omega)
  have x1 : ∀ W : World, (Instr.index 9 (.string s) (.int .i64 ((k : Int) + 1))).run Try.prog W = .ok (.int .u8 (bt s (k + 1))) W := run_ix s (k + 1) (by omega)
  have b0 := bt_nonneg s k
  have b1 := bt_le s k
  have c0 := bt_nonneg s (k + 1)
  have c1 := bt_le s (k + 1)
  have HN : Hid (256 * bt s (k + 1) + bt s k = wdOf (s.extract k s.size)) := by show _ = _; rw [wd_at s k hk]; omega
  generalize wdOf (s.extract k s.size) = N at *
  generalize bt s (k + 1) = y at *
  generalize bt s k = x at *
  go_enter Try.func60, Try.ntmps60
  go_wp2_with fail
  go_quiet (fail)
  go_wp2
  go_ret
  rw [HN.out]
  exact ⟨rfl, _, rfl⟩
theorem between_any (n l m : Int) (b : Bool) (hb : inS l m n = b) (w : World) :
    Calls Try.prog 9 #[.int .i64 n, .int .i64 l, .int .i64 m] w fun e w' => e = .returned (.bool b) ∧ w = w' := by
  subst hb
  unfold inS
  go_enter Try.func9, Try.ntmps9
  go_wp2
  · rename_i h
    go_ret
    rw [show decide (l ≤ n) = true by simpa using h, Bool.true_and]
    exact ⟨rfl, rfl⟩
  · rename_i h
    go_ret
    rw [show decide (l ≤ n) = false by simp; omega, Bool.false_and]
    exact ⟨rfl, rfl⟩
theorem inS_one (c n : Int) : (n == c) = inS c c n := by
  rw [Bool.eq_iff_iff, inS_iff, beq_iff_eq]; omega
set_option maxHeartbeats 2000000 in
theorem askValue_any (k n : Int) (hk : isK k = true) (w : World) : Calls Try.prog 48 #[.int .i64 k, .int .i64 n] w fun e w' => e = .returned (.bool (inS (col k 2) (col k 3) n)) ∧ w = w' := by
  have HB : Hid (∀ (n l m : Int) (b : Bool), inS l m n = b → ∀ w : World, Calls Try.prog 9 #[.int .i64 n, .int .i64 l, .int .i64 m] w fun e w' => e = .returned (.bool b) ∧ w = w') := between_any
  rcases isK_cases hk with rfl | rfl | rfl | rfl | rfl | rfl | rfl | rfl | rfl | rfl | rfl | rfl | rfl | rfl
  · go_enter Try.func48, Try.ntmps48
    go_wp2
    go_ret
    exact ⟨ret_bool (inS_one 0 n), rfl⟩
  · go_enter Try.func48, Try.ntmps48
    go_wp2
    go_ret
    exact ⟨ret_bool (inS_one 0 n), rfl⟩
  · go_enter Try.func48, Try.ntmps48
    go_wp2
    go_ret
    exact ⟨ret_bool (inS_one 0 n), rfl⟩
  · go_enter Try.func48, Try.ntmps48
    go_wp2_with fail
    refine (HB.out n 0 127 _ rfl _).mono ?_
    rintro r u ⟨rfl, rfl⟩
    go_wp2
    go_ret
    exact ⟨ret_bool (rfl), rfl⟩
  · go_enter Try.func48, Try.ntmps48
    go_wp2_with fail
    refine (HB.out n 0 65535 _ rfl _).mono ?_
    rintro r u ⟨rfl, rfl⟩
    go_wp2
    go_ret
    exact ⟨ret_bool (rfl), rfl⟩
  · go_enter Try.func48, Try.ntmps48
    go_wp2_with fail
    refine (HB.out n 0 255 _ rfl _).mono ?_
    rintro r u ⟨rfl, rfl⟩
    go_wp2
    go_ret
    exact ⟨ret_bool (rfl), rfl⟩
  · go_enter Try.func48, Try.ntmps48
    go_wp2
    go_ret
    exact ⟨ret_bool (inS_one 0 n), rfl⟩
  · go_enter Try.func48, Try.ntmps48
    go_wp2
    go_ret
    exact ⟨ret_bool (inS_one 0 n), rfl⟩
  · go_enter Try.func48, Try.ntmps48
    go_wp2_with fail
    refine (HB.out n 0 31 _ rfl _).mono ?_
    rintro r u ⟨rfl, rfl⟩
    go_wp2
    go_ret
    exact ⟨ret_bool (rfl), rfl⟩
  · go_enter Try.func48, Try.ntmps48
    go_wp2_with fail
    refine (HB.out n 0 31 _ rfl _).mono ?_
    rintro r u ⟨rfl, rfl⟩
    go_wp2
    go_ret
    exact ⟨ret_bool (rfl), rfl⟩
  · go_enter Try.func48, Try.ntmps48
    go_wp2
    go_ret
    exact ⟨ret_bool (inS_one 0 n), rfl⟩
  · go_enter Try.func48, Try.ntmps48
    go_wp2
    go_ret
    exact ⟨ret_bool (inS_one 0 n), rfl⟩
  · go_enter Try.func48, Try.ntmps48
    go_wp2_with fail
    refine (HB.out n 0 65535 _ rfl _).mono ?_
    rintro r u ⟨rfl, rfl⟩
    go_wp2
    go_ret
    exact ⟨ret_bool (rfl), rfl⟩
  · go_enter Try.func48, Try.ntmps48
    go_wp2
    go_ret
    exact ⟨ret_bool (inS_one 512 n), rfl⟩
set_option maxHeartbeats 2000000 in
theorem askIndex_any (k n : Int) (hk : isK k = true) (w : World) : Calls Try.prog 49 #[.int .i64 k, .int .i64 n] w fun e w' => e = .returned (.bool (if te k then isE n else inS (col k 4) (col k 5) n)) ∧ w = w' := by
  have HB : Hid (∀ (n l m : Int) (b : Bool), inS l m n = b → ∀ w : World, Calls Try.prog 9 #[.int .i64 n, .int .i64 l, .int .i64 m] w fun e w' => e = .returned (.bool b) ∧ w = w') := between_any
  rcases isK_cases hk with rfl | rfl | rfl | rfl | rfl | rfl | rfl | rfl | rfl | rfl | rfl | rfl | rfl | rfl
  · go_enter Try.func49, Try.ntmps49
    go_wp2_with fail
    refine (HB.out 1 8 10 false rfl _).mono ?_
    rintro r u ⟨rfl, rfl⟩
    go_wp2_with fail
    refine (HB.out 1 11 14 false rfl _).mono ?_
    rintro r u ⟨rfl, rfl⟩
    go_wp2
    go_ret
    exact ⟨ret_bool (inS_one 0 n), rfl⟩
  · cases hb : inS 0 15 n
    · have HB1 : Hid (∀ w : World, Calls Try.prog 9 #[.int .i64 n, .int .i64 0, .int .i64 15] w fun e w' => e = .returned (.bool false) ∧ w = w') := HB.out n 0 15 false hb
      go_enter Try.func49, Try.ntmps49
      go_wp2_with fail
      refine (HB1.out _).mono ?_
      rintro r u ⟨rfl, rfl⟩
      go_wp2_with fail
      refine (HB.out n 128 143 _ rfl _).mono ?_
      rintro r u ⟨rfl, rfl⟩
      go_wp2
      go_ret
      exact ⟨ret_bool (by show _ = isE n; unfold isE; rw [hb]; rfl), rfl⟩
    · have HB1 : Hid (∀ w : World, Calls Try.prog 9 #[.int .i64 n, .int .i64 0, .int .i64 15] w fun e w' => e = .returned (.bool true) ∧ w = w') := HB.out n 0 15 true hb
      go_enter Try.func49, Try.ntmps49
      go_wp2_with fail
      refine (HB1.out _).mono ?_
      rintro r u ⟨rfl, rfl⟩
      go_wp2
      go_ret
      exact ⟨ret_bool (by show _ = isE n; unfold isE; rw [hb]; rfl), rfl⟩
  · cases hb : inS 0 15 n
    · have HB1 : Hid (∀ w : World, Calls Try.prog 9 #[.int .i64 n, .int .i64 0, .int .i64 15] w fun e w' => e = .returned (.bool false) ∧ w = w') := HB.out n 0 15 false hb
      go_enter Try.func49, Try.ntmps49
      go_wp2_with fail
      refine (HB1.out _).mono ?_
      rintro r u ⟨rfl, rfl⟩
      go_wp2_with fail
      refine (HB.out n 128 143 _ rfl _).mono ?_
      rintro r u ⟨rfl, rfl⟩
      go_wp2
      go_ret
      exact ⟨ret_bool (by show _ = isE n; unfold isE; rw [hb]; rfl), rfl⟩
    · have HB1 : Hid (∀ w : World, Calls Try.prog 9 #[.int .i64 n, .int .i64 0, .int .i64 15] w fun e w' => e = .returned (.bool true) ∧ w = w') := HB.out n 0 15 true hb
      go_enter Try.func49, Try.ntmps49
      go_wp2_with fail
      refine (HB1.out _).mono ?_
      rintro r u ⟨rfl, rfl⟩
      go_wp2
      go_ret
      exact ⟨ret_bool (by show _ = isE n; unfold isE; rw [hb]; rfl), rfl⟩
  · go_enter Try.func49, Try.ntmps49
    go_wp2_with fail
    refine (HB.out 4 8 10 false rfl _).mono ?_
    rintro r u ⟨rfl, rfl⟩
    go_wp2_with fail
    refine (HB.out 4 11 14 false rfl _).mono ?_
    rintro r u ⟨rfl, rfl⟩
    go_wp2
    go_ret
    exact ⟨ret_bool (inS_one 0 n), rfl⟩
  · go_enter Try.func49, Try.ntmps49
    go_wp2_with fail
    refine (HB.out n 0 65535 _ rfl _).mono ?_
    rintro r u ⟨rfl, rfl⟩
    go_wp2
    go_ret
    exact ⟨ret_bool (rfl), rfl⟩
  · go_enter Try.func49, Try.ntmps49
    go_wp2_with fail
    refine (HB.out 6 8 10 false rfl _).mono ?_
    rintro r u ⟨rfl, rfl⟩
    go_wp2_with fail
    refine (HB.out 6 11 14 false rfl _).mono ?_
    rintro r u ⟨rfl, rfl⟩
    go_wp2
    go_ret
    exact ⟨ret_bool (inS_one 0 n), rfl⟩
  · go_enter Try.func49, Try.ntmps49
    go_wp2_with fail
    refine (HB.out 7 8 10 false rfl _).mono ?_
    rintro r u ⟨rfl, rfl⟩
    go_wp2_with fail
    refine (HB.out 7 11 14 false rfl _).mono ?_
    rintro r u ⟨rfl, rfl⟩
    go_wp2
    go_ret
    exact ⟨ret_bool (inS_one 0 n), rfl⟩
  · go_enter Try.func49, Try.ntmps49
    go_wp2_with fail
    refine (HB.out 8 8 10 true rfl _).mono ?_
    rintro r u ⟨rfl, rfl⟩
    go_wp2_with fail
    refine (HB.out n 1 15 _ rfl _).mono ?_
    rintro r u ⟨rfl, rfl⟩
    go_wp2
    go_ret
    exact ⟨ret_bool (rfl), rfl⟩
  · go_enter Try.func49, Try.ntmps49
    go_wp2_with fail
    refine (HB.out 9 8 10 true rfl _).mono ?_
    rintro r u ⟨rfl, rfl⟩
    go_wp2_with fail
    refine (HB.out n 1 15 _ rfl _).mono ?_
    rintro r u ⟨rfl, rfl⟩
    go_wp2
    go_ret
    exact ⟨ret_bool (rfl), rfl⟩
  · go_enter Try.func49, Try.ntmps49
    go_wp2_with fail
    refine (HB.out 10 8 10 true rfl _).mono ?_
    rintro r u ⟨rfl, rfl⟩
    go_wp2_with fail
    refine (HB.out n 1 15 _ rfl _).mono ?_
    rintro r u ⟨rfl, rfl⟩
    go_wp2
    go_ret
    exact ⟨ret_bool (rfl), rfl⟩
  · go_enter Try.func49, Try.ntmps49
    go_wp2_with fail
    refine (HB.out 11 8 10 false rfl _).mono ?_
    rintro r u ⟨rfl, rfl⟩
    go_wp2_with fail
    refine (HB.out 11 11 14 true rfl _).mono ?_
    rintro r u ⟨rfl, rfl⟩
    go_wp2_with fail
    refine (HB.out n 0 255 _ rfl _).mono ?_
    rintro r u ⟨rfl, rfl⟩
    go_wp2
    go_ret
    exact ⟨ret_bool (rfl), rfl⟩
  · go_enter Try.func49, Try.ntmps49
    go_wp2_with fail
    refine (HB.out 12 8 10 false rfl _).mono ?_
    rintro r u ⟨rfl, rfl⟩
    go_wp2_with fail
    refine (HB.out 12 11 14 true rfl _).mono ?_
    rintro r u ⟨rfl, rfl⟩
    go_wp2_with fail
    refine (HB.out n 0 255 _ rfl _).mono ?_
    rintro r u ⟨rfl, rfl⟩
    go_wp2
    go_ret
    exact ⟨ret_bool (rfl), rfl⟩
  · go_enter Try.func49, Try.ntmps49
    go_wp2_with fail
    refine (HB.out 13 8 10 false rfl _).mono ?_
    rintro r u ⟨rfl, rfl⟩
    go_wp2_with fail
    refine (HB.out 13 11 14 true rfl _).mono ?_
    rintro r u ⟨rfl, rfl⟩
    go_wp2_with fail
    refine (HB.out n 0 255 _ rfl _).mono ?_
    rintro r u ⟨rfl, rfl⟩
    go_wp2
    go_ret
    exact ⟨ret_bool (rfl), rfl⟩
  · go_enter Try.func49, Try.ntmps49
    go_wp2_with fail
    refine (HB.out 14 8 10 false rfl _).mono ?_
    rintro r u ⟨rfl, rfl⟩
    go_wp2_with fail
    refine (HB.out 14 11 14 true rfl _).mono ?_
    rintro r u ⟨rfl, rfl⟩
    go_wp2_with fail
    refine (HB.out n 0 255 _ rfl _).mono ?_
    rintro r u ⟨rfl, rfl⟩
    go_wp2
    go_ret
    exact ⟨ret_bool (rfl), rfl⟩
set_option maxHeartbeats 2000000 in
theorem askLength_any (k n : Int) (hk : isK k = true) (w : World) : Calls Try.prog 50 #[.int .i64 k, .int .i64 n] w fun e w' => e = .returned (.bool (inS (col k 6) (col k 7) n)) ∧ w = w' := by
  have HB : Hid (∀ (n l m : Int) (b : Bool), inS l m n = b → ∀ w : World, Calls Try.prog 9 #[.int .i64 n, .int .i64 l, .int .i64 m] w fun e w' => e = .returned (.bool b) ∧ w = w') := between_any
  rcases isK_cases hk with rfl | rfl | rfl | rfl | rfl | rfl | rfl | rfl | rfl | rfl | rfl | rfl | rfl | rfl
  · go_enter Try.func50, Try.ntmps50
    go_wp2_with fail
    refine (HB.out 1 1 14 true rfl _).mono ?_
    rintro r u ⟨rfl, rfl⟩
    go_wp2
    go_ret
    exact ⟨ret_bool (Eq.trans (congrArg (fun c : Int => n == c) (show _ = (2 : Int) by decide +kernel)) (inS_one 2 n)), rfl⟩
  · go_enter Try.func50, Try.ntmps50
    go_wp2_with fail
    refine (HB.out 2 1 14 true rfl _).mono ?_
    rintro r u ⟨rfl, rfl⟩
    go_wp2
    go_ret
    exact ⟨ret_bool (Eq.trans (congrArg (fun c : Int => n == c) (show _ = (0 : Int) by decide +kernel)) (inS_one 0 n)), rfl⟩
  · go_enter Try.func50, Try.ntmps50
    go_wp2_with fail
    refine (HB.out 3 1 14 true rfl _).mono ?_
    rintro r u ⟨rfl, rfl⟩
    go_wp2
    go_ret
    exact ⟨ret_bool (Eq.trans (congrArg (fun c : Int => n == c) (show _ = (0 : Int) by decide +kernel)) (inS_one 0 n)), rfl⟩
  · go_enter Try.func50, Try.ntmps50
    go_wp2_with fail
    refine (HB.out 4 1 14 true rfl _).mono ?_
    rintro r u ⟨rfl, rfl⟩
    go_wp2
    go_ret
    exact ⟨ret_bool (Eq.trans (congrArg (fun c : Int => n == c) (show _ = (0 : Int) by decide +kernel)) (inS_one 0 n)), rfl⟩
  · go_enter Try.func50, Try.ntmps50
    go_wp2_with fail
    refine (HB.out n 0 65535 _ rfl _).mono ?_
    rintro r u ⟨rfl, rfl⟩
    go_wp2
    go_ret
    exact ⟨ret_bool (rfl), rfl⟩
  · go_enter Try.func50, Try.ntmps50
    go_wp2_with fail
    refine (HB.out 6 1 14 true rfl _).mono ?_
    rintro r u ⟨rfl, rfl⟩
    go_wp2
    go_ret
    exact ⟨ret_bool (Eq.trans (congrArg (fun c : Int => n == c) (show _ = (0 : Int) by decide +kernel)) (inS_one 0 n)), rfl⟩
  · go_enter Try.func50, Try.ntmps50
    go_wp2_with fail
    refine (HB.out 7 1 14 true rfl _).mono ?_
    rintro r u ⟨rfl, rfl⟩
    go_wp2
    go_ret
    exact ⟨ret_bool (Eq.trans (congrArg (fun c : Int => n == c) (show _ = (1 : Int) by decide +kernel)) (inS_one 1 n)), rfl⟩
  · go_enter Try.func50, Try.ntmps50
    go_wp2_with fail
    refine (HB.out 8 1 14 true rfl _).mono ?_
    rintro r u ⟨rfl, rfl⟩
    go_wp2
    go_ret
    exact ⟨ret_bool (Eq.trans (congrArg (fun c : Int => n == c) (show _ = (4 : Int) by decide +kernel)) (inS_one 4 n)), rfl⟩
  · go_enter Try.func50, Try.ntmps50
    go_wp2_with fail
    refine (HB.out 9 1 14 true rfl _).mono ?_
    rintro r u ⟨rfl, rfl⟩
    go_wp2
    go_ret
    exact ⟨ret_bool (Eq.trans (congrArg (fun c : Int => n == c) (show _ = (0 : Int) by decide +kernel)) (inS_one 0 n)), rfl⟩
  · go_enter Try.func50, Try.ntmps50
    go_wp2_with fail
    refine (HB.out 10 1 14 true rfl _).mono ?_
    rintro r u ⟨rfl, rfl⟩
    go_wp2
    go_ret
    exact ⟨ret_bool (Eq.trans (congrArg (fun c : Int => n == c) (show _ = (0 : Int) by decide +kernel)) (inS_one 0 n)), rfl⟩
  · go_enter Try.func50, Try.ntmps50
    go_wp2_with fail
    refine (HB.out 11 1 14 true rfl _).mono ?_
    rintro r u ⟨rfl, rfl⟩
    go_wp2
    go_ret
    exact ⟨ret_bool (Eq.trans (congrArg (fun c : Int => n == c) (show _ = (0 : Int) by decide +kernel)) (inS_one 0 n)), rfl⟩
  · go_enter Try.func50, Try.ntmps50
    go_wp2_with fail
    refine (HB.out 12 1 14 true rfl _).mono ?_
    rintro r u ⟨rfl, rfl⟩
    go_wp2
    go_ret
    exact ⟨ret_bool (Eq.trans (congrArg (fun c : Int => n == c) (show _ = (1 : Int) by decide +kernel)) (inS_one 1 n)), rfl⟩
  · go_enter Try.func50, Try.ntmps50
    go_wp2_with fail
    refine (HB.out 13 1 14 true rfl _).mono ?_
    rintro r u ⟨rfl, rfl⟩
    go_wp2
    go_ret
    exact ⟨ret_bool (Eq.trans (congrArg (fun c : Int => n == c) (show _ = (0 : Int) by decide +kernel)) (inS_one 0 n)), rfl⟩
  · go_enter Try.func50, Try.ntmps50
    go_wp2_with fail
    refine (HB.out 14 1 14 true rfl _).mono ?_
    rintro r u ⟨rfl, rfl⟩
    go_wp2
    go_ret
    exact ⟨ret_bool (Eq.trans (congrArg (fun c : Int => n == c) (show _ = (1 : Int) by decide +kernel)) (inS_one 1 n)), rfl⟩
end Go.Proofs.Ytonheibhbilhhaa.setup

/- plugref's setup: what AskText answers. -/
namespace Go.Proofs.Ytonheibhbilhhaa.setup
open Go.RowKit Go.PlainAid Go.Proofs.Ytonheibhbilhhaa.lane Go.Proofs.Ytonheibhbilhhaa.desc
set_option linter.unusedVariables false
set_option linter.unusedSimpArgs false

abbrev heads : ByteArray := ⟨#[128, 0, 2, 1, 2, 3, 0, 5, 128, 6, 0, 9, 128, 8, 163, 0, 35, 3, 35, 1, 33, 255, 161, 254, 33, 10, 33, 9]⟩
theorem head_cut : ∀ j : Fin 14, heads.extract (2 * j.val) (2 * j.val + 2) = strOfNums [col ((j.val : Int) + 1) 0, col ((j.val : Int) + 1) 1] := by decide +kernel
theorem head_run (k : Int) (hk : isK k = true) (W : World) : (Instr.slice 9 (.string heads) (some (.int .i64 (2 * k - 2))) (some (.int .i64 (2 * k))) none).run Try.prog W = .ok (.string (strOfNums [col k 0, col k 1])) W := by
  have h := inS_iff.1 hk
  have e := head_cut ⟨(k - 1).toNat, by omega⟩
  simp only [show (((k - 1).toNat : Nat) : Int) + 1 = k by omega] at e
  have := run_slice_string (P := Try.prog) (w := W) 9 heads .i64 .i64 (2 * k - 2) (2 * k) Try.underlying9 (by omega) (by omega) (by show _ ≤ (28 : Int); omega)
  rw [this, ← e, show (2 * k - 2).toNat = 2 * (k - 1).toNat by omega, show (2 * k).toNat = 2 * (k - 1).toNat + 2 by omega]
theorem ask_text (k v i l : Int) : strOfNums [col k 0, col k 1] ++ strOfNums (wrd v) ++ strOfNums (wrd i) ++ strOfNums (wrd l) = strOfNums (txt k v i l) := by
  rw [← str_append, ← str_append, ← str_append]
  rfl
abbrev BtK (k : Int) (b : Bool) : Prop := ∀ w : World, Calls Try.prog 9 #[.int .i64 k, .int .i64 1, .int .i64 14] w fun e w' => e = .returned (.bool b) ∧ w = w'
abbrev AvK (k v : Int) (b : Bool) : Prop := ∀ w : World, Calls Try.prog 48 #[.int .i64 k, .int .i64 v] w fun e w' => e = .returned (.bool b) ∧ w = w'
abbrev AiK (k v : Int) (b : Bool) : Prop := ∀ w : World, Calls Try.prog 49 #[.int .i64 k, .int .i64 v] w fun e w' => e = .returned (.bool b) ∧ w = w'
abbrev AlK (k v : Int) (b : Bool) : Prop := ∀ w : World, Calls Try.prog 50 #[.int .i64 k, .int .i64 v] w fun e w' => e = .returned (.bool b) ∧ w = w'
set_option maxHeartbeats 2000000 in
theorem askText_no (k v i l : Int) (h : good k v i l = false) (w : World) :
    Calls Try.prog 26 #[ask k v i l] w fun r w' => r = .returned (.tuple #[.string ⟨#[]⟩, .int .i64 1]) ∧ Below w.heap.size w w' := by
  have hcs : BtK k false ∨ (BtK k true ∧ (AvK k v false ∨ (AvK k v true ∧ (AiK k i false ∨ (AiK k i true ∧ AlK k l false))))) := by
    unfold good at h
    cases hk : isK k with
    | false => exact .inl (between_any k 1 14 false hk)
    | true =>
      rw [hk, Bool.true_and] at h
      refine .inr ⟨between_any k 1 14 true hk, ?_⟩
      have a1 := askValue_any k v hk
      have a2 := askIndex_any k i hk
      have a3 := askLength_any k l hk
      unfold fitB at h
      generalize inS (col k 2) (col k 3) v = b1 at *
      generalize inS (col k 6) (col k 7) l = b3 at *
      generalize (if te k then isE i else inS (col k 4) (col k 5) i) = b2 at *
      cases b1 <;> cases b2 <;> cases b3 <;> simp at h
      all_goals first | exact .inl a1 | exact .inr ⟨a1, .inl a2⟩ | exact .inr ⟨a1, .inr ⟨a2, a3⟩⟩
  clear h
  rcases hcs with h1 | ⟨h1, h2 | ⟨h2, h3 | ⟨h3, h4⟩⟩⟩
  · have H1 : Hid (BtK k false) := h1
    clear h1
    go_enter Try.func26, Try.ntmps26
    go_wp2_with fail
    refine (H1.out _).mono ?_
    rintro r u ⟨rfl, rfl⟩
    go_wp2
    go_ret2
    exact ⟨rfl, balloc _ _⟩
  · have H1 : Hid (BtK k true) := h1
    have H2 : Hid (AvK k v false) := h2
    clear h1 h2
    go_enter Try.func26, Try.ntmps26
    go_wp2_with fail
    refine (H1.out _).mono ?_
    rintro r u ⟨rfl, rfl⟩
    go_wp2_with fail
    refine (H2.out _).mono ?_
    rintro r u ⟨rfl, rfl⟩
    go_wp2
    go_ret2
    exact ⟨rfl, balloc _ _⟩
  · have H1 : Hid (BtK k true) := h1
    have H2 : Hid (AvK k v true) := h2
    have H3 : Hid (AiK k i false) := h3
    clear h1 h2 h3
    go_enter Try.func26, Try.ntmps26
    go_wp2_with fail
    refine (H1.out _).mono ?_
    rintro r u ⟨rfl, rfl⟩
    go_wp2_with fail
    refine (H2.out _).mono ?_
    rintro r u ⟨rfl, rfl⟩
    go_wp2_with fail
    refine (H3.out _).mono ?_
    rintro r u ⟨rfl, rfl⟩
    go_wp2
    go_ret2
    exact ⟨rfl, balloc _ _⟩
  · have H1 : Hid (BtK k true) := h1
    have H2 : Hid (AvK k v true) := h2
    have H3 : Hid (AiK k i true) := h3
    have H4 : Hid (AlK k l false) := h4
    clear h1 h2 h3 h4
    go_enter Try.func26, Try.ntmps26
    go_wp2_with fail
    refine (H1.out _).mono ?_
    rintro r u ⟨rfl, rfl⟩
    go_wp2_with fail
    refine (H2.out _).mono ?_
    rintro r u ⟨rfl, rfl⟩
    go_wp2_with fail
    refine (H3.out _).mono ?_
    rintro r u ⟨rfl, rfl⟩
    go_wp2_with fail
    refine (H4.out _).mono ?_
    rintro r u ⟨rfl, rfl⟩
    go_wp2
    go_ret2
    exact ⟨rfl, balloc _ _⟩
set_option maxRecDepth 100000 in
set_option maxHeartbeats 4000000 in
theorem askText_ok (k v i l : Int) (h : good k v i l = true) (w : World) :
    Calls Try.prog 26 #[ask k v i l] w fun r w' => r = .returned (.tuple #[.string (strOfNums (txt k v i l)), .int .i64 0]) ∧ Below w.heap.size w w' := by
  obtain ⟨hk, hv, hi, hl⟩ := good_words h
  have hK : isK k = true := inS_iff.2 hk
  have hf : fitB k v i l = true := by unfold good at h; rw [hK, Bool.true_and] at h; exact h
  unfold fitB at hf
  rw [Bool.and_eq_true, Bool.and_eq_true] at hf
  have H1 : Hid (BtK k true) := between_any k 1 14 true hK
  have H2 : Hid (AvK k v true) := by have := askValue_any k v hK; rw [hf.1.2] at this; exact this
  have H3 : Hid (AiK k i true) := by have := askIndex_any k i hK; rw [hf.1.1] at this; exact this
  have H4 : Hid (AlK k l true) := by have := askLength_any k l hK; rw [hf.2] at this; exact this
  have hsl := head_run k hK
  have m1 : IntKind.i64.wrap (2 * k) = 2 * k := by rw [IntKind.wrap_i64]; omega
  have m2 : IntKind.i64.wrap (2 * k - 2) = 2 * k - 2 := by rw [IntKind.wrap_i64]; omega
  have n1 : wrap64 (2 * k) = 2 * k := by unfold wrap64; omega
  have n2 : wrap64 (2 * k - 2) = 2 * k - 2 := by unfold wrap64; omega
  have HTv : Hid (∀ w : World, Calls Try.prog 51 #[.int .i64 v] w fun e w' => e = .returned (.string (strOfNums (wrd v))) ∧ Below w.heap.size w w') := twoBytes_any v hv.1 hv.2
  have HTi : Hid (∀ w : World, Calls Try.prog 51 #[.int .i64 i] w fun e w' => e = .returned (.string (strOfNums (wrd i))) ∧ Below w.heap.size w w') := twoBytes_any i hi.1 hi.2
  have HTl : Hid (∀ w : World, Calls Try.prog 51 #[.int .i64 l] w fun e w' => e = .returned (.string (strOfNums (wrd l))) ∧ Below w.heap.size w w') := twoBytes_any l hl.1 hl.2
  have HE : Hid (strOfNums [col k 0, col k 1] ++ strOfNums (wrd v) ++ strOfNums (wrd i) ++ strOfNums (wrd l) = strOfNums (txt k v i l)) := ask_text k v i l
  have s0 : (strOfNums [col k 0, col k 1]).size = 2 := str_size _
  have s1 : (strOfNums (wrd v)).size = 2 := str_size _
  have s2 : (strOfNums (wrd i)).size = 2 := str_size _
  have s3 : (strOfNums (wrd l)).size = 2 := str_size _
  have HP : Hid (∀ u, Below (w.alloc (askc k v i l)).heap.size (w.alloc (askc k v i l)) u → Ak u w.heap.size k v i l ∧ Below w.heap.size w u) :=
    fun u hu => ⟨(ak_alloc w k v i l).below (by simp) hu, bsq (balloc _ _) hu⟩
  generalize strOfNums (txt k v i l) = R at *
  generalize strOfNums (wrd v) = Tv at *
  generalize strOfNums (wrd i) = Ti at *
  generalize strOfNums (wrd l) = Tl at *
  generalize strOfNums [col k 0, col k 1] = Th at *
  clear h hv hi hl hf hK
  go_enter Try.func26, Try.ntmps26
  go_wp2_with fail
  refine (H1.out _).mono ?_
  rintro r u ⟨rfl, rfl⟩
  go_wp2_with fail
  refine (H2.out _).mono ?_
  rintro r u ⟨rfl, rfl⟩
  go_wp2_with fail
  refine (H3.out _).mono ?_
  rintro r u ⟨rfl, rfl⟩
  go_wp2_with fail
  refine (H4.out _).mono ?_
  rintro r u ⟨rfl, rfl⟩
  go_wp2_with fail
  obtain ⟨W0, hW0⟩ : ∃ W0, w.alloc (askc k v i l) = W0 := ⟨_, rfl⟩
  rw [hW0] at HP ⊢
  have x0 : ∀ W, Below W0.heap.size W0 W → W.cell? ⟨w.heap.size, 0, none⟩ = some (.int .i64 k) := fun W hW => (HP.out W hW).1.c0
  have x1 : ∀ W, Below W0.heap.size W0 W → W.cell? ⟨w.heap.size, 1, none⟩ = some (.int .i64 v) := fun W hW => (HP.out W hW).1.c1
  have x2 : ∀ W, Below W0.heap.size W0 W → W.cell? ⟨w.heap.size, 2, none⟩ = some (.int .i64 i) := fun W hW => (HP.out W hW).1.c2
  have x3 : ∀ W, Below W0.heap.size W0 W → W.cell? ⟨w.heap.size, 3, none⟩ = some (.int .i64 l) := fun W hW => (HP.out W hW).1.c3
  refine wp_abs (fun a0 => a0.tmps.size = 52 ∧ (∀ h, a0.tmps[1]'h = .pointer (some ⟨w.heap.size, 0, none⟩))) ⟨rfl, fun _ => rfl⟩ ?_
  rintro a0 ⟨hsz, g1⟩ ha0
  refine wp_region_L (Cb W0) (by kernel_rfl) (by kernel_rfl) ((Below.refl _ _).drew) ?_
  refine lexb_plain (.pointer (some ⟨w.heap.size, 0, none⟩)) rfl (fun W hW => by simp [execOp, go_sem, hsz, g1]) ?_
  refine lexb_plain (.int .i64 k) rfl (fun W hW => by simp [execOp, go_sem, hsz, g1, x0 W hW]) ?_
  refine lexb_plain (.int .i64 (2 * k)) rfl (fun W hW => by simp [execOp, go_sem, hsz, g1, m1, n1]) ?_
  refine lexb_plain (.int .i64 (2 * k - 2)) rfl (fun W hW => by simp [execOp, go_sem, hsz, g1, m2, n2]) ?_
  refine lexb_plain (.pointer (some ⟨w.heap.size, 0, none⟩)) rfl (fun W hW => by simp [execOp, go_sem, hsz, g1]) ?_
  refine lexb_plain (.int .i64 k) rfl (fun W hW => by simp [execOp, go_sem, hsz, g1, x0 W hW]) ?_
  refine lexb_plain (.int .i64 (2 * k)) rfl (fun W hW => by simp [execOp, go_sem, hsz, g1, m1, n1]) ?_
  refine lexb_plain (.string Th) rfl (fun W hW => by simp [execOp, go_sem, hsz, g1, hsl]) ?_
  refine lexb_plain (.pointer (some ⟨w.heap.size, 1, none⟩)) rfl (fun W hW => by simp [execOp, go_sem, hsz, g1]) ?_
  refine lexb_plain (.int .i64 v) rfl (fun W hW => by simp [execOp, go_sem, hsz, g1, x1 W hW]) ?_
  refine lexb_call (.string Tv) 51 #[.int .i64 v] rfl (fun W hW => by simp [execOp, go_sem, hsz, g1]) (fun W hW => HTv.out W) ?_
  refine lexb_plain (.string (Th ++ Tv)) rfl (fun W hW => by simp [execOp, go_sem, hsz, g1]; omega) ?_
  refine lexb_plain (.pointer (some ⟨w.heap.size, 2, none⟩)) rfl (fun W hW => by simp [execOp, go_sem, hsz, g1]) ?_
  refine lexb_plain (.int .i64 i) rfl (fun W hW => by simp [execOp, go_sem, hsz, g1, x2 W hW]) ?_
  refine lexb_call (.string Ti) 51 #[.int .i64 i] rfl (fun W hW => by simp [execOp, go_sem, hsz, g1]) (fun W hW => HTi.out W) ?_
  refine lexb_plain (.string (Th ++ Tv ++ Ti)) rfl (fun W hW => by simp [execOp, go_sem, hsz, g1]; omega) ?_
  refine lexb_plain (.pointer (some ⟨w.heap.size, 3, none⟩)) rfl (fun W hW => by simp [execOp, go_sem, hsz, g1]) ?_
  refine lexb_plain (.int .i64 l) rfl (fun W hW => by simp [execOp, go_sem, hsz, g1, x3 W hW]) ?_
  refine lexb_call (.string Tl) 51 #[.int .i64 l] rfl (fun W hW => by simp [execOp, go_sem, hsz, g1]) (fun W hW => HTl.out W) ?_
  refine lexb_plain (.string (Th ++ Tv ++ Ti ++ Tl)) rfl (fun W hW => by simp [execOp, go_sem, hsz, g1]; omega) ?_
  refine lexb_plain (.string (Th ++ Tv ++ Ti ++ Tl)) rfl (fun W hW => by simp [execOp, go_sem, hsz, g1]) ?_
  refine lexb_plain (.int .i64 0) rfl (fun W hW => by simp [execOp, go_sem, hsz, g1]) ?_
  intro w' hw'
  have HBw : Hid (Below w.heap.size w w') := (HP.out w' hw').2
  clear hw' x0 x1 x2 x3 HTv HTi HTl hsl
  subst ha0
  clear hsz g1
  go_simp
  go_wp2
  go_ret2
  rw [HE.out]
  exact ⟨rfl, HBw.out⟩
theorem askText_any (k v i l : Int) (w : World) :
    Calls Try.prog 26 #[ask k v i l] w fun r w' => r = .returned (.tuple #[.string (wrT k v i l), .int .i64 (wrC k v i l)]) ∧ Below w.heap.size w w' := by
  unfold wrT wrC
  cases hg : good k v i l with
  | true => rw [if_pos rfl, if_pos rfl]; exact askText_ok k v i l hg w
  | false => rw [if_neg (by simp), if_neg (by simp)]; exact askText_no k v i l hg w
end Go.Proofs.Ytonheibhbilhhaa.setup
