/- plugref's setup: what the small functions answer: Between, askValue, askIndex, askLength, TwoBytes, WordAt, HasPrefix. -/
import Derived.Test.YtonheibhbilhhaaZAj
import Derived.Test.YtonheibhbilhhaaSetQ
namespace Go.Proofs.Ytonheibhbilhhaa.setup
open Go.RowKit Go.PlainAid Go.Proofs.Ytonheibhbilhhaa.lane Go.Proofs.Ytonheibhbilhhaa.desc
set_option linter.unusedVariables false
set_option linter.unusedSimpArgs false

theorem run_ix (s : ByteArray) (k : Nat) (h : k < s.size) (W : World) : (Instr.index 9 (.string s) (.int .i64 (k : Int))).run Try.prog W = .ok (.int .u8 (bt s k)) W := by
  have e : bt s k = ((s[k]'h).toNat : Int) := by unfold bt; rw [dif_pos h]
  rw [e]
  simp [Instr.index, asIntOf, run_underlying Try.underlying9, h, Result.andThen]
theorem nums_inj {a b : ByteArray} (h : nums a = nums b) : a = b := by rw [← str_nums a, h, str_nums]
theorem ext_nums (s p : ByteArray) (h : (nums s).take p.size = nums p) : s.extract 0 p.size = p := by
  apply nums_inj
  rw [nums_extract, List.drop_zero, h]
theorem ext_not (s p : ByteArray) (h : ¬ (nums s).take p.size = nums p) : ¬ s.extract 0 p.size = p := by
  intro c
  apply h
  have := congrArg nums c
  rwa [nums_extract, List.drop_zero] at this
set_option maxHeartbeats 400000 in
theorem hasPrefixLite (s p : ByteArray) (w : World) (hs : s.size ≤ maxLen) (hp : p.size ≤ maxLen) :
    Calls Try.prog 75 #[.string s, .string p] w fun e w' => e = .returned (.bool (decide ((nums s).take p.size = nums p))) ∧ w = w' := by
  unfold maxLen at hs hp
  by_cases hl : p.size ≤ s.size
  · by_cases h : (nums s).take p.size = nums p
    · have e := ext_nums s p h
      rw [decide_eq_true h]
      clear h
      go_enter Try.func75, Try.ntmps75
      go_wp2
      go_ret
      exact ⟨rfl, rfl⟩
    · have e : ((s.extract 0 p.size).toList == p.toList) = false := by rw [toList_beq]; exact decide_eq_false (ext_not s p h)
      rw [decide_eq_false h]
      clear h
      go_enter Try.func75, Try.ntmps75
      go_wp2
      go_ret
      exact ⟨rfl, rfl⟩
  · have h : ¬ (nums s).take p.size = nums p := by
      intro c
      have := congrArg List.length c
      rw [List.length_take, nums_length, nums_length] at this
      omega
    rw [decide_eq_false h]
    clear h
    go_enter Try.func75, Try.ntmps75
    go_wp2
    go_ret
    exact ⟨rfl, rfl⟩
theorem hasPrefix_any (s p : ByteArray) (w : World) (hs : s.size ≤ maxLen) (hp : p.size ≤ maxLen) :
    Calls Try.prog 57 #[.string s, .string p] w fun e w' => e = .returned (.bool (decide ((nums s).take p.size = nums p))) ∧ w = w' := by
  have H : Hid (∀ w, Calls Try.prog 75 #[.string s, .string p] w fun e w' => e = .returned (.bool (decide ((nums s).take p.size = nums p))) ∧ w = w') := fun w => hasPrefixLite s p w hs hp
  go_enter Try.func57, Try.ntmps57
  go_wp2_with fail
  refine (H.out _).mono ?_
  rintro e w' ⟨rfl, rfl⟩
  go_wp2
  go_ret
  exact ⟨rfl, rfl⟩
theorem two_conv (x y : Int) (w : World) : (convert 71 9 (.slice (some ⟨w.heap.size, 0, none⟩) 2 2)).run Try.prog (w.alloc (.cells #[.int .u8 x, .int .u8 y] 5)) = .ok (.string (strOfNums [x, y])) (w.alloc (.cells #[.int .u8 x, .int .u8 y] 5)) := by
  refine run_convert_bytes_arg _ 71 5 Try.underlying71 Try.underlying5 w.heap.size 0 2 2 [x, y] rfl ?_ 9 Try.underlying9
  intro i hi
  match i, hi with
  | 0, _ => simp
  | 1, _ => simp
theorem twoBytes_any (n : Int) (h0 : 0 ≤ n) (h1 : n ≤ 65535) (w : World) :
    Calls Try.prog 51 #[.int .i64 n] w fun e w' => e = .returned (.string (strOfNums (wrd n))) ∧ Below w.heap.size w w' := by
  have hc := two_conv (n % 256) (n / 256) w
  have he : n / 256 % 256 = n / 256 := by omega
  unfold wrd
  go_enter Try.func51, Try.ntmps51
  go_wp2
  go_ret
  exact ⟨rfl, (Below.refl _ _).alloc (Nat.le_refl _) _⟩
theorem wd_at (s : ByteArray) (k : Nat) (h : k + 1 < s.size) : wdOf (s.extract k s.size) = bt s k + 256 * bt s (k + 1) := by
  unfold wdOf
  rw [bt_extract _ k 0 (by omega), bt_extract _ k 1 (by omega), Nat.add_zero]
set_option maxHeartbeats 400000 in
theorem wordAt_any (s : ByteArray) (k : Nat) (w : World) (hk : k + 1 < s.size) (hs : s.size ≤ maxLen) :
    Calls Try.prog 60 #[.string s, .int .i64 (k : Int)] w fun e w' => e = .returned (.int .i64 (wdOf (s.extract k s.size))) ∧ ∃ q, w' = w.drewN q := by
  unfold maxLen at hs
  have x0 : ∀ W : World, (Instr.index 9 (.string s) (.int .i64 (k : Int))).run Try.prog W = .ok (.int .u8 (bt s k)) W := run_ix s k (by omega)
  have x1 : ∀ W : World, (Instr.index 9 (.string s) (.int .i64 ((k : Int) + 1))).run Try.prog W = .ok (.int .u8 (bt s (k + 1))) W := run_ix s (k + 1) (by omega)
  have b0 := bt_nonneg s k
  have b1 := bt_le s k
  have c0 := bt_nonneg s (k + 1)
  have c1 := bt_le s (k + 1)
  have HN : Hid (256 * bt s (k + 1) + bt s k = wdOf (s.extract k s.size)) := by show _ = _; rw [wd_at s k hk]; omega
  generalize wdOf (s.extract k s.size) = N at *
  generalize bt s (k + 1) = y at *
  generalize bt s k = x at *
  go_enter Try.func60, Try.ntmps60
  go_wp2_with fail
  go_quiet (fail)
  go_wp2
  go_ret
  rw [HN.out]
  exact ⟨rfl, _, rfl⟩
theorem between_any (n l m : Int) (b : Bool) (hb : inS l m n = b) (w : World) :
    Calls Try.prog 9 #[.int .i64 n, .int .i64 l, .int .i64 m] w fun e w' => e = .returned (.bool b) ∧ w = w' := by
  subst hb
  unfold inS
  go_enter Try.func9, Try.ntmps9
  go_wp2
  · rename_i h
    go_ret
    rw [show decide (l ≤ n) = true by simpa using h, Bool.true_and]
    exact ⟨rfl, rfl⟩
  · rename_i h
    go_ret
    rw [show decide (l ≤ n) = false by simp; omega, Bool.false_and]
    exact ⟨rfl, rfl⟩
theorem inS_one (c n : Int) : (n == c) = inS c c n := by
  rw [Bool.eq_iff_iff, inS_iff, beq_iff_eq]; omega
set_option maxHeartbeats 2000000 in
theorem askValue_any (k n : Int) (hk : isK k = true) (w : World) : Calls Try.prog 48 #[.int .i64 k, .int .i64 n] w fun e w' => e = .returned (.bool (inS (col k 2) (col k 3) n)) ∧ w = w' := by
  have HB : Hid (∀ (n l m : Int) (b : Bool), inS l m n = b → ∀ w : World, Calls Try.prog 9 #[.int .i64 n, .int .i64 l, .int .i64 m] w fun e w' => e = .returned (.bool b) ∧ w = w') := between_any
  rcases isK_cases hk with rfl | rfl | rfl | rfl | rfl | rfl | rfl | rfl | rfl | rfl | rfl | rfl | rfl | rfl
  · go_enter Try.func48, Try.ntmps48
    go_wp2
    go_ret
    exact ⟨ret_bool (inS_one 0 n), rfl⟩
  · go_enter Try.func48, Try.ntmps48
    go_wp2
    go_ret
    exact ⟨ret_bool (inS_one 0 n), rfl⟩
  · go_enter Try.func48, Try.ntmps48
    go_wp2
    go_ret
    exact ⟨ret_bool (inS_one 0 n), rfl⟩
  · go_enter Try.func48, Try.ntmps48
    go_wp2_with fail
    refine (HB.out n 0 127 _ rfl _).mono ?_
    rintro r u ⟨rfl, rfl⟩
    go_wp2
    go_ret
    exact ⟨ret_bool (rfl), rfl⟩
  · go_enter Try.func48, Try.ntmps48
    go_wp2_with fail
    refine (HB.out n 0 65535 _ rfl _).mono ?_
    rintro r u ⟨rfl, rfl⟩
    go_wp2
    go_ret
    exact ⟨ret_bool (rfl), rfl⟩
  · go_enter Try.func48, Try.ntmps48
    go_wp2_with fail
    refine (HB.out n 0 255 _ rfl _).mono ?_
    rintro r u ⟨rfl, rfl⟩
    go_wp2
    go_ret
    exact ⟨ret_bool (rfl), rfl⟩
  · go_enter Try.func48, Try.ntmps48
    go_wp2
    go_ret
    exact ⟨ret_bool (inS_one 0 n), rfl⟩
  · go_enter Try.func48, Try.ntmps48
    go_wp2
    go_ret
    exact ⟨ret_bool (inS_one 0 n), rfl⟩
  · go_enter Try.func48, Try.ntmps48
    go_wp2_with fail
    refine (HB.out n 0 31 _ rfl _).mono ?_
    rintro r u ⟨rfl, rfl⟩
    go_wp2
    go_ret
    exact ⟨ret_bool (rfl), rfl⟩
  · go_enter Try.func48, Try.ntmps48
    go_wp2_with fail
    refine (HB.out n 0 31 _ rfl _).mono ?_
    rintro r u ⟨rfl, rfl⟩
    go_wp2
    go_ret
    exact ⟨ret_bool (rfl), rfl⟩
  · go_enter Try.func48, Try.ntmps48
    go_wp2
    go_ret
    exact ⟨ret_bool (inS_one 0 n), rfl⟩
  · go_enter Try.func48, Try.ntmps48
    go_wp2
    go_ret
    exact ⟨ret_bool (inS_one 0 n), rfl⟩
  · go_enter Try.func48, Try.ntmps48
    go_wp2_with fail
    refine (HB.out n 0 65535 _ rfl _).mono ?_
    rintro r u ⟨rfl, rfl⟩
    go_wp2
    go_ret
    exact ⟨ret_bool (rfl), rfl⟩
  · go_enter Try.func48, Try.ntmps48
    go_wp2
    go_ret
    exact ⟨ret_bool (inS_one 512 n), rfl⟩
set_option maxHeartbeats 2000000 in
theorem askIndex_any (k n : Int) (hk : isK k = true) (w : World) : Calls Try.prog 49 #[.int .i64 k, .int .i64 n] w fun e w' => e = .returned (.bool (if te k then isE n else inS (col k 4) (col k 5) n)) ∧ w = w' := by
  have HB : Hid (∀ (n l m : Int) (b : Bool), inS l m n = b → ∀ w : World, Calls Try.prog 9 #[.int .i64 n, .int .i64 l, .int .i64 m] w fun e w' => e = .returned (.bool b) ∧ w = w') := between_any
  rcases isK_cases hk with rfl | rfl | rfl | rfl | rfl | rfl | rfl | rfl | rfl | rfl | rfl | rfl | rfl | rfl
  · go_enter Try.func49, Try.ntmps49
    go_wp2_with fail
    refine (HB.out 1 8 10 false rfl _).mono ?_
    rintro r u ⟨rfl, rfl⟩
    go_wp2_with fail
    refine (HB.out 1 11 14 false rfl _).mono ?_
    rintro r u ⟨rfl, rfl⟩
    go_wp2
    go_ret
    exact ⟨ret_bool (inS_one 0 n), rfl⟩
  · cases hb : inS 0 15 n
    · have HB1 : Hid (∀ w : World, Calls Try.prog 9 #[.int .i64 n, .int .i64 0, .int .i64 15] w fun e w' => e = .returned (.bool false) ∧ w = w') := HB.out n 0 15 false hb
      go_enter Try.func49, Try.ntmps49
      go_wp2_with fail
      refine (HB1.out _).mono ?_
      rintro r u ⟨rfl, rfl⟩
      go_wp2_with fail
      refine (HB.out n 128 143 _ rfl _).mono ?_
      rintro r u ⟨rfl, rfl⟩
      go_wp2
      go_ret
      exact ⟨ret_bool (by show _ = isE n; unfold isE; rw [hb]; rfl), rfl⟩
    · have HB1 : Hid (∀ w : World, Calls Try.prog 9 #[.int .i64 n, .int .i64 0, .int .i64 15] w fun e w' => e = .returned (.bool true) ∧ w = w') := HB.out n 0 15 true hb
      go_enter Try.func49, Try.ntmps49
      go_wp2_with fail
      refine (HB1.out _).mono ?_
      rintro r u ⟨rfl, rfl⟩
      go_wp2
      go_ret
      exact ⟨ret_bool (by show _ = isE n; unfold isE; rw [hb]; rfl), rfl⟩
  · cases hb : inS 0 15 n
    · have HB1 : Hid (∀ w : World, Calls Try.prog 9 #[.int .i64 n, .int .i64 0, .int .i64 15] w fun e w' => e = .returned (.bool false) ∧ w = w') := HB.out n 0 15 false hb
      go_enter Try.func49, Try.ntmps49
      go_wp2_with fail
      refine (HB1.out _).mono ?_
      rintro r u ⟨rfl, rfl⟩
      go_wp2_with fail
      refine (HB.out n 128 143 _ rfl _).mono ?_
      rintro r u ⟨rfl, rfl⟩
      go_wp2
      go_ret
      exact ⟨ret_bool (by show _ = isE n; unfold isE; rw [hb]; rfl), rfl⟩
    · have HB1 : Hid (∀ w : World, Calls Try.prog 9 #[.int .i64 n, .int .i64 0, .int .i64 15] w fun e w' => e = .returned (.bool true) ∧ w = w') := HB.out n 0 15 true hb
      go_enter Try.func49, Try.ntmps49
      go_wp2_with fail
      refine (HB1.out _).mono ?_
      rintro r u ⟨rfl, rfl⟩
      go_wp2
      go_ret
      exact ⟨ret_bool (by show _ = isE n; unfold isE; rw [hb]; rfl), rfl⟩
  · go_enter Try.func49, Try.ntmps49
    go_wp2_with fail
    refine (HB.out 4 8 10 false rfl _).mono ?_
    rintro r u ⟨rfl, rfl⟩
    go_wp2_with fail
    refine (HB.out 4 11 14 false rfl _).mono ?_
    rintro r u ⟨rfl, rfl⟩
    go_wp2
    go_ret
    exact ⟨ret_bool (inS_one 0 n), rfl⟩
  · go_enter Try.func49, Try.ntmps49
    go_wp2_with fail
    refine (HB.out n 0 65535 _ rfl _).mono ?_
    rintro r u ⟨rfl, rfl⟩
    go_wp2
    go_ret
    exact ⟨ret_bool (rfl), rfl⟩
  · go_enter Try.func49, Try.ntmps49
    go_wp2_with fail
    refine (HB.out 6 8 10 false rfl _).mono ?_
    rintro r u ⟨rfl, rfl⟩
    go_wp2_with fail
    refine (HB.out 6 11 14 false rfl _).mono ?_
    rintro r u ⟨rfl, rfl⟩
    go_wp2
    go_ret
    exact ⟨ret_bool (inS_one 0 n), rfl⟩
  · go_enter Try.func49, Try.ntmps49
    go_wp2_with fail
    refine (HB.out 7 8 10 false rfl _).mono ?_
    rintro r u ⟨rfl, rfl⟩
    go_wp2_with fail
    refine (HB.out 7 11 14 false rfl _).mono ?_
    rintro r u ⟨rfl, rfl⟩
    go_wp2
    go_ret
    exact ⟨ret_bool (inS_one 0 n), rfl⟩
  · go_enter Try.func49, Try.ntmps49
    go_wp2_with fail
    refine (HB.out 8 8 10 true rfl _).mono ?_
    rintro r u ⟨rfl, rfl⟩
    go_wp2_with fail
    refine (HB.out n 1 15 _ rfl _).mono ?_
    rintro r u ⟨rfl, rfl⟩
    go_wp2
    go_ret
    exact ⟨ret_bool (rfl), rfl⟩
  · go_enter Try.func49, Try.ntmps49
    go_wp2_with fail
    refine (HB.out 9 8 10 true rfl _).mono ?_
    rintro r u ⟨rfl, rfl⟩
    go_wp2_with fail
    refine (HB.out n 1 15 _ rfl _).mono ?_
    rintro r u ⟨rfl, rfl⟩
    go_wp2
    go_ret
    exact ⟨ret_bool (rfl), rfl⟩
  · go_enter Try.func49, Try.ntmps49
    go_wp2_with fail
    refine (HB.out 10 8 10 true rfl _).mono ?_
    rintro r u ⟨rfl, rfl⟩
    go_wp2_with fail
    refine (HB.out n 1 15 _ rfl _).mono ?_
    rintro r u ⟨rfl, rfl⟩
    go_wp2
    go_ret
    exact ⟨ret_bool (rfl), rfl⟩
  · go_enter Try.func49, Try.ntmps49
    go_wp2_with fail
    refine (HB.out 11 8 10 false rfl _).mono ?_
    rintro r u ⟨rfl, rfl⟩
    go_wp2_with fail
    refine (HB.out 11 11 14 true rfl _).mono ?_
    rintro r u ⟨rfl, rfl⟩
    go_wp2_with fail
    refine (HB.out n 0 255 _ rfl _).mono ?_
    rintro r u ⟨rfl, rfl⟩
    go_wp2
    go_ret
    exact ⟨ret_bool (rfl), rfl⟩
  · go_enter Try.func49, Try.ntmps49
    go_wp2_with fail
    refine (HB.out 12 8 10 false rfl _).mono ?_
    rintro r u ⟨rfl, rfl⟩
    go_wp2_with fail
    refine (HB.out 12 11 14 true rfl _).mono ?_
    rintro r u ⟨rfl, rfl⟩
    go_wp2_with fail
    refine (HB.out n 0 255 _ rfl _).mono ?_
    rintro r u ⟨rfl, rfl⟩
    go_wp2
    go_ret
    exact ⟨ret_bool (rfl), rfl⟩
  · go_enter Try.func49, Try.ntmps49
    go_wp2_with fail
    refine (HB.out 13 8 10 false rfl _).mono ?_
    rintro r u ⟨rfl, rfl⟩
    go_wp2_with fail
    refine (HB.out 13 11 14 true rfl _).mono ?_
    rintro r u ⟨rfl, rfl⟩
    go_wp2_with fail
    refine (HB.out n 0 255 _ rfl _).mono ?_
    rintro r u ⟨rfl, rfl⟩
    go_wp2
    go_ret
    exact ⟨ret_bool (rfl), rfl⟩
  · go_enter Try.func49, Try.ntmps49
    go_wp2_with fail
    refine (HB.out 14 8 10 false rfl _).mono ?_
    rintro r u ⟨rfl, rfl⟩
    go_wp2_with fail
    refine (HB.out 14 11 14 true rfl _).mono ?_
    rintro r u ⟨rfl, rfl⟩
    go_wp2_with fail
    refine (HB.out n 0 255 _ rfl _).mono ?_
    rintro r u ⟨rfl, rfl⟩
    go_wp2
    go_ret
    exact ⟨ret_bool (rfl), rfl⟩
set_option maxHeartbeats 2000000 in
theorem askLength_any (k n : Int) (hk : isK k = true) (w : World) : Calls Try.prog 50 #[.int .i64 k, .int .i64 n] w fun e w' => e = .returned (.bool (inS (col k 6) (col k 7) n)) ∧ w = w' := by
  have HB : Hid (∀ (n l m : Int) (b : Bool), inS l m n = b → ∀ w : World, Calls Try.prog 9 #[.int .i64 n, .int .i64 l, .int .i64 m] w fun e w' => e = .returned (.bool b) ∧ w = w') := between_any
  rcases isK_cases hk with rfl | rfl | rfl | rfl | rfl | rfl | rfl | rfl | rfl | rfl | rfl | rfl | rfl | rfl
  · go_enter Try.func50, Try.ntmps50
    go_wp2_with fail
    refine (HB.out 1 1 14 true rfl _).mono ?_
    rintro r u ⟨rfl, rfl⟩
    go_wp2
    go_ret
    exact ⟨ret_bool (Eq.trans (congrArg (fun c : Int => n == c) (show _ = (2 : Int) by decide +kernel)) (inS_one 2 n)), rfl⟩
  · go_enter Try.func50, Try.ntmps50
    go_wp2_with fail
    refine (HB.out 2 1 14 true rfl _).mono ?_
    rintro r u ⟨rfl, rfl⟩
    go_wp2
    go_ret
    exact ⟨ret_bool (Eq.trans (congrArg (fun c : Int => n == c) (show _ = (0 : Int) by decide +kernel)) (inS_one 0 n)), rfl⟩
  · go_enter Try.func50, Try.ntmps50
    go_wp2_with fail
    refine (HB.out 3 1 14 true rfl _).mono ?_
    rintro r u ⟨rfl, rfl⟩
    go_wp2
    go_ret
    exact ⟨ret_bool (Eq.trans (congrArg (fun c : Int => n == c) (show _ = (0 : Int) by decide +kernel)) (inS_one 0 n)), rfl⟩
  · go_enter Try.func50, Try.ntmps50
    go_wp2_with fail
    refine (HB.out 4 1 14 true rfl _).mono ?_
    rintro r u ⟨rfl, rfl⟩
    go_wp2
    go_ret
    exact ⟨ret_bool (Eq.trans (congrArg (fun c : Int => n == c) (show _ = (0 : Int) by decide +kernel)) (inS_one 0 n)), rfl⟩
  · go_enter Try.func50, Try.ntmps50
    go_wp2_with fail
    refine (HB.out n 0 65535 _ rfl _).mono ?_
    rintro r u ⟨rfl, rfl⟩
    go_wp2
    go_ret
    exact ⟨ret_bool (rfl), rfl⟩
  · go_enter Try.func50, Try.ntmps50
    go_wp2_with fail
    refine (HB.out 6 1 14 true rfl _).mono ?_
    rintro r u ⟨rfl, rfl⟩
    go_wp2
    go_ret
    exact ⟨ret_bool (Eq.trans (congrArg (fun c : Int => n == c) (show _ = (0 : Int) by decide +kernel)) (inS_one 0 n)), rfl⟩
  · go_enter Try.func50, Try.ntmps50
    go_wp2_with fail
    refine (HB.out 7 1 14 true rfl _).mono ?_
    rintro r u ⟨rfl, rfl⟩
    go_wp2
    go_ret
    exact ⟨ret_bool (Eq.trans (congrArg (fun c : Int => n == c) (show _ = (1 : Int) by decide +kernel)) (inS_one 1 n)), rfl⟩
  · go_enter Try.func50, Try.ntmps50
    go_wp2_with fail
    refine (HB.out 8 1 14 true rfl _).mono ?_
    rintro r u ⟨rfl, rfl⟩
    go_wp2
    go_ret
    exact ⟨ret_bool (Eq.trans (congrArg (fun c : Int => n == c) (show _ = (4 : Int) by decide +kernel)) (inS_one 4 n)), rfl⟩
  · go_enter Try.func50, Try.ntmps50
    go_wp2_with fail
    refine (HB.out 9 1 14 true rfl _).mono ?_
    rintro r u ⟨rfl, rfl⟩
    go_wp2
    go_ret
    exact ⟨ret_bool (Eq.trans (congrArg (fun c : Int => n == c) (show _ = (0 : Int) by decide +kernel)) (inS_one 0 n)), rfl⟩
  · go_enter Try.func50, Try.ntmps50
    go_wp2_with fail
    refine (HB.out 10 1 14 true rfl _).mono ?_
    rintro r u ⟨rfl, rfl⟩
    go_wp2
    go_ret
    exact ⟨ret_bool (Eq.trans (congrArg (fun c : Int => n == c) (show _ = (0 : Int) by decide +kernel)) (inS_one 0 n)), rfl⟩
  · go_enter Try.func50, Try.ntmps50
    go_wp2_with fail
    refine (HB.out 11 1 14 true rfl _).mono ?_
    rintro r u ⟨rfl, rfl⟩
    go_wp2
    go_ret
    exact ⟨ret_bool (Eq.trans (congrArg (fun c : Int => n == c) (show _ = (0 : Int) by decide +kernel)) (inS_one 0 n)), rfl⟩
  · go_enter Try.func50, Try.ntmps50
    go_wp2_with fail
    refine (HB.out 12 1 14 true rfl _).mono ?_
    rintro r u ⟨rfl, rfl⟩
    go_wp2
    go_ret
    exact ⟨ret_bool (Eq.trans (congrArg (fun c : Int => n == c) (show _ = (1 : Int) by decide +kernel)) (inS_one 1 n)), rfl⟩
  · go_enter Try.func50, Try.ntmps50
    go_wp2_with fail
    refine (HB.out 13 1 14 true rfl _).mono ?_
    rintro r u ⟨rfl, rfl⟩
    go_wp2
    go_ret
    exact ⟨ret_bool (Eq.trans (congrArg (fun c : Int => n == c) (show _ = (0 : Int) by decide +kernel)) (inS_one 0 n)), rfl⟩
  · go_enter Try.func50, Try.ntmps50
    go_wp2_with fail
    refine (HB.out 14 1 14 true rfl _).mono ?_
    rintro r u ⟨rfl, rfl⟩
    go_wp2
    go_ret
    exact ⟨ret_bool (Eq.trans (congrArg (fun c : Int => n == c) (show _ = (1 : Int) by decide +kernel)) (inS_one 1 n)), rfl⟩
end Go.Proofs.Ytonheibhbilhhaa.setup
