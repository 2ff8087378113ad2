/- desc: what isPart, faceOf and endOf answer. -/
import Derived.Test.YtebaepkghbihkaaDescV
import Derived.Test.YtebaepkghbihkaaDescGw
import Derived.Test.YtebaepkghbihkaaQuietL
namespace Go.Proofs.Ytebaepkghbihkaa.desc
open Go.RowKit Go.PlainAid Go.Proofs.Ytebaepkghbihkaa.lane
set_option linter.unusedVariables false
set_option linter.unusedSimpArgs false

set_option maxHeartbeats 400000 in
theorem isPart_any (p : List Int) (n : Nat) (k : Int) (w : World) (hb : Byt p) (hl : p.length ≤ 512) (hn : 2 ≤ n) (hn2 : n ≤ 512) (k0 : 0 ≤ k) (k1 : k ≤ 255) :
    Calls Try.prog 71 #[.string (strOfNums p), .int .i64 (n : Int), .int .u8 k] w fun e w' => e = .returned (.bool (isP p n k)) ∧ w = w' := by
  have hz := str_size p
  have hbt := get_bt (strOfNums p)
  unfold isP
  by_cases h : p.length = n
  · rw [decide_eq_true h, Bool.true_and, ← getD_bt p hb 1 (by omega)]
    have e1 : (((strOfNums p).size : Int) == (n : Int)) = true := by simp; omega
    have h1 : 1 < (strOfNums p).size := by omega
    generalize strOfNums p = s at *
    clear hz h
    go_enter Try.func71, Try.ntmps71
    go_wp2
    go_ret
    exact ⟨rfl, rfl⟩
  · rw [decide_eq_false h, Bool.false_and]
    have e1 : (((strOfNums p).size : Int) == (n : Int)) = false := by simp; omega
    have h1 : (strOfNums p).size ≤ 512 := by omega
    generalize strOfNums p = s at *
    clear hz h
    go_enter Try.func71, Try.ntmps71
    go_wp2
    go_ret
    exact ⟨rfl, rfl⟩
theorem getD_all (p : List Int) (hb : Byt p) (n : Nat) (h : p.length = n) : ∀ k, k < n → bt (strOfNums p) k = p.getD k 0 := fun k hk => getD_bt p hb k (by omega)
set_option maxHeartbeats 1000000 in
theorem faceOf_any (p : List Int) (w : World) (hb : Byt p) (hl : p.length = 9) :
    Calls Try.prog 72 #[.string (strOfNums p)] w fun e w' => e = .returned (fcV (faceO p) (.slice none 0 0) (.slice none 0 0)) ∧ Below w.heap.size w w' := by
  have hz := str_size p
  rw [hl] at hz
  have hbt := get_bt (strOfNums p)
  unfold faceO
  rw [← getD_all p hb 9 hl 5 (by omega), ← getD_all p hb 9 hl 6 (by omega), ← getD_all p hb 9 hl 7 (by omega), ← getD_all p hb 9 hl 8 (by omega)]
  generalize strOfNums p = s at *
  have b5 := bt_nonneg s 5
  have b6 := bt_nonneg s 6
  have b7 := bt_nonneg s 7
  have b8 := bt_nonneg s 8
  have d5 := bt_le s 5
  have d6 := bt_le s 6
  have d7 := bt_le s 7
  have d8 := bt_le s 8
  have hzi : (s.size : Int) = 9 := by omega
  clear hl hb
  go_enter Try.func72, Try.ntmps72
  go_wp2_with fail
  go_region
  all_goals go_wp2
  all_goals exact bodyPost_ret (v := fcV ⟨bt s 5, bt s 6, bt s 7, bt s 8, [], []⟩ (.slice none 0 0) (.slice none 0 0)) (by simp [results, Try.results72, go_sem]) rfl ⟨rfl, (balloc w _).drew⟩
theorem andNot_all : ∀ n : Fin 256, bits BinOp.andNot IntKind.u8 (n.val : Int) 128 = (n.val : Int) % 128 := by decide +kernel
theorem and128_all : ∀ n : Fin 256, (bits BinOp.and IntKind.u8 (n.val : Int) 128 != 0) = decide (128 ≤ (n.val : Int)) := by decide +kernel
theorem andNot_is (x : Int) (h0 : 0 ≤ x) (h1 : x ≤ 255) : bits BinOp.andNot IntKind.u8 x 128 = x % 128 := by
  have := andNot_all ⟨x.toNat, by omega⟩
  simp only at this
  rwa [show (x.toNat : Int) = x by omega] at this
theorem and128_is (x : Int) (h0 : 0 ≤ x) (h1 : x ≤ 255) : (bits BinOp.and IntKind.u8 x 128 != 0) = decide (128 ≤ x) := by
  have := and128_all ⟨x.toNat, by omega⟩
  simp only at this
  rwa [show (x.toNat : Int) = x by omega] at this
theorem ready_at {md : Region.Mode} {ops : Array Oper} {L : Array Bool} {k : Nat} (h : k ∈ Region.ready md ops L) : L.getD k false = false ∧ k < L.size := by
  have h0 := (mem_ready.1 h).1
  rcases Nat.lt_or_ge k L.size with h' | h'
  · refine ⟨?_, h'⟩
    simp [h'] at h0 ⊢
    exact h0
  · simp [Array.getElem?_eq_none h'] at h0
theorem set_at18 {L : Array Bool} {k : Nat} (h : k < L.size) : (L.setIfInBounds k true).getD k false = true := by
  simp [h]
set_option maxHeartbeats 1000000 in
theorem endOf_any (p : List Int) (w : World) (hb : Byt p) (hl : p.length = 7) :
    Calls Try.prog 73 #[.string (strOfNums p)] w fun e w' => e = .returned (evV (endO p)) ∧ Below w.heap.size w w' := by
  have hz := str_size p
  rw [hl] at hz
  have hbt := get_bt (strOfNums p)
  have hw : wdOf ((strOfNums p).extract 4 (strOfNums p).size) = p.getD 4 0 + 256 * p.getD 5 0 := by
    unfold wdOf
    rw [bt_extract _ 4 0 (by omega), bt_extract _ 4 1 (by omega), getD_all p hb 7 hl 4 (by omega), getD_all p hb 7 hl 5 (by omega)]
  unfold endO
  rw [← hw, ← getD_all p hb 7 hl 2 (by omega), ← getD_all p hb 7 hl 3 (by omega), ← getD_all p hb 7 hl 6 (by omega)]
  have hsl : ∀ W : World, (Instr.slice 9 (.string (strOfNums p)) (some (.int .i64 4)) none none).run Try.prog W = .ok (.string ((strOfNums p).extract 4 (strOfNums p).size)) W := fun W => by
    have := run_slice_string_l (P := Try.prog) (w := W) 9 (strOfNums p) Try.underlying9 .i64 (4 : Int) (by omega) (by omega)
    exact this
  have hxz : 2 ≤ ((strOfNums p).extract 4 (strOfNums p).size).size := by rw [ByteArray.size_extract]; omega
  generalize strOfNums p = s at *
  have HW : Hid (∀ w : World, Calls Try.prog 42 #[.string (s.extract 4 s.size)] w fun e w' => e = .returned (.int .i64 (wdOf (s.extract 4 s.size))) ∧ ∃ q, w' = w.drewN q) := fun w => word_any _ w hxz
  generalize wdOf (s.extract 4 s.size) = N at *
  generalize s.extract 4 s.size = s4 at *
  have b2 := bt_nonneg s 2
  have b3 := bt_nonneg s 3
  have b6 := bt_nonneg s 6
  have d2 := bt_le s 2
  have d3 := bt_le s 3
  have d6 := bt_le s 6
  have e1 := andNot_is (bt s 2) b2 d2
  have e2 := and128_is (bt s 2) b2 d2
  have x2 : ∀ W : World, (Instr.index 9 (.string s) (.int .i64 2)).run Try.prog W = .ok (.int .u8 (bt s 2)) W := run_ix s 2 (by omega)
  have x3 : ∀ W : World, (Instr.index 9 (.string s) (.int .i64 3)).run Try.prog W = .ok (.int .u8 (bt s 3)) W := run_ix s 3 (by omega)
  have x6 : ∀ W : World, (Instr.index 9 (.string s) (.int .i64 6)).run Try.prog W = .ok (.int .u8 (bt s 6)) W := run_ix s 6 (by omega)
  have m2 : IntKind.i64.wrap (bt s 2 % 128) = bt s 2 % 128 := by rw [IntKind.wrap_i64]; omega
  have m3 : IntKind.i64.wrap (bt s 3) = bt s 3 := by rw [IntKind.wrap_i64]; omega
  have m6 : IntKind.i64.wrap (bt s 6) = bt s 6 := by rw [IntKind.wrap_i64]; omega
  clear hl hb hw hxz hbt hz
  go_enter Try.func73, Try.ntmps73
  go_wp2_with fail
  obtain ⟨W0, hW0⟩ : ∃ W0, (w.alloc (.cells #[.int .i64 0, .bool false, .int .i64 0, .int .i64 0, .int .i64 0] 86)) = W0 := ⟨_, rfl⟩
  obtain ⟨W2, hW2⟩ : ∃ W2, (w.alloc (.cells #[.int .i64 (bt s 2 % 128), .bool (decide (128 ≤ bt s 2)), .int .i64 (bt s 3), .int .i64 N, .int .i64 (bt s 6)] 86)) = W2 := ⟨_, rfl⟩
  rw [hW0]
  refine wp_region_L (St fun L => if L.getD 18 false = true then some W2 else some W0) (by kernel_rfl) (by kernel_rfl) ⟨W0, 1, rfl, rfl⟩ ?_
  have hst : ∀ k, k ≠ 18 → ∀ L : Array Bool, (L.setIfInBounds k true).getD 18 false = L.getD 18 false := fun k hk L => getD_set_ne false hk
  refine lex_plain (.string s) (fun L => by simp only [hst 0 (by decide)]) rfl (fun W => by simp [execOp, go_sem]) ?_
  refine lex_plain (.int .u8 (bt s 2)) (fun L => by simp only [hst 1 (by decide)]) rfl (fun W => by simp [execOp, go_sem, x2]) ?_
  refine lex_plain (.int .u8 (bt s 2 % 128)) (fun L => by simp only [hst 2 (by decide)]) rfl (fun W => by simp [execOp, go_sem, e1]) ?_
  refine lex_plain (.int .i64 (bt s 2 % 128)) (fun L => by simp only [hst 3 (by decide)]) rfl (fun W => by simp [execOp, go_sem, m2]) ?_
  refine lex_plain (.string s) (fun L => by simp only [hst 4 (by decide)]) rfl (fun W => by simp [execOp, go_sem]) ?_
  refine lex_plain (.int .u8 (bt s 2)) (fun L => by simp only [hst 5 (by decide)]) rfl (fun W => by simp [execOp, go_sem, x2]) ?_
  refine lex_plain (.int .u8 (bits BinOp.and IntKind.u8 (bt s 2) 128)) (fun L => by simp only [hst 6 (by decide)]) rfl (fun W => by simp [execOp, go_sem]) ?_
  refine lex_plain (.bool (decide (128 ≤ bt s 2))) (fun L => by simp only [hst 7 (by decide)]) rfl (fun W => by simp [execOp, go_sem, e2]) ?_
  refine lex_plain (.string s) (fun L => by simp only [hst 8 (by decide)]) rfl (fun W => by simp [execOp, go_sem]) ?_
  refine lex_plain (.int .u8 (bt s 3)) (fun L => by simp only [hst 9 (by decide)]) rfl (fun W => by simp [execOp, go_sem, x3]) ?_
  refine lex_plain (.int .i64 (bt s 3)) (fun L => by simp only [hst 10 (by decide)]) rfl (fun W => by simp [execOp, go_sem, m3]) ?_
  refine lex_plain (.string s) (fun L => by simp only [hst 11 (by decide)]) rfl (fun W => by simp [execOp, go_sem]) ?_
  refine lex_plain (.string s4) (fun L => by simp only [hst 12 (by decide)]) rfl (fun W => by simp [execOp, go_sem, hsl]) ?_
  refine lex_call (.int .i64 N) 42 #[.string s4] (fun L => by simp only [hst 13 (by decide)]) rfl (fun W => by simp [execOp, go_sem]) HW.out ?_
  refine lex_plain (.string s) (fun L => by simp only [hst 14 (by decide)]) rfl (fun W => by simp [execOp, go_sem]) ?_
  refine lex_plain (.int .u8 (bt s 6)) (fun L => by simp only [hst 15 (by decide)]) rfl (fun W => by simp [execOp, go_sem, x6]) ?_
  refine lex_plain (.int .i64 (bt s 6)) (fun L => by simp only [hst 16 (by decide)]) rfl (fun W => by simp [execOp, go_sem, m6]) ?_
  refine lex_plain (.agg #[.int .i64 (bt s 2 % 128), .bool (decide (128 ≤ bt s 2)), .int .i64 (bt s 3), .int .i64 N, .int .i64 (bt s 6)]) (fun L => by simp only [hst 17 (by decide)]) rfl (fun W => by simp [execOp, go_sem]) ?_
  refine lex_turn undef rfl (fun L W n hr hs => ?_) ?_
  · obtain ⟨h18, hz18⟩ := ready_at hr
    simp only [h18] at hs
    refine ⟨_, by simp only [set_at18 hz18]; rfl, .inr ⟨?_, rfl⟩⟩
    simp at hs
    subst hs
    subst hW2 hW0
    simp [execOp, go_sem]
    simp only [set_drewN]
    simp [go_sem]
  · intro w' hw'
    obtain ⟨W, n, hs, rfl⟩ := hw'
    have hs2 : some W2 = some W := hs
    injection hs2 with hs2
    subst hs2
    subst hW2 hW0
    go_wp2
    exact bodyPost_ret (v := evV ⟨bt s 2 % 128, decide (128 ≤ bt s 2), bt s 3, N, bt s 6⟩) (by simp [results, Try.results73, go_sem]) rfl ⟨rfl, below_drewN (balloc w _) _⟩
end Go.Proofs.Ytebaepkghbihkaa.desc
