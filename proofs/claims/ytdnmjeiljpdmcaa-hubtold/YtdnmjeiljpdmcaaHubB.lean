/- hub: bits; what isRight, isPort, plugged, turnOn and turnOff answer. -/
import Derived.Test.YtdnmjeiljpdmcaaHubF
import Derived.Laws.BitsAllLaws
import Derived.Laws.BitsLemmas
namespace Go.Proofs.Ytdnmjeiljpdmcaa.hub
open Go Go.RowKit
open Go.Proofs.Ytdnmjeiljpdmcaa.slots (cl cl_at cl_set cl_ext allF allF_step allF_end allF_iff anyF)
set_option linter.unusedVariables false
set_option linter.unusedSimpArgs false
set_option maxRecDepth 100000

theorem mask19 : ∀ n : Fin 32, ((n.val &&& 18446744073709551596 = 0) ↔ (n.val ≤ 3 ∨ 16 ≤ n.val ∧ n.val ≤ 19)) := by decide +kernel
theorem nat19 (N : Nat) (h : N < 18446744073709551616) : (N &&& 18446744073709551596 = 0) ↔ (N ≤ 3 ∨ 16 ≤ N ∧ N ≤ 19) := by
  have e1 := Nat.and_div_two_pow (a := N) (b := 18446744073709551596) (n := 5)
  have e2 : (18446744073709551596 : Nat) / 2 ^ 5 = 2 ^ 59 - 1 := by decide
  rw [e2, Nat.and_two_pow_sub_one_eq_mod] at e1
  by_cases q : N < 32
  · exact mask19 ⟨N, q⟩
  · constructor
    · intro z
      rw [z] at e1
      omega
    · intro z; omega
theorem not19 (c : Int) (h1 : -9223372036854775808 ≤ c) (h2 : c ≤ 9223372036854775807) : (bits .andNot .i64 c 19 == 0) = chB c := by
  have hm : (~~~ BitVec.ofInt 64 19).toNat = 18446744073709551596 := by decide
  have key : bits .andNot .i64 c 19 = IntKind.i64.wrap (((c % ((2 ^ 64 : Nat) : Int)).toNat &&& 18446744073709551596 : Nat) : Int) := by
    show IntKind.i64.wrap ((BitVec.ofInt 64 c &&& ~~~ BitVec.ofInt 64 19).toNat : Nat) = _
    rw [BitVec.toNat_and, BitVec.toNat_ofInt, hm]
  have hN : (c % ((2 ^ 64 : Nat) : Int)).toNat < 18446744073709551616 := by omega
  have q := nat19 _ hN
  have hle : ((c % ((2 ^ 64 : Nat) : Int)).toNat &&& 18446744073709551596) ≤ 18446744073709551596 := Nat.and_le_right
  rw [key, IntKind.wrap_i64, Bool.eq_iff_iff, beq_iff_eq]
  have hch : chB c = true ↔ (0 ≤ c ∧ c ≤ 3) ∨ (16 ≤ c ∧ c ≤ 19) := by simp [chB]
  rw [hch]
  generalize ((c % ((2 ^ 64 : Nat) : Int)).toNat &&& 18446744073709551596) = M at *
  omega
theorem or1 : ∀ c : Fin 20, bits .or .i64 (c.val : Int) 1 = with' (c.val : Int) 1 := by decide
theorem or2 : ∀ c : Fin 20, bits .or .i64 (c.val : Int) 2 = with' (c.val : Int) 2 := by decide
theorem or16 : ∀ c : Fin 20, bits .or .i64 (c.val : Int) 16 = with' (c.val : Int) 16 := by decide
theorem no1 : ∀ c : Fin 20, bits .andNot .i64 (c.val : Int) 1 = less (c.val : Int) 1 := by decide
theorem no2 : ∀ c : Fin 20, bits .andNot .i64 (c.val : Int) 2 = less (c.val : Int) 2 := by decide
theorem no16 : ∀ c : Fin 20, bits .andNot .i64 (c.val : Int) 16 = less (c.val : Int) 16 := by decide
theorem ch_fin {c : Int} (h : chB c = true) : ∃ f : Fin 20, c = (f.val : Int) := by
  have := chB_iff.1 h
  exact ⟨⟨c.toNat, by omega⟩, by simp; omega⟩
/-- what the bits of a Change come to -/
theorem ch_bits {c : Int} (h : chB c = true) : bits .or .i64 c 1 = with' c 1 ∧ bits .or .i64 c 2 = with' c 2 ∧ bits .or .i64 c 16 = with' c 16 ∧ bits .andNot .i64 c 1 = less c 1 ∧ bits .andNot .i64 c 2 = less c 2 ∧ bits .andNot .i64 c 16 = less c 16 := by
  obtain ⟨f, rfl⟩ := ch_fin h
  exact ⟨or1 f, or2 f, or16 f, no1 f, no2 f, no16 f⟩
theorem ch_with {c : Int} (h : chB c = true) : chB (with' c 1) = true ∧ chB (with' c 2) = true ∧ chB (with' c 16) = true ∧ chB (less c 1) = true ∧ chB (less c 2) = true ∧ chB (less c 16) = true := by
  rcases chB_iff.1 h with rfl | rfl | rfl | rfl | rfl | rfl | rfl | rfl <;> decide
theorem isRight_any (s c : Int) (w : World) (h1 : -9223372036854775808 ≤ c) (h2 : c ≤ 9223372036854775807) : Calls Try.prog 26 #[ag [s, c]] w fun e w' => e = .returned (.bool (rgt s c)) ∧ Below w.heap.size w w' := by
  have HS : Hid (([s, c] : List Int)[0]? = some s) := rfl
  have HC : Hid (([s, c] : List Int)[1]? = some c) := rfl
  have hn : (bits .andNot .i64 c 19 == 0) = chB c := not19 c h1 h2
  have hM := Mm.nil w
  unfold rgt
  clear h1 h2
  cases hs : stB s
  · have : ¬ (s = 0 ∨ s = 256 ∨ s = 257 ∨ s = 259 ∨ s = 273) := fun q => by rw [stB_iff.2 q] at hs; cases hs
    have e0 : (s == 0) = false := by simp; omega
    have e1 : (s == 256) = false := by simp; omega
    have e2 : (s == 257) = false := by simp; omega
    have e3 : (s == 259) = false := by simp; omega
    have e4 : (s == 273) = false := by simp; omega
    clear this hs
    go_enter Try.func26, Try.ntmps26
    repeat' (first | (go_big_may; first | (refine a_box rfl rfl rfl ?_; intro u zb hN; replace hM := hM.new hN; clear hN) | (refine a_get rfl rfl rfl hM.at0 HS.out ?_)) | go_values | go_skip | go_guarded | go_step | go_upon | (simp only [Int.not_lt, Int.not_le] at *; go_simp))
    go_ret
    exact ⟨rfl, hM.below⟩
  · rw [Bool.true_and]
    generalize chB c = q at *
    rcases stB_iff.1 hs with rfl | rfl | rfl | rfl | rfl
    all_goals
      clear hs
      go_enter Try.func26, Try.ntmps26
      repeat' (first | (go_big_may; first | (refine a_box rfl rfl rfl ?_; intro u zb hN; replace hM := hM.new hN; clear hN) | (refine a_get rfl rfl rfl hM.at0 HS.out ?_) | (refine a_get rfl rfl rfl hM.at0 HC.out ?_)) | go_values | go_skip | go_guarded | go_step | go_upon | (simp only [Int.not_lt, Int.not_le] at *; go_simp))
      go_ret
      exact ⟨rfl, hM.below⟩
theorem isPort_any (F : List Int) (n : Int) (w : World) (hF : F.length = 33) : Calls Try.prog 22 #[ag F, .int .i64 n] w fun e w' => e = .returned (.bool (isP F n)) ∧ Below w.heap.size w w' := by
  have H0 : Hid (F[0]? = some (cn F)) := cl_at (by omega)
  have hM := Mm.nil w
  unfold isP
  generalize cn F = m at *
  cases h1 : decide (1 ≤ n) <;> cases h2 : decide (n ≤ m)
  all_goals
    go_enter Try.func22, Try.ntmps22
    repeat' (first | (go_big_may; first | (refine a_box rfl rfl rfl ?_; intro u zb hN; replace hM := hM.new hN; clear hN) | (refine a_get rfl rfl rfl hM.at0 H0.out ?_)) | go_values | go_skip | go_guarded | go_step | go_upon | (simp only [Int.not_lt, Int.not_le] at *; go_simp))
    go_ret
    exact ⟨rfl, hM.below⟩
set_option maxHeartbeats 2000000 in
theorem plugged_any (s c : Int) (t : Bool) (w : World) (hs : s = 256 ∨ s = 257 ∨ s = 259 ∨ s = 273) (hc : chB c = true) : Calls Try.prog 23 #[ag [s, c], .bool t] w fun e w' => e = .returned (ag [plgS s t, plgC s c t]) ∧ Below w.heap.size w w' := by
  have HS : Hid (([s, c] : List Int)[0]? = some s) := rfl
  have HC : Hid (([s, c] : List Int)[1]? = some c) := rfl
  have hb1 := (ch_bits hc).1
  have hb2 := (ch_bits (ch_with hc).1).2.1
  have hM := Mm.nil w
  unfold plgS plgC
  clear hc
  generalize with' c 1 = c1 at *
  generalize with' c1 2 = c2 at *
  have HC1 : Hid (([s, c1] : List Int)[1]? = some c1) := rfl
  have HS1 : Hid (([s, c1] : List Int)[0]? = some s) := rfl
  rcases hs with rfl | rfl | rfl | rfl <;> cases t
  all_goals
    go_enter Try.func23, Try.ntmps23
    repeat' (first | (go_big_may; first | (refine a_box rfl rfl rfl ?_; intro u zb hN; replace hM := hM.new hN; clear hN) | (refine a_alloc rfl zer_port rfl ?_; intro u zb hN; replace hM := hM.new hN; clear hN) | (refine a_get rfl rfl rfl hM.at1 HS.out ?_) | (refine a_get rfl rfl rfl hM.at1 HC.out ?_) | (refine a_get rfl rfl rfl hM.at1 HS1.out ?_) | (refine a_get rfl rfl rfl hM.at1 HC1.out ?_) | (refine a_put rfl rfl rfl rfl hM.at1 (by simp) ?_; intro u hv hc; replace hM := hM.put1 hc hv; clear hv hc) | (refine a_load rfl rfl row_port rfl hM.at1 (by simp) (cut2 _ _) ?_) | (refine a_fill rfl rfl row_port rfl rfl hM.at0 rfl rfl ?_; intro u hv hc; replace hM := hM.put0 hc hv; clear hv hc)) | go_values | go_skip | go_guarded | go_step | go_upon | (simp only [Int.not_lt, Int.not_le] at *; go_simp))
    exact bodyPost_ret (ret_1 Try.results23 rfl (ld_var row_port hM.at0 rfl)) rfl ⟨rfl, hM.below⟩
end Go.Proofs.Ytdnmjeiljpdmcaa.hub
