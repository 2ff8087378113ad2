/- plugref's gadget: what Two and Gadget answer. -/
import Derived.Test.YtebaepkghbihkaaSetR
import Derived.Test.YtebaepkghbihkaaGadB
namespace Go.Proofs.Ytebaepkghbihkaa.gadget
open Go.RowKit Go.PlainAid Go.Proofs.Ytebaepkghbihkaa.lane Go.Proofs.Ytebaepkghbihkaa.setup
set_option linter.unusedVariables false
set_option linter.unusedSimpArgs false

theorem pow_bd : ∀ j : Fin 33, (1 : Int) ≤ 2 ^ j.val ∧ (2 : Int) ^ j.val ≤ 4294967296 := by decide
theorem ret_i64 {a b : Int} (h : a = b) : Ending.returned (.int .i64 a) = .returned (.int .i64 b) := by rw [h]
theorem two_any (k : Nat) (hk : k ≤ 32) (w : World) :
    Calls Try.prog 40 #[.int .i64 (k : Int)] w fun e w' => e = .returned (.int .i64 (2 ^ k)) ∧ w' = w := by
  go_enter Try.func40, Try.ntmps40
  go_wp2
  go_loop [3, 5] (fun n i => ∃ (j : Nat) (p : Int), j ≤ k ∧ 1 ≤ p ∧ p ≤ 4294967296 ∧ i = .int .i64 j ∧ n = .int .i64 p ∧ Hid (p = 2 ^ j)) (fun _ i => k - (intOf i).toNat)
  case atStart => exact ⟨0, 1, Nat.zero_le _, by omega, by omega, rfl, rfl, rfl⟩
  case round =>
    obtain ⟨j, p, hj, h1, h2, rfl, rfl, HP⟩ := hrel
    by_cases hlt : j < k
    · have hb := pow_bd ⟨j + 1, by omega⟩
      simp only [Int.pow_succ, ← HP.out] at hb
      go_wp2
      go_round
      case rel => exact ⟨j + 1, p * 2, by omega, hb.1, hb.2, by go_num, rfl, by show _ = _; rw [Int.pow_succ, HP.out]⟩
      case measure => simp [intOf]; omega
    · obtain rfl : j = k := by omega
      go_wp2
      go_ret
      exact ⟨ret_i64 HP.out, rfl⟩
theorem bdN (w : World) (o : Obj) (n : Nat) : Below w.heap.size w ((w.alloc o).drewN n) := below_drewN (balloc w o) n
set_option maxHeartbeats 4000000 in
theorem gadget_any (s a h : Int) (w : World) :
    Calls Try.prog 15 #[gdV s a h] w fun e w' => e = .returned (.bool (gR s a h)) ∧ Below w.heap.size w w' := by
  have HT : Hid (∀ w : World, Calls Try.prog 40 #[.int .i64 32] w fun e w' => e = .returned (.int .i64 4294967296) ∧ w' = w) := two_any 32 (by omega)
  have HB : Hid (∀ (n l m : Int) (b : Bool), inS l m n = b → ∀ w : World, Calls Try.prog 39 #[.int .i64 n, .int .i64 l, .int .i64 m] w fun e w' => e = .returned (.bool b) ∧ w' = w) := fun n l m b hb w => (between_any n l m b hb w).mono fun e w' ⟨h1, h2⟩ => ⟨h1, h2.symm⟩
  by_cases b1 : inS 0 2 s = true
  · by_cases b2 : inS 0 4294967295 h = true
    · have hs := inS_iff.1 b1
      have hcs : s = 0 ∨ s = 1 ∨ s = 2 := by omega
      clear b1 hs
      have HB2 : Hid (∀ w : World, Calls Try.prog 39 #[.int .i64 h, .int .i64 0, .int .i64 4294967295] w fun e w' => e = .returned (.bool true) ∧ w' = w) := HB.out h 0 4294967295 true b2
      rcases hcs with rfl | rfl | rfl
      · by_cases h0 : h = 0
        · subst h0
          by_cases a0 : a = 0
          · subst a0
            have HR : Hid (gR 0 0 0 = true) := rfl
            generalize gR 0 0 0 = r at *
            have HB1 : Hid (∀ w : World, Calls Try.prog 39 #[.int .i64 0, .int .i64 0, .int .i64 2] w fun e w' => e = .returned (.bool true) ∧ w' = w) := HB.out 0 0 2 true rfl
            clear b2 HB
            go_enter Try.func15, Try.ntmps15
            go_wp2_with fail
            go_quiet (first
              | (go_at_call 39; with_reducible exact Calls.quiet_of_same (HB1.out _))
              | (go_at_call 40; exact Calls.quiet_of_same (HT.out _))
              | (go_at_call 39; with_reducible exact Calls.quiet_of_same (HB2.out _)))
            go_wp2
            go_ret
            rw [HR.out]
            exact ⟨rfl, bdN _ _ _⟩
          · have a1 : (a == 0) = false := by simpa using a0
            have HR : Hid (gR 0 a 0 = false) := by show _ = _; unfold gR; rw [a1]; rfl
            generalize gR 0 a 0 = r at *
            have HB1 : Hid (∀ w : World, Calls Try.prog 39 #[.int .i64 0, .int .i64 0, .int .i64 2] w fun e w' => e = .returned (.bool true) ∧ w' = w) := HB.out 0 0 2 true rfl
            clear b2 HB a0
            go_enter Try.func15, Try.ntmps15
            go_wp2_with fail
            go_quiet (first
              | (go_at_call 39; with_reducible exact Calls.quiet_of_same (HB1.out _))
              | (go_at_call 40; exact Calls.quiet_of_same (HT.out _))
              | (go_at_call 39; with_reducible exact Calls.quiet_of_same (HB2.out _)))
            go_wp2
            go_ret
            rw [HR.out]
            exact ⟨rfl, bdN _ _ _⟩
        · have h1 : (h == 0) = false := by simpa using h0
          have HR : Hid (gR 0 a h = false) := by show _ = _; unfold gR; rw [h1, b2]; rfl
          generalize gR 0 a h = r at *
          have HB1 : Hid (∀ w : World, Calls Try.prog 39 #[.int .i64 0, .int .i64 0, .int .i64 2] w fun e w' => e = .returned (.bool true) ∧ w' = w) := HB.out 0 0 2 true rfl
          clear b2 HB h0
          go_enter Try.func15, Try.ntmps15
          go_wp2_with fail
          go_quiet (first
            | (go_at_call 39; with_reducible exact Calls.quiet_of_same (HB1.out _))
            | (go_at_call 40; exact Calls.quiet_of_same (HT.out _))
            | (go_at_call 39; with_reducible exact Calls.quiet_of_same (HB2.out _)))
          go_wp2
          go_ret
          rw [HR.out]
          exact ⟨rfl, bdN _ _ _⟩
      · by_cases h0 : h = 0
        · subst h0
          have HR : Hid (gR 1 a 0 = inS 1 127 a) := by show _ = _; unfold gR; rfl
          generalize gR 1 a 0 = r at *
          have HB1 : Hid (∀ w : World, Calls Try.prog 39 #[.int .i64 1, .int .i64 0, .int .i64 2] w fun e w' => e = .returned (.bool true) ∧ w' = w) := HB.out 1 0 2 true rfl
          have HB3 : Hid (∀ w : World, Calls Try.prog 39 #[.int .i64 a, .int .i64 1, .int .i64 127] w fun e w' => e = .returned (.bool (inS 1 127 a)) ∧ w' = w) := HB.out a 1 127 _ rfl
          clear b2 HB
          go_enter Try.func15, Try.ntmps15
          go_wp2_with fail
          go_quiet (first
            | (go_at_call 39; with_reducible exact Calls.quiet_of_same (HB1.out _))
            | (go_at_call 40; exact Calls.quiet_of_same (HT.out _))
            | (go_at_call 39; with_reducible exact Calls.quiet_of_same (HB2.out _))
            | (go_at_call 39; with_reducible exact Calls.quiet_of_same (HB3.out _)))
          go_wp2
          go_ret
          rw [HR.out]
          exact ⟨rfl, bdN _ _ _⟩
        · have h1 : (h == 0) = false := by simpa using h0
          have HR : Hid (gR 1 a h = false) := by show _ = _; unfold gR; rw [h1, b2]; rfl
          generalize gR 1 a h = r at *
          have HB1 : Hid (∀ w : World, Calls Try.prog 39 #[.int .i64 1, .int .i64 0, .int .i64 2] w fun e w' => e = .returned (.bool true) ∧ w' = w) := HB.out 1 0 2 true rfl
          clear b2 HB h0
          go_enter Try.func15, Try.ntmps15
          go_wp2_with fail
          go_quiet (first
            | (go_at_call 39; with_reducible exact Calls.quiet_of_same (HB1.out _))
            | (go_at_call 40; exact Calls.quiet_of_same (HT.out _))
            | (go_at_call 39; with_reducible exact Calls.quiet_of_same (HB2.out _)))
          go_wp2
          go_ret
          rw [HR.out]
          exact ⟨rfl, bdN _ _ _⟩
      · have HR : Hid (gR 2 a h = inS 1 127 a) := by show _ = _; unfold gR; rw [b2]; rfl
        generalize gR 2 a h = r at *
        have HB1 : Hid (∀ w : World, Calls Try.prog 39 #[.int .i64 2, .int .i64 0, .int .i64 2] w fun e w' => e = .returned (.bool true) ∧ w' = w) := HB.out 2 0 2 true rfl
        have HB3 : Hid (∀ w : World, Calls Try.prog 39 #[.int .i64 a, .int .i64 1, .int .i64 127] w fun e w' => e = .returned (.bool (inS 1 127 a)) ∧ w' = w) := HB.out a 1 127 _ rfl
        clear b2 HB
        go_enter Try.func15, Try.ntmps15
        go_wp2_with fail
        go_quiet (first
          | (go_at_call 39; with_reducible exact Calls.quiet_of_same (HB1.out _))
          | (go_at_call 40; exact Calls.quiet_of_same (HT.out _))
          | (go_at_call 39; with_reducible exact Calls.quiet_of_same (HB2.out _))
          | (go_at_call 39; with_reducible exact Calls.quiet_of_same (HB3.out _)))
        go_wp2
        go_ret
        rw [HR.out]
        exact ⟨rfl, bdN _ _ _⟩
    · have b2 : inS 0 4294967295 h = false := by simpa using b2
      have HR : Hid (gR s a h = false) := by show _ = _; unfold gR; rw [b1, b2]; rfl
      generalize gR s a h = r at *
      have HB1 : Hid (∀ w : World, Calls Try.prog 39 #[.int .i64 s, .int .i64 0, .int .i64 2] w fun e w' => e = .returned (.bool true) ∧ w' = w) := HB.out s 0 2 true b1
      have HB2 : Hid (∀ w : World, Calls Try.prog 39 #[.int .i64 h, .int .i64 0, .int .i64 4294967295] w fun e w' => e = .returned (.bool false) ∧ w' = w) := HB.out h 0 4294967295 false b2
      clear b1 b2 HB
      go_enter Try.func15, Try.ntmps15
      go_wp2_with fail
      go_quiet (first
        | (go_at_call 39; with_reducible exact Calls.quiet_of_same (HB1.out _))
        | (go_at_call 40; exact Calls.quiet_of_same (HT.out _))
        | (go_at_call 39; with_reducible exact Calls.quiet_of_same (HB2.out _)))
      go_wp2
      go_ret
      rw [HR.out]
      exact ⟨rfl, bdN _ _ _⟩
  · have b1 : inS 0 2 s = false := by simpa using b1
    have HR : Hid (gR s a h = false) := by show _ = _; unfold gR; rw [b1]; rfl
    generalize gR s a h = r at *
    have HB1 : Hid (∀ w : World, Calls Try.prog 39 #[.int .i64 s, .int .i64 0, .int .i64 2] w fun e w' => e = .returned (.bool false) ∧ w' = w) := HB.out s 0 2 false b1
    clear b1 HB HT
    go_enter Try.func15, Try.ntmps15
    go_wp2_with fail
    go_quiet ((go_at_call 39; with_reducible exact Calls.quiet_of_same (HB1.out _)))
    go_wp2
    go_ret
    rw [HR.out]
    exact ⟨rfl, bdN _ _ _⟩
end Go.Proofs.Ytebaepkghbihkaa.gadget
