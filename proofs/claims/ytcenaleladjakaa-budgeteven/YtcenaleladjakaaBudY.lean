/- budget, the document's answer: Between, Tasks, Clash. -/
import Derived.Test.YtcenaleladjakaaBudV
namespace Go.Proofs.Ytcenaleladjakaa.budget
open Go Go.RowKit
set_option linter.unusedVariables false
set_option linter.unusedSimpArgs false
set_option maxRecDepth 100000

set_option maxHeartbeats 1000000 in
theorem between_any (n lo hi : Int) (w : World) : Calls Try.prog 27 #[.int .i64 n, .int .i64 lo, .int .i64 hi] w fun e w' => e = .returned (.bool (decide (lo ≤ n) && decide (n ≤ hi))) ∧ w = w' := by
  cases h1 : decide (lo ≤ n)
  · have h1' : ¬ lo ≤ n := of_decide_eq_false h1
    go_enter Try.func27, Try.ntmps27
    go_wp2
    go_ret
    exact ⟨rfl, rfl⟩
  · have h1' : lo ≤ n := of_decide_eq_true h1
    cases h2 : decide (n ≤ hi)
    · have h2' : ¬ n ≤ hi := of_decide_eq_false h2
      go_enter Try.func27, Try.ntmps27
      go_wp2
      go_ret
      exact ⟨rfl, rfl⟩
    · have h2' : n ≤ hi := of_decide_eq_true h2
      go_enter Try.func27, Try.ntmps27
      go_wp2
      go_ret
      exact ⟨rfl, rfl⟩
theorem nop_tbl : ((List.range 33).all fun q => q == 0 || (nop (q : Int) == !(32 % q == 0))) = true := by decide +kernel
theorem nop_mid {p : Int} (h1 : ¬ p < 1) (h2 : ¬ 32 < p) : nop p = !((32 : Int).tmod p == 0) := by
  obtain ⟨q, rfl⟩ := Int.eq_ofNat_of_zero_le (show 0 ≤ p by omega)
  have hq : q ∈ List.range 33 := List.mem_range.2 (by omega)
  have := List.all_eq_true.1 nop_tbl q hq
  have hq0 : (q == 0) = false := by simp; omega
  rw [hq0, Bool.false_or] at this
  have e : (32 : Int) % (q : Int) = ((32 % q : Nat) : Int) := by simp
  rw [beq_iff_eq.1 this, Int.tmod_eq_emod_of_nonneg (by omega), e]
  congr 1
  rw [Bool.eq_iff_iff, beq_iff_eq, beq_iff_eq]
  omega
theorem nop_out {p : Int} (h : p < 1 ∨ 32 < p) : nop p = true := by
  unfold nop
  simp
  omega
set_option maxHeartbeats 2000000 in
theorem tasks_any (v : Value) (P : List Int) (m : Int) (w : World) (hv : Ris w v P) : Calls Try.prog 23 #[v, .int .i64 m] w fun e w' => e = .returned (.int .i64 (chk P m)) ∧ w = w' := by
  obtain ⟨a, c, rfl, hlc, hcm⟩ := hv.form
  have HB : Hid (Calls Try.prog 27 #[.int .i64 m, .int .i64 1, .int .i64 8] w fun e w' => e = .returned (.bool (decide (1 ≤ m) && decide (m ≤ 8))) ∧ w = w') := between_any m 1 8 w
  unfold chk
  by_cases h1 : m < 1 ∨ 8 < m
  · rw [if_pos h1]
    rw [show (decide (1 ≤ m) && decide (m ≤ 8)) = false by simp; omega] at HB
    generalize P.length = n at *
    clear hv h1
    go_enter Try.func23, Try.ntmps23
    go_wp2_with fail
    refine (HB.out).mono ?_
    rintro e u ⟨rfl, rfl⟩
    clear HB
    go_wp2
    go_ret
    exact ⟨rfl, rfl⟩
  rw [if_neg h1]
  rw [show (decide (1 ≤ m) && decide (m ≤ 8)) = true by simp; omega] at HB
  obtain ⟨n, hn⟩ : ∃ n, P.length = n := ⟨_, rfl⟩
  have HN : Hid (P.length = n) := hn
  rw [hn] at hv hlc ⊢
  unfold maxLen at hcm
  by_cases h2 : 64 < n
  · rw [if_pos h2]
    clear hv h1 hn
    go_enter Try.func23, Try.ntmps23
    go_wp2_with fail
    refine (HB.out).mono ?_
    rintro e u ⟨rfl, rfl⟩
    clear HB
    go_wp2
    go_ret
    exact ⟨rfl, rfl⟩
  rw [if_neg h2]
  have HP : Hid ((P.drop 0).any nop = anyNo P) := rfl
  have HR : Hid (Ris w (.slice a n c) P) := hv
  obtain ⟨R, hR⟩ : ∃ R, anyNo P = R := ⟨_, rfl⟩
  rw [hR] at HP ⊢
  obtain ⟨z, hz⟩ : ∃ z : Int, (if R = true then (1 : Int) else 0) = z := ⟨_, rfl⟩
  have HZ : Hid ((if R = true then (1 : Int) else 0) = z) := hz
  rw [hz]
  clear hv h1 hn hR hz
  go_enter Try.func23, Try.ntmps23
  go_wp2_with fail
  refine (HB.out).mono ?_
  rintro e u ⟨rfl, rfl⟩
  clear HB
  go_wp2
  go_loopw [6, 15] (fun _ i wr => ∃ k : Nat, k ≤ n ∧ i = .int .i64 (k : Int) ∧ w = wr ∧ Hid ((P.drop k).any nop = R)) (fun _ i _ => n - (intOf i).toNat)
  case atStart => exact ⟨0, Nat.zero_le _, rfl, rfl, HP.out⟩
  case round =>
    clear HP
    obtain ⟨k, hk, rfl, rfl, HA⟩ := hrel
    by_cases hlt : ¬ k < n
    · have HQ : Hid (z = 0) := by
        have := HA.out
        rw [List.drop_eq_nil_of_le (by have := HN.out; omega)] at this
        show z = 0
        rw [← HZ.out, ← this]
        rfl
      clear HA HR HZ
      go_wp2
      go_ret
      rw [HQ.out]
      exact ⟨rfl, rfl⟩
    have hlt : k < n := by omega
    obtain ⟨p, hp⟩ : ∃ p, P[k]? = some p := ⟨P[k]'(by have := HN.out; omega), List.getElem?_eq_getElem _⟩
    obtain ⟨g, off, rfl, hcell⟩ := HR.out.at k p hp
    have HA2 : Hid ((nop p || (P.drop (k + 1)).any nop) = R) := by have := HA.out; rw [any_at hp] at this; exact this
    have HY : Hid (nop p = true → z = 1) := fun q => by have := HA2.out; rw [q, Bool.true_or] at this; rw [← HZ.out, ← this]; rfl
    have HNo : Hid (nop p = false → (P.drop (k + 1)).any nop = R) := fun q => by have := HA2.out; rw [q, Bool.false_or] at this; exact this
    clear HA HA2 hp HZ HR
    by_cases c1 : p < 1
    · have HQ : Hid (z = 1) := HY.out (nop_out (.inl c1))
      clear HY HNo
      go_wp2
      go_ret
      rw [HQ.out]
      exact ⟨rfl, rfl⟩
    by_cases c2 : 32 < p
    · have HQ : Hid (z = 1) := HY.out (nop_out (.inr c2))
      clear HY HNo
      go_wp2
      go_ret
      rw [HQ.out]
      exact ⟨rfl, rfl⟩
    have hno := nop_mid c1 c2
    obtain ⟨r, hr⟩ : ∃ r, (32 : Int).tmod p = r := ⟨_, rfl⟩
    rw [hr] at hno
    have p1 : ¬ p = 0 := by omega
    have p0 : (p == 0) = false := by simpa using p1
    have hr1 : 0 ≤ r ∧ r ≤ 32 := by
      obtain ⟨q, rfl⟩ := Int.eq_ofNat_of_zero_le (show 0 ≤ p by omega)
      have e : (32 : Int) % (q : Int) = ((32 % q : Nat) : Int) := by simp
      rw [← hr, Int.tmod_eq_emod_of_nonneg (by omega), e]
      have : (32 % q : Nat) ≤ 32 := Nat.mod_le _ _
      omega
    obtain ⟨hr2, hr3⟩ := hr1
    by_cases c3 : r = 0
    · have HQ : Hid ((P.drop (k + 1)).any nop = R) := HNo.out (by rw [hno]; simp [c3])
      have e3 : (r != 0) = false := by simp [c3]
      clear HY HNo hno c3
      go_wp2
      go_roundw
      case rel => exact ⟨k + 1, by omega, by go_num, trivial, HQ.out⟩
      case measure => simp [intOf]; omega
    · have HQ : Hid (z = 1) := HY.out (by rw [hno]; simp [c3])
      have e3 : (r != 0) = true := by simp [c3]
      clear HY HNo hno c3
      go_wp2
      go_ret
      rw [HQ.out]
      exact ⟨rfl, rfl⟩
end Go.Proofs.Ytcenaleladjakaa.budget
