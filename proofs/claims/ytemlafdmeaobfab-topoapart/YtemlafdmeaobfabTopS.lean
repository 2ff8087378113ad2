/- topo: what plugref's FindNode and Node answer. -/
import Derived.Test.YtemlafdmeaobfabTopL
import Derived.Test.YtemlafdmeaobfabTopG
import Derived.Test.YtemlafdmeaobfabRouG
namespace Go.Proofs.Ytemlafdmeaobfab.topo
open Go Go.RowKit Go.Proofs.Ytemlafdmeaobfab.route
set_option linter.unusedVariables false
set_option linter.unusedSimpArgs false
set_option maxRecDepth 100000

theorem between_any (a b c : Int) (w : World) : Calls Try.prog 40 #[.int .i64 a, .int .i64 b, .int .i64 c] w fun e w' => e = .returned (.bool (decide (b ≤ a) && decide (a ≤ c))) ∧ w = w' := by
  cases h1 : decide (b ≤ a) <;> cases h2 : decide (a ≤ c) <;> (go_enter Try.func40, Try.ntmps40; go_wp2; go_ret; exact ⟨rfl, rfl⟩)
def nod (z : Int) (k q : Int) (m : Nat) : Bool := if z ≠ 0 then false else if (decide (1 ≤ k) && decide (k ≤ 3)) = false then false else if k = 1 then (if (decide (1 ≤ q) && decide (q ≤ 15)) = true then decide (m ≤ 5) else false) else decide (q = 0)
theorem nod_is (n : Nd) : nod (chk n.1) n.2.1 n.2.2.1 n.1.length = !wrg n := by
  obtain ⟨p, k, q, s⟩ := n
  unfold nod wrg
  simp only
  by_cases h : chk p = 0
  · have := chk_ok h
    simp only [h, ne_eq, not_true_eq_false, if_false]
    by_cases h1 : k = 1
    · subst h1
      have e : (decide ((1 : Int) ≤ 1) && decide ((1 : Int) ≤ 3)) = true := by decide
      simp only [e, Bool.true_eq_false, if_false, if_true]
      by_cases h2 : 1 ≤ q ∧ q ≤ 15
      · have e2 : (decide (1 ≤ q) && decide (q ≤ 15)) = true := by simpa using h2
        rw [if_pos e2, Bool.eq_iff_iff]
        simp
        omega
      · have e2 : ¬ (decide (1 ≤ q) && decide (q ≤ 15)) = true := by simpa using h2
        rw [if_neg e2, Bool.eq_iff_iff]
        simp
        omega
    · simp only [h1, if_false]
      by_cases h2 : k = 2 ∨ k = 3
      · have e : (decide ((1 : Int) ≤ k) && decide (k ≤ 3)) = true := by simp; omega
        simp only [e, Bool.true_eq_false, if_false]
        rw [if_pos h2, Bool.eq_iff_iff]
        simp
      · have e : (decide ((1 : Int) ≤ k) && decide (k ≤ 3)) = false := by rw [Bool.and_eq_false_iff]; simp; omega
        simp only [e, if_true]
        rw [if_neg h2]
        rfl
  · simp only [h, ne_eq, not_false_eq_true, if_true]
    rfl
set_option maxHeartbeats 4000000 in
theorem node_any (v : Value) (n : Nd) (w : World) (h : Ris w v n.1) : Calls Try.prog 27 #[agv (ncl v n)] w fun e u => e = .returned (.bool (!wrg n)) ∧ Below w.heap.size w u := by
  rw [← nod_is]
  obtain ⟨p, k, q, s⟩ := n
  obtain ⟨a, c, rfl, hlc, hcm⟩ := h.form
  have HC : Hid (∀ u, Below w.heap.size w u → Calls Try.prog 39 #[.slice a p.length c] u fun e w' => e = .returned (.int .i64 (chk p)) ∧ u = w') := fun u hb => path_any _ p u (h.below hb)
  have HB1 : Hid (∀ u, Calls Try.prog 40 #[.int .i64 k, .int .i64 1, .int .i64 3] u fun e w' => e = .returned (.bool (decide (1 ≤ k) && decide (k ≤ 3))) ∧ u = w') := fun u => between_any k 1 3 u
  have HB2 : Hid (∀ u, Calls Try.prog 40 #[.int .i64 q, .int .i64 1, .int .i64 15] u fun e w' => e = .returned (.bool (decide (1 ≤ q) && decide (q ≤ 15))) ∧ u = w') := fun u => between_any q 1 15 u
  obtain ⟨R, hR⟩ : ∃ R, nod (chk p) k q p.length = R := ⟨_, rfl⟩
  simp only at hR ⊢
  rw [hR]
  unfold nod at hR
  obtain ⟨z, hz⟩ : ∃ z, chk p = z := ⟨_, rfl⟩
  obtain ⟨m, hm⟩ : ∃ m, p.length = m := ⟨_, rfl⟩
  obtain ⟨b1, hb1⟩ : ∃ b, (decide (1 ≤ k) && decide (k ≤ 3)) = b := ⟨_, rfl⟩
  obtain ⟨b2, hb2⟩ : ∃ b, (decide (1 ≤ q) && decide (q ≤ 15)) = b := ⟨_, rfl⟩
  simp only [hz, hm, hb1, hb2] at HC HB1 HB2 hR hlc ⊢
  have G0 : Hid ((ncl (.slice a m c) (p, k, q, s))[0]? = some (.slice a m c)) := rfl
  have G1 : Hid ((ncl (.slice a m c) (p, k, q, s))[1]? = some (.int .i64 k)) := rfl
  have G2 : Hid ((ncl (.slice a m c) (p, k, q, s))[2]? = some (.int .i64 q)) := rfl
  unfold maxLen at hcm
  have hM := Mm.nil w
  clear h hz hm hb1 hb2
  by_cases h1 : z ≠ 0
  · rw [if_pos h1] at hR
    subst hR
    have e1 : (z != 0) = true := by simpa using h1
    clear h1
    go_enter Try.func27, Try.ntmps27
    repeat' (first | (go_big_may; first | (refine v_box rfl rfl rfl ?_; intro u xb hN; replace hM := hM.new hN; clear hN) | (refine v_get rfl rfl (.inr rfl) rfl hM.at0 G0.out ?_)) | go_values | go_skip | go_guarded | go_step | go_upon | (simp only [Int.not_lt, Int.not_le] at *; go_simp))
    refine (HC.out _ hM.below).mono ?_
    rintro e u1 ⟨rfl, rfl⟩
    repeat' (first | go_values | go_skip | go_guarded | go_step | go_upon | (simp only [Int.not_lt, Int.not_le] at *; go_simp))
    go_ret
    exact ⟨rfl, hM.below⟩
  rw [if_neg h1] at hR
  have h1 : z = 0 := Classical.not_not.1 h1
  subst h1
  have e1 : ((0 : Int) != 0) = false := rfl
  cases b1 with
  | false =>
    rw [if_pos rfl] at hR
    subst hR
    go_enter Try.func27, Try.ntmps27
    repeat' (first | (go_big_may; first | (refine v_box rfl rfl rfl ?_; intro u xb hN; replace hM := hM.new hN; clear hN) | (refine v_get rfl rfl (.inr rfl) rfl hM.at0 G0.out ?_)) | go_values | go_skip | go_guarded | go_step | go_upon | (simp only [Int.not_lt, Int.not_le] at *; go_simp))
    refine (HC.out _ hM.below).mono ?_
    rintro e u1 ⟨rfl, rfl⟩
    repeat' (first | (go_big_may; first | (refine v_get rfl rfl (.inl rfl) rfl hM.at0 G1.out ?_)) | go_values | go_skip | go_guarded | go_step | go_upon | (simp only [Int.not_lt, Int.not_le] at *; go_simp))
    refine (HB1.out _).mono ?_
    rintro e u1 ⟨rfl, rfl⟩
    repeat' (first | go_values | go_skip | go_guarded | go_step | go_upon | (simp only [Int.not_lt, Int.not_le] at *; go_simp))
    go_ret
    exact ⟨rfl, hM.below⟩
  | true =>
  rw [if_neg (by simp)] at hR
  by_cases h2 : k = 1
  · subst h2
    rw [if_pos rfl] at hR
    cases b2 with
    | false =>
      rw [if_neg (by simp)] at hR
      subst hR
      go_enter Try.func27, Try.ntmps27
      repeat' (first | (go_big_may; first | (refine v_box rfl rfl rfl ?_; intro u xb hN; replace hM := hM.new hN; clear hN) | (refine v_get rfl rfl (.inr rfl) rfl hM.at0 G0.out ?_)) | go_values | go_skip | go_guarded | go_step | go_upon | (simp only [Int.not_lt, Int.not_le] at *; go_simp))
      refine (HC.out _ hM.below).mono ?_
      rintro e u1 ⟨rfl, rfl⟩
      repeat' (first | (go_big_may; first | (refine v_get rfl rfl (.inl rfl) rfl hM.at0 G1.out ?_)) | go_values | go_skip | go_guarded | go_step | go_upon | (simp only [Int.not_lt, Int.not_le] at *; go_simp))
      refine (HB1.out _).mono ?_
      rintro e u1 ⟨rfl, rfl⟩
      repeat' (first | (go_big_may; first | (refine v_get rfl rfl (.inl rfl) rfl hM.at0 G1.out ?_) | (refine v_get rfl rfl (.inl rfl) rfl hM.at0 G2.out ?_)) | go_values | go_skip | go_guarded | go_step | go_upon | (simp only [Int.not_lt, Int.not_le] at *; go_simp))
      refine (HB2.out _).mono ?_
      rintro e u1 ⟨rfl, rfl⟩
      repeat' (first | go_values | go_skip | go_guarded | go_step | go_upon | (simp only [Int.not_lt, Int.not_le] at *; go_simp))
      go_ret
      exact ⟨rfl, hM.below⟩
    | true =>
      rw [if_pos rfl] at hR
      have c3 : decide ((m : Int) ≤ 5) = R := by rw [← hR, decide_eq_decide]; omega
      clear hR
      go_enter Try.func27, Try.ntmps27
      repeat' (first | (go_big_may; first | (refine v_box rfl rfl rfl ?_; intro u xb hN; replace hM := hM.new hN; clear hN) | (refine v_get rfl rfl (.inr rfl) rfl hM.at0 G0.out ?_)) | go_values | go_skip | go_guarded | go_step | go_upon | (simp only [Int.not_lt, Int.not_le] at *; go_simp))
      refine (HC.out _ hM.below).mono ?_
      rintro e u1 ⟨rfl, rfl⟩
      repeat' (first | (go_big_may; first | (refine v_get rfl rfl (.inl rfl) rfl hM.at0 G1.out ?_)) | go_values | go_skip | go_guarded | go_step | go_upon | (simp only [Int.not_lt, Int.not_le] at *; go_simp))
      refine (HB1.out _).mono ?_
      rintro e u1 ⟨rfl, rfl⟩
      repeat' (first | (go_big_may; first | (refine v_get rfl rfl (.inl rfl) rfl hM.at0 G1.out ?_) | (refine v_get rfl rfl (.inl rfl) rfl hM.at0 G2.out ?_)) | go_values | go_skip | go_guarded | go_step | go_upon | (simp only [Int.not_lt, Int.not_le] at *; go_simp))
      refine (HB2.out _).mono ?_
      rintro e u1 ⟨rfl, rfl⟩
      repeat' (first | (go_big_may; first | (refine v_get rfl rfl (.inr rfl) rfl hM.at0 G0.out ?_)) | go_values | go_skip | go_guarded | go_step | go_upon | (simp only [Int.not_lt, Int.not_le] at *; go_simp))
      go_ret
      exact ⟨by simp only [← c3]; first | rfl | congr, hM.below⟩
  rw [if_neg h2] at hR
  have e2 : (k == 1) = false := by simpa using h2
  have c3 : (q == 0) = R := by rw [← hR, Bool.eq_iff_iff]; simp
  clear h2 hR
  go_enter Try.func27, Try.ntmps27
  repeat' (first | (go_big_may; first | (refine v_box rfl rfl rfl ?_; intro u xb hN; replace hM := hM.new hN; clear hN) | (refine v_get rfl rfl (.inr rfl) rfl hM.at0 G0.out ?_)) | go_values | go_skip | go_guarded | go_step | go_upon | (simp only [Int.not_lt, Int.not_le] at *; go_simp))
  refine (HC.out _ hM.below).mono ?_
  rintro e u1 ⟨rfl, rfl⟩
  repeat' (first | (go_big_may; first | (refine v_get rfl rfl (.inl rfl) rfl hM.at0 G1.out ?_)) | go_values | go_skip | go_guarded | go_step | go_upon | (simp only [Int.not_lt, Int.not_le] at *; go_simp))
  refine (HB1.out _).mono ?_
  rintro e u1 ⟨rfl, rfl⟩
  repeat' (first | (go_big_may; first | (refine v_get rfl rfl (.inl rfl) rfl hM.at0 G1.out ?_) | (refine v_get rfl rfl (.inl rfl) rfl hM.at0 G2.out ?_)) | go_values | go_skip | go_guarded | go_step | go_upon | (simp only [Int.not_lt, Int.not_le] at *; go_simp))
  go_ret
  exact ⟨rfl, hM.below⟩
end Go.Proofs.Ytemlafdmeaobfab.topo
