/- topo: what checkPlug, slices.BinarySearchFunc and copyOfAll answer. -/
import Derived.Test.YtemlafdmeaobfabTopD
namespace Go.Proofs.Ytemlafdmeaobfab.topo
open Go Go.RowKit Go.Proofs.Ytemlafdmeaobfab.route
set_option linter.unusedVariables false
set_option linter.unusedSimpArgs false
set_option maxRecDepth 100000

set_option maxHeartbeats 4000000 in
theorem checkPlug_any (v nv : Value) (L : NL) (n : Nd) (w : World) (h : Rt w v L) (hp : Ris w nv n.1) (h48 : ok48 L) : Calls Try.prog 16 #[v, agv (ncl nv n)] w fun e u => e = .returned (.int .i64 (plC (tr L) n)) ∧ Below w.heap.size w u := by
  have HC : Hid (∀ u, Below w.heap.size w u → Calls Try.prog 24 #[v] u fun e u' => e = .returned (.int .i64 (chkT (tr L))) ∧ Below u.heap.size u u') := fun u hb => check_any2 v L u (h.below hb) h48
  have HW : Hid (∀ u, Below w.heap.size w u → Calls Try.prog 30 #[agv (ncl nv n)] u fun e u' => e = .returned (.bool (wrg n)) ∧ Below u.heap.size u u') := fun u hb => isWrong_any nv n u (hp.below hb)
  have HH : Hid (∀ u, Below w.heap.size w u → Calls Try.prog 25 #[v, nv] u fun e u' => e = .returned (.bool (fnB (tr L) n.1)) ∧ Below u.heap.size u u') := fun u hb => has_any v nv L n.1 u (h.below hb) (hp.below hb) h48
  have HF : Hid (∀ u, wrg n = false → Below w.heap.size w u → Calls Try.prog 31 #[v, agv (ncl nv n)] u fun e u' => e = .returned (.bool (fit (tr L) n)) ∧ Below u.heap.size u u') := fun u hr hb => fits_any v nv L n u (h.below hb) (hp.below hb) h48 (chk_ok (wrg_no.1 hr).1).1 (chk_ok (wrg_no.1 hr).1).2.1
  obtain ⟨a, c, rfl, hlc, hcm⟩ := h.form
  unfold plC
  rw [tr_len, show (fnd (tr L) n.1).isSome = fnB (tr L) n.1 from rfl]
  obtain ⟨m, hm⟩ : ∃ m, L.length = m := ⟨_, rfl⟩
  rw [hm] at HC HH HF hlc ⊢
  obtain ⟨cc, hcc⟩ : ∃ x, chkT (tr L) = x := ⟨_, rfl⟩
  obtain ⟨x, hx⟩ : ∃ x, wrg n = x := ⟨_, rfl⟩
  obtain ⟨y, hy⟩ : ∃ x, fnB (tr L) n.1 = x := ⟨_, rfl⟩
  obtain ⟨z, hz⟩ : ∃ x, fit (tr L) n = x := ⟨_, rfl⟩
  simp only [hcc, hx, hy, hz] at HC HW HH HF ⊢
  have G0 : Hid ((ncl nv n)[0]? = some nv) := rfl
  unfold maxLen at hcm
  have hM := Mm.nil w
  clear h hp hm hcc hx hy hz h48
  by_cases h1 : cc ≠ 0
  · rw [if_pos h1]
    have e1 : (cc != 0) = true := by simpa using h1
    clear h1
    go_enter Try.func16, Try.ntmps16
    repeat' (first | (go_big_may; first | (refine v_box rfl rfl rfl ?_; intro u xn hN; replace hM := hM.new hN; clear hN)) | go_values | go_skip | go_guarded | go_step | go_upon | (simp only [Int.not_lt, Int.not_le] at *; go_simp))
    refine (HC.out _ hM.below).mono ?_
    rintro e u1 ⟨rfl, hb⟩
    replace hM := hM.call hb
    clear hb
    repeat' (first | go_values | go_skip | go_guarded | go_step | go_upon | (simp only [Int.not_lt, Int.not_le] at *; go_simp))
    go_ret
    exact ⟨rfl, hM.below⟩
  rw [if_neg h1]
  have h1 : cc = 0 := Classical.not_not.1 h1
  subst h1
  have e1 : ((0 : Int) != 0) = false := rfl
  cases x with
  | true =>
    rw [if_pos rfl]
    clear HF HH
    go_enter Try.func16, Try.ntmps16
    repeat' (first | (go_big_may; first | (refine v_box rfl rfl rfl ?_; intro u xn hN; replace hM := hM.new hN; clear hN)) | go_values | go_skip | go_guarded | go_step | go_upon | (simp only [Int.not_lt, Int.not_le] at *; go_simp))
    refine (HC.out _ hM.below).mono ?_
    rintro e u1 ⟨rfl, hb⟩
    replace hM := hM.call hb
    clear hb
    repeat' (first | (go_big_may; first | (refine v_load rfl rfl row_node rfl hM.at0 (Nat.le_refl 4) rfl ?_)) | go_values | go_skip | go_guarded | go_step | go_upon | (simp only [Int.not_lt, Int.not_le] at *; go_simp))
    refine (HW.out _ hM.below).mono ?_
    rintro e u2 ⟨rfl, hb⟩
    replace hM := hM.call hb
    clear hb
    repeat' (first | go_values | go_skip | go_guarded | go_step | go_upon | (simp only [Int.not_lt, Int.not_le] at *; go_simp))
    go_ret
    exact ⟨rfl, hM.below⟩
  | false =>
  have HF2 : Hid (∀ u, Below w.heap.size w u → Calls Try.prog 31 #[.slice a m c, agv (ncl nv n)] u fun e u' => e = .returned (.bool z) ∧ Below u.heap.size u u') := fun u hb => HF.out u (by first | rfl | trivial) hb
  clear HF
  rw [if_neg (by simp)]
  cases y with
  | true =>
    rw [if_pos rfl]
    clear HF2
    go_enter Try.func16, Try.ntmps16
    repeat' (first | (go_big_may; first | (refine v_box rfl rfl rfl ?_; intro u xn hN; replace hM := hM.new hN; clear hN)) | go_values | go_skip | go_guarded | go_step | go_upon | (simp only [Int.not_lt, Int.not_le] at *; go_simp))
    refine (HC.out _ hM.below).mono ?_
    rintro e u1 ⟨rfl, hb⟩
    replace hM := hM.call hb
    clear hb
    repeat' (first | (go_big_may; first | (refine v_load rfl rfl row_node rfl hM.at0 (Nat.le_refl 4) rfl ?_)) | go_values | go_skip | go_guarded | go_step | go_upon | (simp only [Int.not_lt, Int.not_le] at *; go_simp))
    refine (HW.out _ hM.below).mono ?_
    rintro e u2 ⟨rfl, hb⟩
    replace hM := hM.call hb
    clear hb
    repeat' (first | (go_big_may; first | (refine v_get rfl rfl (.inr rfl) rfl hM.at0 G0.out ?_)) | go_values | go_skip | go_guarded | go_step | go_upon | (simp only [Int.not_lt, Int.not_le] at *; go_simp))
    refine (HH.out _ hM.below).mono ?_
    rintro e u3 ⟨rfl, hb⟩
    replace hM := hM.call hb
    clear hb
    repeat' (first | go_values | go_skip | go_guarded | go_step | go_upon | (simp only [Int.not_lt, Int.not_le] at *; go_simp))
    go_ret
    exact ⟨rfl, hM.below⟩
  | false =>
  rw [if_neg (by simp)]
  cases z with
  | false =>
    rw [if_pos rfl]
    go_enter Try.func16, Try.ntmps16
    repeat' (first | (go_big_may; first | (refine v_box rfl rfl rfl ?_; intro u xn hN; replace hM := hM.new hN; clear hN)) | go_values | go_skip | go_guarded | go_step | go_upon | (simp only [Int.not_lt, Int.not_le] at *; go_simp))
    refine (HC.out _ hM.below).mono ?_
    rintro e u1 ⟨rfl, hb⟩
    replace hM := hM.call hb
    clear hb
    repeat' (first | (go_big_may; first | (refine v_load rfl rfl row_node rfl hM.at0 (Nat.le_refl 4) rfl ?_)) | go_values | go_skip | go_guarded | go_step | go_upon | (simp only [Int.not_lt, Int.not_le] at *; go_simp))
    refine (HW.out _ hM.below).mono ?_
    rintro e u2 ⟨rfl, hb⟩
    replace hM := hM.call hb
    clear hb
    repeat' (first | (go_big_may; first | (refine v_get rfl rfl (.inr rfl) rfl hM.at0 G0.out ?_)) | go_values | go_skip | go_guarded | go_step | go_upon | (simp only [Int.not_lt, Int.not_le] at *; go_simp))
    refine (HH.out _ hM.below).mono ?_
    rintro e u3 ⟨rfl, hb⟩
    replace hM := hM.call hb
    clear hb
    repeat' (first | (go_big_may; first | (refine v_load rfl rfl row_node rfl hM.at0 (Nat.le_refl 4) rfl ?_)) | go_values | go_skip | go_guarded | go_step | go_upon | (simp only [Int.not_lt, Int.not_le] at *; go_simp))
    refine (HF2.out _ hM.below).mono ?_
    rintro e u4 ⟨rfl, hb⟩
    replace hM := hM.call hb
    clear hb
    repeat' (first | go_values | go_skip | go_guarded | go_step | go_upon | (simp only [Int.not_lt, Int.not_le] at *; go_simp))
    go_ret
    exact ⟨rfl, hM.below⟩
  | true =>
  rw [if_neg (by simp)]
  by_cases h4 : m = 40
  · subst h4
    rw [if_pos rfl]
    go_enter Try.func16, Try.ntmps16
    repeat' (first | (go_big_may; first | (refine v_box rfl rfl rfl ?_; intro u xn hN; replace hM := hM.new hN; clear hN)) | go_values | go_skip | go_guarded | go_step | go_upon | (simp only [Int.not_lt, Int.not_le] at *; go_simp))
    refine (HC.out _ hM.below).mono ?_
    rintro e u1 ⟨rfl, hb⟩
    replace hM := hM.call hb
    clear hb
    repeat' (first | (go_big_may; first | (refine v_load rfl rfl row_node rfl hM.at0 (Nat.le_refl 4) rfl ?_)) | go_values | go_skip | go_guarded | go_step | go_upon | (simp only [Int.not_lt, Int.not_le] at *; go_simp))
    refine (HW.out _ hM.below).mono ?_
    rintro e u2 ⟨rfl, hb⟩
    replace hM := hM.call hb
    clear hb
    repeat' (first | (go_big_may; first | (refine v_get rfl rfl (.inr rfl) rfl hM.at0 G0.out ?_)) | go_values | go_skip | go_guarded | go_step | go_upon | (simp only [Int.not_lt, Int.not_le] at *; go_simp))
    refine (HH.out _ hM.below).mono ?_
    rintro e u3 ⟨rfl, hb⟩
    replace hM := hM.call hb
    clear hb
    repeat' (first | (go_big_may; first | (refine v_load rfl rfl row_node rfl hM.at0 (Nat.le_refl 4) rfl ?_)) | go_values | go_skip | go_guarded | go_step | go_upon | (simp only [Int.not_lt, Int.not_le] at *; go_simp))
    refine (HF2.out _ hM.below).mono ?_
    rintro e u4 ⟨rfl, hb⟩
    replace hM := hM.call hb
    clear hb
    repeat' (first | go_values | go_skip | go_guarded | go_step | go_upon | (simp only [Int.not_lt, Int.not_le] at *; go_simp))
    go_ret
    exact ⟨rfl, hM.below⟩
  · rw [if_neg h4]
    have e4 : ((m : Int) == 40) = false := by rw [beq_eq_false_iff_ne]; omega
    clear h4
    go_enter Try.func16, Try.ntmps16
    repeat' (first | (go_big_may; first | (refine v_box rfl rfl rfl ?_; intro u xn hN; replace hM := hM.new hN; clear hN)) | go_values | go_skip | go_guarded | go_step | go_upon | (simp only [Int.not_lt, Int.not_le] at *; go_simp))
    refine (HC.out _ hM.below).mono ?_
    rintro e u1 ⟨rfl, hb⟩
    replace hM := hM.call hb
    clear hb
    repeat' (first | (go_big_may; first | (refine v_load rfl rfl row_node rfl hM.at0 (Nat.le_refl 4) rfl ?_)) | go_values | go_skip | go_guarded | go_step | go_upon | (simp only [Int.not_lt, Int.not_le] at *; go_simp))
    refine (HW.out _ hM.below).mono ?_
    rintro e u2 ⟨rfl, hb⟩
    replace hM := hM.call hb
    clear hb
    repeat' (first | (go_big_may; first | (refine v_get rfl rfl (.inr rfl) rfl hM.at0 G0.out ?_)) | go_values | go_skip | go_guarded | go_step | go_upon | (simp only [Int.not_lt, Int.not_le] at *; go_simp))
    refine (HH.out _ hM.below).mono ?_
    rintro e u3 ⟨rfl, hb⟩
    replace hM := hM.call hb
    clear hb
    repeat' (first | (go_big_may; first | (refine v_load rfl rfl row_node rfl hM.at0 (Nat.le_refl 4) rfl ?_)) | go_values | go_skip | go_guarded | go_step | go_upon | (simp only [Int.not_lt, Int.not_le] at *; go_simp))
    refine (HF2.out _ hM.below).mono ?_
    rintro e u4 ⟨rfl, hb⟩
    replace hM := hM.call hb
    clear hb
    repeat' (first | go_values | go_skip | go_guarded | go_step | go_upon | (simp only [Int.not_lt, Int.not_le] at *; go_simp))
    go_ret
    exact ⟨rfl, hM.below⟩
end Go.Proofs.Ytemlafdmeaobfab.topo
