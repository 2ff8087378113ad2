/- slots: what atEnd answers. -/
import Derived.Test.YthjmcopknkemnaaSltG
namespace Go.Proofs.Ythjmcopknkemnaa.slots
open Go Go.RowKit
set_option linter.unusedVariables false
set_option linter.unusedSimpArgs false
set_option maxRecDepth 100000

set_option maxHeartbeats 8000000 in
theorem atEnd_any (s : List Int) (k n e a : Int) (w : World) (hs : s.length = 66) : Calls Try.prog 94 #[ag s, ag [k, n, e, a]] w fun r w' => r = .returned (.tuple #[ag (atE s k e a).1, .int .i64 (atE s k e a).2]) ∧ Below w.heap.size w w' := by
  have HL : Hid (s.length = 66) := hs
  have HE : Hid (0 + 66 ≤ s.length) := by show 0 + 66 ≤ _; omega
  have HC : Hid (cut s 0 66 = s) := cut_all hs
  have HK : Hid (∀ u, Calls Try.prog 74 #[.int .i64 e] u fun r w' => r = .returned (.bool (edB e)) ∧ u = w') := isEnd_any e
  have hM := Mm.nil w
  have q0 : ([k, n, e, a] : List Int)[0]? = some k := rfl
  have q2 : ([k, n, e, a] : List Int)[2]? = some e := rfl
  have q3 : ([k, n, e, a] : List Int)[3]? = some a := rfl
  have HQ0 : Hid _ := q0
  have HQ2 : Hid _ := q2
  have HQ3 : Hid _ := q3
  clear q0 q2 q3
  by_cases hb : edB e = false
  · have HQ : Hid (atE s k e a = (s, 5)) := by show atE s k e a = _; unfold atE; rw [if_pos hb]
    rw [hb] at HK
    clear hs hb
    go_enter Try.func94, Try.ntmps94
    repeat' (first | (go_big_may; first | (refine a_box rfl rfl rfl ?_; intro u zb hN; replace hM := hM.new hN; clear hN) | (refine a_alloc rfl zer_slot rfl ?_; intro u zb hN; replace hM := hM.new hN; clear hN) | (refine a_get rfl rfl rfl hM.at1 HQ2.out ?_)) | go_values | go_skip | go_guarded | go_step | go_upon | (simp only [Int.not_lt, Int.not_le] at *; go_simp))
    refine (HK.out _).mono ?_
    rintro r u ⟨rfl, rfl⟩
    repeat' (first | (go_big_may; first | (refine a_load rfl rfl row_slot rfl hM.at2 HE.out HC.out ?_) | (refine a_fill rfl rfl row_slot rfl rfl hM.at0 HL.out List.length_replicate ?_; intro u hv hc; replace hM := hM.put0 hc hv; clear hv hc)) | go_values | go_skip | go_guarded | go_step | go_upon | (simp only [Int.not_lt, Int.not_le] at *; go_simp))
    rw [HQ.out]
    exact bodyPost_ret (ret_2 Try.results94 rfl (ld_var row_slot hM.at0 HL.out) rfl) rfl ⟨rfl, hM.below⟩
  have hb : edB e = true := by simpa using hb
  obtain ⟨m, hm1, hm2, rfl⟩ : ∃ m : Nat, 1 ≤ m ∧ m ≤ 31 ∧ e = m := ⟨e.toNat, (ed_in hb).1, (ed_in hb).2.1, (ed_in hb).2.2.symm⟩
  have H0 : Hid (s[2 + m]? = some (cl s (2 + m))) := cl_at (by omega)
  rw [hb] at HK
  have ht : ((m : Int)).toNat = m := by omega
  by_cases h0 : cl s (2 + m) = 0
  · have HQ : Hid (atE s k (m : Int) a = (s, 12)) := by show atE s k m a = _; unfold atE en; rw [hb, if_neg (by simp), ht, if_pos h0]
    have e1 : (cl s (2 + m) == 0) = true := by simpa using h0
    clear hs hb ht
    go_enter Try.func94, Try.ntmps94
    repeat' (first | (go_big_may; first | (refine a_box rfl rfl rfl ?_; intro u zb hN; replace hM := hM.new hN; clear hN) | (refine a_alloc rfl zer_slot rfl ?_; intro u zb hN; replace hM := hM.new hN; clear hN) | (refine a_get rfl rfl rfl hM.at1 HQ2.out ?_)) | go_values | go_skip | go_guarded | go_step | go_upon | (simp only [Int.not_lt, Int.not_le] at *; go_simp))
    refine (HK.out _).mono ?_
    rintro r u ⟨rfl, rfl⟩
    repeat' (first | (go_big_may; first | (refine a_get rfl rfl rfl hM.at1 HQ2.out ?_) | (refine a_get rfl rfl rfl hM.at2 H0.out ?_) | (refine a_load rfl rfl row_slot rfl hM.at2 HE.out HC.out ?_) | (refine a_fill rfl rfl row_slot rfl rfl hM.at0 HL.out List.length_replicate ?_; intro u hv hc; replace hM := hM.put0 hc hv; clear hv hc)) | go_values | go_skip | go_guarded | go_step | go_upon | (simp only [Int.not_lt, Int.not_le] at *; go_simp))
    rw [HQ.out]
    exact bodyPost_ret (ret_2 Try.results94 rfl (ld_var row_slot hM.at0 HL.out) rfl) rfl ⟨rfl, hM.below⟩
  have e1 : (cl s (2 + m) == 0) = false := by simpa using h0
  by_cases h8 : k = 8
  · subst h8
    have HQ : Hid (atE s 8 (m : Int) a = mrk s m a) := by show atE s 8 m a = _; unfold atE en; rw [hb, if_neg (by simp), ht, if_neg h0, if_pos rfl]
    have HR : Hid (∀ u, Calls Try.prog 99 #[ag s, .int .i64 (m : Int), .int .i64 a] u fun r w' => r = .returned (.tuple #[ag (mrk s m a).1, .int .i64 (mrk s m a).2]) ∧ Below u.heap.size u w') := fun u => mark_any s m a u hs (by omega)
    have HL2 : Hid ((mrk s m a).1.length = 66) := mrk_length hs
    rw [HQ.out]
    clear hs hb h0 ht HQ
    generalize mrk s m a = y at *
    obtain ⟨y1, y2⟩ := y
    go_enter Try.func94, Try.ntmps94
    repeat' (first | (go_big_may; first | (refine a_box rfl rfl rfl ?_; intro u zb hN; replace hM := hM.new hN; clear hN) | (refine a_alloc rfl zer_slot rfl ?_; intro u zb hN; replace hM := hM.new hN; clear hN) | (refine a_get rfl rfl rfl hM.at1 HQ2.out ?_)) | go_values | go_skip | go_guarded | go_step | go_upon | (simp only [Int.not_lt, Int.not_le] at *; go_simp))
    refine (HK.out _).mono ?_
    rintro r u ⟨rfl, rfl⟩
    repeat' (first | (go_big_may; first | (refine a_get rfl rfl rfl hM.at1 HQ0.out ?_) | (refine a_get rfl rfl rfl hM.at1 HQ2.out ?_) | (refine a_get rfl rfl rfl hM.at1 HQ3.out ?_) | (refine a_get rfl rfl rfl hM.at2 H0.out ?_) | (refine a_load rfl rfl row_slot rfl hM.at2 HE.out HC.out ?_)) | go_values | go_skip | go_guarded | go_step | go_upon | (simp only [Int.not_lt, Int.not_le] at *; go_simp))
    refine (HR.out _).mono ?_
    rintro r v ⟨rfl, hv⟩
    replace hM := hM.call hv
    clear hv
    repeat' (first | (go_big_may; first | (refine a_fill rfl rfl row_slot rfl rfl hM.at0 HL2.out List.length_replicate ?_; intro u hv hc; replace hM := hM.put0 hc hv; clear hv hc)) | go_values | go_skip | go_guarded | go_step | go_upon | (simp only [Int.not_lt, Int.not_le] at *; go_simp))
    exact bodyPost_ret (ret_2 Try.results94 rfl (ld_var row_slot hM.at0 HL2.out) rfl) rfl ⟨rfl, hM.below⟩
  have e8 : (k == 8) = false := by simpa using h8
  have HR : Hid (∀ u, Calls Try.prog 100 #[.int .i64 k, .int .i64 (cl s (2 + m))] u fun r w' => r = .returned (.tuple #[.int .i64 (nxt k (cl s (2 + m))).1, .bool (nxt k (cl s (2 + m))).2]) ∧ u = w') := nextState_any _ _
  have HQ : Hid (atE s k (m : Int) a = if (nxt k (cl s (2 + m))).2 = true then (s.set (2 + m) (nxt k (cl s (2 + m))).1, 1) else (s, 19)) := by show atE s k m a = _; unfold atE en; rw [hb, if_neg (by simp), ht, if_neg h0, if_neg h8]
  rw [HQ.out]
  clear HQ hb h0 ht h8
  generalize nxt k (cl s (2 + m)) = y at *
  obtain ⟨y1, y2⟩ := y
  cases y2
  · clear hs
    go_enter Try.func94, Try.ntmps94
    repeat' (first | (go_big_may; first | (refine a_box rfl rfl rfl ?_; intro u zb hN; replace hM := hM.new hN; clear hN) | (refine a_alloc rfl zer_slot rfl ?_; intro u zb hN; replace hM := hM.new hN; clear hN) | (refine a_get rfl rfl rfl hM.at1 HQ2.out ?_)) | go_values | go_skip | go_guarded | go_step | go_upon | (simp only [Int.not_lt, Int.not_le] at *; go_simp))
    refine (HK.out _).mono ?_
    rintro r u ⟨rfl, rfl⟩
    repeat' (first | (go_big_may; first | (refine a_get rfl rfl rfl hM.at1 HQ0.out ?_) | (refine a_get rfl rfl rfl hM.at1 HQ2.out ?_) | (refine a_get rfl rfl rfl hM.at2 H0.out ?_)) | go_values | go_skip | go_guarded | go_step | go_upon | (simp only [Int.not_lt, Int.not_le] at *; go_simp))
    refine (HR.out _).mono ?_
    rintro r v ⟨rfl, rfl⟩
    repeat' (first | (go_big_may; first | (refine a_load rfl rfl row_slot rfl hM.at2 HE.out HC.out ?_) | (refine a_fill rfl rfl row_slot rfl rfl hM.at0 HL.out List.length_replicate ?_; intro u hv hc; replace hM := hM.put0 hc hv; clear hv hc)) | go_values | go_skip | go_guarded | go_step | go_upon | (simp only [Int.not_lt, Int.not_le] at *; go_simp))
    exact bodyPost_ret (ret_2 Try.results94 rfl (ld_var row_slot hM.at0 HL.out) rfl) rfl ⟨rfl, hM.below⟩
  · have HL2 : Hid ((s.set (2 + m) y1).length = 66) := by show _ = 66; rw [List.length_set]; exact hs
    have HC2 : Hid (cut (s.set (2 + m) y1) 0 66 = s.set (2 + m) y1) := cut_all HL2.out
    have HE2 : Hid (0 + 66 ≤ (s.set (2 + m) y1).length) := by show 0 + 66 ≤ _; rw [HL2.out]; omega
    have HJ : Hid (2 + m < s.length) := by show 2 + m < s.length; omega
    clear hs
    go_enter Try.func94, Try.ntmps94
    repeat' (first | (go_big_may; first | (refine a_box rfl rfl rfl ?_; intro u zb hN; replace hM := hM.new hN; clear hN) | (refine a_alloc rfl zer_slot rfl ?_; intro u zb hN; replace hM := hM.new hN; clear hN) | (refine a_get rfl rfl rfl hM.at1 HQ2.out ?_)) | go_values | go_skip | go_guarded | go_step | go_upon | (simp only [Int.not_lt, Int.not_le] at *; go_simp))
    refine (HK.out _).mono ?_
    rintro r u ⟨rfl, rfl⟩
    repeat' (first | (go_big_may; first | (refine a_get rfl rfl rfl hM.at1 HQ0.out ?_) | (refine a_get rfl rfl rfl hM.at1 HQ2.out ?_) | (refine a_get rfl rfl rfl hM.at2 H0.out ?_)) | go_values | go_skip | go_guarded | go_step | go_upon | (simp only [Int.not_lt, Int.not_le] at *; go_simp))
    refine (HR.out _).mono ?_
    rintro r v ⟨rfl, rfl⟩
    repeat' (first | (go_big_may; first | (refine a_get rfl rfl rfl hM.at1 HQ2.out ?_) | (refine a_put rfl rfl rfl rfl hM.at2 HJ.out ?_; intro u hv hc; replace hM := hM.put2 hc hv; clear hv hc) | (refine a_load rfl rfl row_slot rfl hM.at2 HE2.out HC2.out ?_) | (refine a_fill rfl rfl row_slot rfl rfl hM.at0 HL2.out List.length_replicate ?_; intro u hv hc; replace hM := hM.put0 hc hv; clear hv hc)) | go_values | go_skip | go_guarded | go_step | go_upon | (simp only [Int.not_lt, Int.not_le] at *; go_simp))
    exact bodyPost_ret (ret_2 Try.results94 rfl (ld_var row_slot hM.at0 HL2.out) rfl) rfl ⟨rfl, hM.below⟩
end Go.Proofs.Ythjmcopknkemnaa.slots
