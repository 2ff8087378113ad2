/- slots, the document's answer: what EndDone answers. -/
import Derived.Test.YtfhlbndilkidhaaSltT
import Derived.BigQuiet
namespace Go.Proofs.Ytfhlbndilkidhaa.slots
open Go Go.RowKit
set_option linter.unusedVariables false
set_option linter.unusedSimpArgs false
set_option maxRecDepth 100000

theorem Mm.drewN {w u : World} {L : List Bk} (h : Mm w u L) (n : Nat) : Mm w (u.drewN n) L := ⟨h.lies, h.own, h.ap, ⟨h.below.os, h.below.tape, h.below.output, h.below.size, h.below.block⟩⟩
theorem set_same {s : List Int} {j : Nat} {x : Int} (h : cl s j = x) : s.set j x = s := by
  refine List.ext_getElem? fun i => ?_
  rw [List.getElem?_set]
  by_cases q : j = i
  · subst q
    by_cases hl : j < s.length
    · rw [if_pos rfl, if_pos hl, cl_at hl, h]
    · rw [if_pos rfl, if_neg hl, List.getElem?_eq_none (by omega)]
  · rw [if_neg q]
theorem atE_6_1 {s : List Int} {m : Nat} {a : Int} (hed : edB (m : Int) = true) (hE : cl s (2 + m) = 1) : atE s 6 (m : Int) a = (s, 19) := by
  have ht : ((m : Nat) : Int).toNat = m := by omega
  have he : en s m = 1 := hE
  unfold atE
  rw [hed, if_neg (by simp), ht, he, if_neg (by omega)]
  rw [if_neg (by omega)]
  have : nxt 6 1 = (3, false) := rfl
  rw [this]
  rw [if_neg (by simp)]
theorem atE_6_2 {s : List Int} {m : Nat} {a : Int} (hed : edB (m : Int) = true) (hE : cl s (2 + m) = 2) : atE s 6 (m : Int) a = (s.set (2 + m) 3, 1) := by
  have ht : ((m : Nat) : Int).toNat = m := by omega
  have he : en s m = 2 := hE
  unfold atE
  rw [hed, if_neg (by simp), ht, he, if_neg (by omega)]
  rw [if_neg (by omega)]
  have : nxt 6 2 = (3, true) := rfl
  rw [this]
  rw [if_pos rfl]
theorem atE_6_3 {s : List Int} {m : Nat} {a : Int} (hed : edB (m : Int) = true) (hE : cl s (2 + m) = 3) : atE s 6 (m : Int) a = (s, 19) := by
  have ht : ((m : Nat) : Int).toNat = m := by omega
  have he : en s m = 3 := hE
  unfold atE
  rw [hed, if_neg (by simp), ht, he, if_neg (by omega)]
  rw [if_neg (by omega)]
  have : nxt 6 3 = (3, false) := rfl
  rw [this]
  rw [if_neg (by simp)]
theorem atE_7_1 {s : List Int} {m : Nat} {a : Int} (hed : edB (m : Int) = true) (hE : cl s (2 + m) = 1) : atE s 7 (m : Int) a = (s.set (2 + m) 3, 1) := by
  have ht : ((m : Nat) : Int).toNat = m := by omega
  have he : en s m = 1 := hE
  unfold atE
  rw [hed, if_neg (by simp), ht, he, if_neg (by omega)]
  rw [if_neg (by omega)]
  have : nxt 7 1 = (3, true) := rfl
  rw [this]
  rw [if_pos rfl]
theorem atE_7_2 {s : List Int} {m : Nat} {a : Int} (hed : edB (m : Int) = true) (hE : cl s (2 + m) = 2) : atE s 7 (m : Int) a = (s, 19) := by
  have ht : ((m : Nat) : Int).toNat = m := by omega
  have he : en s m = 2 := hE
  unfold atE
  rw [hed, if_neg (by simp), ht, he, if_neg (by omega)]
  rw [if_neg (by omega)]
  have : nxt 7 2 = (3, false) := rfl
  rw [this]
  rw [if_neg (by simp)]
theorem atE_7_3 {s : List Int} {m : Nat} {a : Int} (hed : edB (m : Int) = true) (hE : cl s (2 + m) = 3) : atE s 7 (m : Int) a = (s, 19) := by
  have ht : ((m : Nat) : Int).toNat = m := by omega
  have he : en s m = 3 := hE
  unfold atE
  rw [hed, if_neg (by simp), ht, he, if_neg (by omega)]
  rw [if_neg (by omega)]
  have : nxt 7 3 = (3, false) := rfl
  rw [this]
  rw [if_neg (by simp)]
theorem atE_8_1 {s : List Int} {m : Nat} {a : Int} (hed : edB (m : Int) = true) (hE : cl s (2 + m) = 1) (hmk : mkB a = true) : atE s 8 (m : Int) a = (s, 19) := by
  have ht : ((m : Nat) : Int).toNat = m := by omega
  have he : en s m = 1 := hE
  unfold atE
  rw [hed, if_neg (by simp), ht, he, if_neg (by omega)]
  rw [if_pos rfl]
  unfold mrk
  rw [hmk, if_neg (by simp), he]
  rw [if_neg (by omega)]
theorem atE_8_2 {s : List Int} {m : Nat} {a : Int} (hed : edB (m : Int) = true) (hE : cl s (2 + m) = 2) (hmk : mkB a = true) : atE s 8 (m : Int) a = (s, 19) := by
  have ht : ((m : Nat) : Int).toNat = m := by omega
  have he : en s m = 2 := hE
  unfold atE
  rw [hed, if_neg (by simp), ht, he, if_neg (by omega)]
  rw [if_pos rfl]
  unfold mrk
  rw [hmk, if_neg (by simp), he]
  rw [if_neg (by omega)]
theorem atE_8_3 {s : List Int} {m : Nat} {a : Int} (hed : edB (m : Int) = true) (hE : cl s (2 + m) = 3) (hmk : mkB a = true) : atE s 8 (m : Int) a = ((s.set (2 + m) 3).set (34 + m) a, 1) := by
  have ht : ((m : Nat) : Int).toNat = m := by omega
  have he : en s m = 3 := hE
  unfold atE
  rw [hed, if_neg (by simp), ht, he, if_neg (by omega)]
  rw [if_pos rfl]
  unfold mrk
  rw [hmk, if_neg (by simp), he]
  rw [if_pos rfl, set_same hE]
theorem atE_9_1 {s : List Int} {m : Nat} {a : Int} (hed : edB (m : Int) = true) (hE : cl s (2 + m) = 1) : atE s 9 (m : Int) a = (s.set (2 + m) 1, 1) := by
  have ht : ((m : Nat) : Int).toNat = m := by omega
  have he : en s m = 1 := hE
  unfold atE
  rw [hed, if_neg (by simp), ht, he, if_neg (by omega)]
  rw [if_neg (by omega)]
  have : nxt 9 1 = (1, true) := rfl
  rw [this]
  rw [if_pos rfl]
theorem atE_9_2 {s : List Int} {m : Nat} {a : Int} (hed : edB (m : Int) = true) (hE : cl s (2 + m) = 2) : atE s 9 (m : Int) a = (s, 19) := by
  have ht : ((m : Nat) : Int).toNat = m := by omega
  have he : en s m = 2 := hE
  unfold atE
  rw [hed, if_neg (by simp), ht, he, if_neg (by omega)]
  rw [if_neg (by omega)]
  have : nxt 9 2 = (1, false) := rfl
  rw [this]
  rw [if_neg (by simp)]
theorem atE_9_3 {s : List Int} {m : Nat} {a : Int} (hed : edB (m : Int) = true) (hE : cl s (2 + m) = 3) : atE s 9 (m : Int) a = (s.set (2 + m) 1, 1) := by
  have ht : ((m : Nat) : Int).toNat = m := by omega
  have he : en s m = 3 := hE
  unfold atE
  rw [hed, if_neg (by simp), ht, he, if_neg (by omega)]
  rw [if_neg (by omega)]
  have : nxt 9 3 = (1, true) := rfl
  rw [this]
  rw [if_pos rfl]
set_option maxHeartbeats 16000000 in
theorem endDone_any (s : List Int) (k n e a : Int) (w : World) (hs : s.length = 66) (hk : 6 ≤ k ∧ k ≤ 9) (hr : right s = true) : Calls Try.prog 28 #[ag s, ag [k, n, e, a]] w fun r w' => r = .returned (.tuple #[ag (atE s k e a).1, .int .i64 (atE s k e a).2]) ∧ Below w.heap.size w w' := by
  have HL : Hid (s.length = 66) := hs
  have HE : Hid (0 + 66 ≤ s.length) := by show 0 + 66 ≤ _; omega
  have HC : Hid (cut s 0 66 = s) := cut_all hs
  have HK : Hid (∀ u, Calls Try.prog 13 #[.int .i64 e, .int .i64 1, .int .i64 31] u fun r w' => r = .returned (.bool (edB e)) ∧ u = w') := between_any _ _ _
  have HB : Hid (∀ u, Calls Try.prog 13 #[.int .i64 a, .int .i64 0, .int .i64 65535] u fun r w' => r = .returned (.bool (mkB a)) ∧ u = w') := between_any _ _ _
  have hM := Mm.nil w
  have HQ0 : Hid (([k, n, e, a] : List Int)[0]? = some k) := rfl
  have HQ2 : Hid (([k, n, e, a] : List Int)[2]? = some e) := rfl
  have HQ3 : Hid (([k, n, e, a] : List Int)[3]? = some a) := rfl
  by_cases hb : edB e = false
  · have HQ : Hid (atE s k e a = (s, 5)) := by show atE s k e a = _; unfold atE; rw [if_pos hb]
    rw [hb] at HK
    clear hs hb hk hr
    go_enter Try.func28, Try.ntmps28
    repeat' (first | (go_big_may; first | (refine a_box rfl rfl rfl ?_; intro u zb hN; replace hM := hM.new hN; clear hN) | (refine a_alloc rfl zer_slot rfl ?_; intro u zb hN; replace hM := hM.new hN; clear hN) | (refine a_get rfl rfl rfl hM.at1 HQ2.out ?_)) | go_values | go_skip | go_guarded | go_step | go_upon | (simp only [Int.not_lt, Int.not_le] at *; go_simp))
    refine (HK.out _).mono ?_
    rintro r u ⟨rfl, rfl⟩
    repeat' (first | (go_big_may; first | (refine a_load rfl rfl row_slot rfl hM.at2 HE.out HC.out ?_) | (refine a_fill rfl rfl row_slot rfl rfl hM.at0 HL.out List.length_replicate ?_; intro u hv hc; replace hM := hM.put0 hc hv; clear hv hc)) | go_values | go_skip | go_guarded | go_step | go_upon | (simp only [Int.not_lt, Int.not_le] at *; go_simp))
    rw [HQ.out]
    exact bodyPost_ret (ret_2 Try.results28 rfl (ld_var row_slot hM.at0 HL.out) rfl) rfl ⟨rfl, hM.below⟩
  have hb : edB e = true := by simpa using hb
  obtain ⟨m, hm1, hm2, rfl⟩ : ∃ m : Nat, 1 ≤ m ∧ m ≤ 31 ∧ e = m := ⟨e.toNat, (ed_in hb).1, (ed_in hb).2.1, (ed_in hb).2.2.symm⟩
  have H0 : Hid (s[2 + m]? = some (cl s (2 + m))) := cl_at (by omega)
  rw [hb] at HK
  have ht : ((m : Int)).toNat = m := by omega
  by_cases h0 : cl s (2 + m) = 0
  · have HQ : Hid (atE s k (m : Int) a = (s, 12)) := by show atE s k m a = _; unfold atE en; rw [hb, if_neg (by simp), ht, if_pos h0]
    have e1 : (cl s (2 + m) == 0) = true := by simpa using h0
    clear hs hb ht hk hr
    go_enter Try.func28, Try.ntmps28
    repeat' (first | (go_big_may; first | (refine a_box rfl rfl rfl ?_; intro u zb hN; replace hM := hM.new hN; clear hN) | (refine a_alloc rfl zer_slot rfl ?_; intro u zb hN; replace hM := hM.new hN; clear hN) | (refine a_get rfl rfl rfl hM.at1 HQ2.out ?_)) | go_values | go_skip | go_guarded | go_step | go_upon | (simp only [Int.not_lt, Int.not_le] at *; go_simp))
    refine (HK.out _).mono ?_
    rintro r u ⟨rfl, rfl⟩
    repeat' (first | (go_big_may; first | (refine a_get rfl rfl rfl hM.at1 HQ2.out ?_) | (refine a_get rfl rfl rfl hM.at2 H0.out ?_) | (refine a_load rfl rfl row_slot rfl hM.at2 HE.out HC.out ?_) | (refine a_fill rfl rfl row_slot rfl rfl hM.at0 HL.out List.length_replicate ?_; intro u hv hc; replace hM := hM.put0 hc hv; clear hv hc)) | go_values | go_skip | go_guarded | go_step | go_upon | (simp only [Int.not_lt, Int.not_le] at *; go_simp))
    rw [HQ.out]
    exact bodyPost_ret (ret_2 Try.results28 rfl (ld_var row_slot hM.at0 HL.out) rfl) rfl ⟨rfl, hM.below⟩
  have e1 : (cl s (2 + m) == 0) = false := by simpa using h0
  by_cases hmk : k = 8 ∧ mkB a = false
  · obtain ⟨rfl, hmk⟩ := hmk
    have HQ : Hid (atE s 8 (m : Int) a = (s, 17)) := by show atE s 8 m a = _; unfold atE mrk en; rw [hb, if_neg (by simp), ht, if_neg h0, if_pos rfl, if_pos hmk]
    rw [hmk] at HB
    clear hs hb ht hk hr h0 hmk
    go_enter Try.func28, Try.ntmps28
    repeat' (first | (go_big_may; first | (refine a_box rfl rfl rfl ?_; intro u zb hN; replace hM := hM.new hN; clear hN) | (refine a_alloc rfl zer_slot rfl ?_; intro u zb hN; replace hM := hM.new hN; clear hN) | (refine a_get rfl rfl rfl hM.at1 HQ2.out ?_)) | go_values | go_skip | go_guarded | go_step | go_upon | (simp only [Int.not_lt, Int.not_le] at *; go_simp))
    refine (HK.out _).mono ?_
    rintro r u ⟨rfl, rfl⟩
    repeat' (first | (go_big_may; first | (refine a_get rfl rfl rfl hM.at1 HQ2.out ?_) | (refine a_get rfl rfl rfl hM.at2 H0.out ?_) | (refine a_get rfl rfl rfl hM.at1 HQ0.out ?_) | (refine a_get rfl rfl rfl hM.at1 HQ3.out ?_)) | go_values | go_skip | go_guarded | go_step | go_upon | (simp only [Int.not_lt, Int.not_le] at *; go_simp))
    refine (HB.out _).mono ?_
    rintro r u ⟨rfl, rfl⟩
    repeat' (first | (go_big_may; first | (refine a_load rfl rfl row_slot rfl hM.at2 HE.out HC.out ?_) | (refine a_fill rfl rfl row_slot rfl rfl hM.at0 HL.out List.length_replicate ?_; intro u hv hc; replace hM := hM.put0 hc hv; clear hv hc)) | go_values | go_skip | go_guarded | go_step | go_upon | (simp only [Int.not_lt, Int.not_le] at *; go_simp))
    rw [HQ.out]
    exact bodyPost_ret (ret_2 Try.results28 rfl (ld_var row_slot hM.at0 HL.out) rfl) rfl ⟨rfl, hM.below⟩
  have hen : cl s (2 + m) = 1 ∨ cl s (2 + m) = 2 ∨ cl s (2 + m) = 3 := by
    have := right_en hr (k := m) (by omega)
    unfold en at this
    omega
  have HJ2 : Hid (2 + m < s.length) := by show 2 + m < s.length; omega
  have hl2 : ∀ x, (s.set (2 + m) x).length = 66 := fun x => by rw [List.length_set]; exact hs
  obtain hk4 | hk4 | hk4 | hk4 : k = 6 ∨ k = 7 ∨ k = 8 ∨ k = 9 := by omega
  · subst hk4
    rcases hen with hE | hE | hE
    · have HQ : Hid (atE s 6 (m : Int) a = (s, 19)) := atE_6_1 hb hE
      clear hs hb ht hr h0 hmk hk hl2
      go_enter Try.func28, Try.ntmps28
      repeat' (first | (go_big_may; first | (refine a_box rfl rfl rfl ?_; intro u zc hN; replace hM := hM.new hN; clear hN) | (refine a_alloc rfl zer_slot rfl ?_; intro u zr hN; replace hM := hM.new hN; clear hN) | (refine a_get rfl rfl rfl hM.at1 HQ2.out ?_)) | go_values | go_skip | go_guarded | go_step | go_upon | (simp only [Int.not_lt, Int.not_le] at *; go_simp))
      refine (HK.out _).mono ?_
      rintro r u ⟨rfl, rfl⟩
      go_upto_region 8 with (first | (refine a_get rfl rfl rfl hM.at1 HQ2.out ?_) | (refine a_get rfl rfl rfl hM.at2 H0.out ?_) | (refine a_get rfl rfl rfl hM.at1 HQ0.out ?_))
      have c0 := bx_cell hM.at1 HQ0.out
      have c2 := bx_cell hM.at1 HQ2.out
      have d2 := bx_cell hM.at2 H0.out
      rw [hE] at d2
      go_quiet (fail)
      replace hM := hM.drewN nq
      clear c0 c2 d2
      go_simp
      rename World => u
      repeat' (first | (go_big_may; first | (refine a_load rfl rfl row_slot rfl hM.at2 HE.out HC.out ?_) | (refine a_fill rfl rfl row_slot rfl rfl hM.at0 HL.out List.length_replicate ?_; intro u hv hc; replace hM := hM.put0 hc hv; clear hv hc)) | go_values | go_skip | go_guarded | go_step | go_upon | (simp only [Int.not_lt, Int.not_le] at *; go_simp))
      rw [HQ.out]
      exact bodyPost_ret (ret_2 Try.results28 rfl (ld_var row_slot hM.at0 HL.out) rfl) rfl ⟨rfl, hM.below⟩
    · have HQ : Hid (atE s 6 (m : Int) a = (s.set (2 + m) 3, 1)) := atE_6_2 hb hE
      have HF : Hid ((s.set (2 + m) 3).length = 66) := hl2 _
      have HFE : Hid (0 + 66 ≤ (s.set (2 + m) 3).length) := by show 0 + 66 ≤ _; rw [HF.out]; omega
      have HFC : Hid (cut (s.set (2 + m) 3) 0 66 = s.set (2 + m) 3) := cut_all HF.out
      clear hs hb ht hr h0 hmk hk hl2
      go_enter Try.func28, Try.ntmps28
      repeat' (first | (go_big_may; first | (refine a_box rfl rfl rfl ?_; intro u zc hN; replace hM := hM.new hN; clear hN) | (refine a_alloc rfl zer_slot rfl ?_; intro u zr hN; replace hM := hM.new hN; clear hN) | (refine a_get rfl rfl rfl hM.at1 HQ2.out ?_)) | go_values | go_skip | go_guarded | go_step | go_upon | (simp only [Int.not_lt, Int.not_le] at *; go_simp))
      refine (HK.out _).mono ?_
      rintro r u ⟨rfl, rfl⟩
      go_upto_region 8 with (first | (refine a_get rfl rfl rfl hM.at1 HQ2.out ?_) | (refine a_get rfl rfl rfl hM.at2 H0.out ?_) | (refine a_get rfl rfl rfl hM.at1 HQ0.out ?_))
      have c0 := bx_cell hM.at1 HQ0.out
      have c2 := bx_cell hM.at1 HQ2.out
      have d2 := bx_cell hM.at2 H0.out
      rw [hE] at d2
      go_quiet (fail)
      replace hM := hM.drewN nq
      clear c0 c2 d2
      go_simp
      rename World => u
      repeat' (first | (go_big_may; first | (refine a_get rfl rfl rfl hM.at1 HQ2.out ?_) | (refine a_put rfl rfl rfl rfl hM.at2 HJ2.out ?_; intro u hv hc; replace hM := hM.put2 hc hv; clear hv hc) | (refine a_get rfl rfl rfl hM.at1 HQ0.out ?_) | (refine a_load rfl rfl row_slot rfl hM.at2 HFE.out HFC.out ?_) | (refine a_fill rfl rfl row_slot rfl rfl hM.at0 HF.out List.length_replicate ?_; intro u hv hc; replace hM := hM.put0 hc hv; clear hv hc)) | go_values | go_skip | go_guarded | go_step | go_upon | (simp only [Int.not_lt, Int.not_le] at *; go_simp))
      rw [HQ.out]
      exact bodyPost_ret (ret_2 Try.results28 rfl (ld_var row_slot hM.at0 HF.out) rfl) rfl ⟨rfl, hM.below⟩
    · have HQ : Hid (atE s 6 (m : Int) a = (s, 19)) := atE_6_3 hb hE
      clear hs hb ht hr h0 hmk hk hl2
      go_enter Try.func28, Try.ntmps28
      repeat' (first | (go_big_may; first | (refine a_box rfl rfl rfl ?_; intro u zc hN; replace hM := hM.new hN; clear hN) | (refine a_alloc rfl zer_slot rfl ?_; intro u zr hN; replace hM := hM.new hN; clear hN) | (refine a_get rfl rfl rfl hM.at1 HQ2.out ?_)) | go_values | go_skip | go_guarded | go_step | go_upon | (simp only [Int.not_lt, Int.not_le] at *; go_simp))
      refine (HK.out _).mono ?_
      rintro r u ⟨rfl, rfl⟩
      go_upto_region 8 with (first | (refine a_get rfl rfl rfl hM.at1 HQ2.out ?_) | (refine a_get rfl rfl rfl hM.at2 H0.out ?_) | (refine a_get rfl rfl rfl hM.at1 HQ0.out ?_))
      have c0 := bx_cell hM.at1 HQ0.out
      have c2 := bx_cell hM.at1 HQ2.out
      have d2 := bx_cell hM.at2 H0.out
      rw [hE] at d2
      go_quiet (fail)
      replace hM := hM.drewN nq
      clear c0 c2 d2
      go_simp
      rename World => u
      repeat' (first | (go_big_may; first | (refine a_load rfl rfl row_slot rfl hM.at2 HE.out HC.out ?_) | (refine a_fill rfl rfl row_slot rfl rfl hM.at0 HL.out List.length_replicate ?_; intro u hv hc; replace hM := hM.put0 hc hv; clear hv hc)) | go_values | go_skip | go_guarded | go_step | go_upon | (simp only [Int.not_lt, Int.not_le] at *; go_simp))
      rw [HQ.out]
      exact bodyPost_ret (ret_2 Try.results28 rfl (ld_var row_slot hM.at0 HL.out) rfl) rfl ⟨rfl, hM.below⟩
  · subst hk4
    rcases hen with hE | hE | hE
    · have HQ : Hid (atE s 7 (m : Int) a = (s.set (2 + m) 3, 1)) := atE_7_1 hb hE
      have HF : Hid ((s.set (2 + m) 3).length = 66) := hl2 _
      have HFE : Hid (0 + 66 ≤ (s.set (2 + m) 3).length) := by show 0 + 66 ≤ _; rw [HF.out]; omega
      have HFC : Hid (cut (s.set (2 + m) 3) 0 66 = s.set (2 + m) 3) := cut_all HF.out
      clear hs hb ht hr h0 hmk hk hl2
      go_enter Try.func28, Try.ntmps28
      repeat' (first | (go_big_may; first | (refine a_box rfl rfl rfl ?_; intro u zc hN; replace hM := hM.new hN; clear hN) | (refine a_alloc rfl zer_slot rfl ?_; intro u zr hN; replace hM := hM.new hN; clear hN) | (refine a_get rfl rfl rfl hM.at1 HQ2.out ?_)) | go_values | go_skip | go_guarded | go_step | go_upon | (simp only [Int.not_lt, Int.not_le] at *; go_simp))
      refine (HK.out _).mono ?_
      rintro r u ⟨rfl, rfl⟩
      go_upto_region 8 with (first | (refine a_get rfl rfl rfl hM.at1 HQ2.out ?_) | (refine a_get rfl rfl rfl hM.at2 H0.out ?_) | (refine a_get rfl rfl rfl hM.at1 HQ0.out ?_))
      have c0 := bx_cell hM.at1 HQ0.out
      have c2 := bx_cell hM.at1 HQ2.out
      have d2 := bx_cell hM.at2 H0.out
      rw [hE] at d2
      go_quiet (fail)
      replace hM := hM.drewN nq
      clear c0 c2 d2
      go_simp
      rename World => u
      repeat' (first | (go_big_may; first | (refine a_get rfl rfl rfl hM.at1 HQ2.out ?_) | (refine a_put rfl rfl rfl rfl hM.at2 HJ2.out ?_; intro u hv hc; replace hM := hM.put2 hc hv; clear hv hc) | (refine a_get rfl rfl rfl hM.at1 HQ0.out ?_) | (refine a_load rfl rfl row_slot rfl hM.at2 HFE.out HFC.out ?_) | (refine a_fill rfl rfl row_slot rfl rfl hM.at0 HF.out List.length_replicate ?_; intro u hv hc; replace hM := hM.put0 hc hv; clear hv hc)) | go_values | go_skip | go_guarded | go_step | go_upon | (simp only [Int.not_lt, Int.not_le] at *; go_simp))
      rw [HQ.out]
      exact bodyPost_ret (ret_2 Try.results28 rfl (ld_var row_slot hM.at0 HF.out) rfl) rfl ⟨rfl, hM.below⟩
    · have HQ : Hid (atE s 7 (m : Int) a = (s, 19)) := atE_7_2 hb hE
      clear hs hb ht hr h0 hmk hk hl2
      go_enter Try.func28, Try.ntmps28
      repeat' (first | (go_big_may; first | (refine a_box rfl rfl rfl ?_; intro u zc hN; replace hM := hM.new hN; clear hN) | (refine a_alloc rfl zer_slot rfl ?_; intro u zr hN; replace hM := hM.new hN; clear hN) | (refine a_get rfl rfl rfl hM.at1 HQ2.out ?_)) | go_values | go_skip | go_guarded | go_step | go_upon | (simp only [Int.not_lt, Int.not_le] at *; go_simp))
      refine (HK.out _).mono ?_
      rintro r u ⟨rfl, rfl⟩
      go_upto_region 8 with (first | (refine a_get rfl rfl rfl hM.at1 HQ2.out ?_) | (refine a_get rfl rfl rfl hM.at2 H0.out ?_) | (refine a_get rfl rfl rfl hM.at1 HQ0.out ?_))
      have c0 := bx_cell hM.at1 HQ0.out
      have c2 := bx_cell hM.at1 HQ2.out
      have d2 := bx_cell hM.at2 H0.out
      rw [hE] at d2
      go_quiet (fail)
      replace hM := hM.drewN nq
      clear c0 c2 d2
      go_simp
      rename World => u
      repeat' (first | (go_big_may; first | (refine a_load rfl rfl row_slot rfl hM.at2 HE.out HC.out ?_) | (refine a_fill rfl rfl row_slot rfl rfl hM.at0 HL.out List.length_replicate ?_; intro u hv hc; replace hM := hM.put0 hc hv; clear hv hc)) | go_values | go_skip | go_guarded | go_step | go_upon | (simp only [Int.not_lt, Int.not_le] at *; go_simp))
      rw [HQ.out]
      exact bodyPost_ret (ret_2 Try.results28 rfl (ld_var row_slot hM.at0 HL.out) rfl) rfl ⟨rfl, hM.below⟩
    · have HQ : Hid (atE s 7 (m : Int) a = (s, 19)) := atE_7_3 hb hE
      clear hs hb ht hr h0 hmk hk hl2
      go_enter Try.func28, Try.ntmps28
      repeat' (first | (go_big_may; first | (refine a_box rfl rfl rfl ?_; intro u zc hN; replace hM := hM.new hN; clear hN) | (refine a_alloc rfl zer_slot rfl ?_; intro u zr hN; replace hM := hM.new hN; clear hN) | (refine a_get rfl rfl rfl hM.at1 HQ2.out ?_)) | go_values | go_skip | go_guarded | go_step | go_upon | (simp only [Int.not_lt, Int.not_le] at *; go_simp))
      refine (HK.out _).mono ?_
      rintro r u ⟨rfl, rfl⟩
      go_upto_region 8 with (first | (refine a_get rfl rfl rfl hM.at1 HQ2.out ?_) | (refine a_get rfl rfl rfl hM.at2 H0.out ?_) | (refine a_get rfl rfl rfl hM.at1 HQ0.out ?_))
      have c0 := bx_cell hM.at1 HQ0.out
      have c2 := bx_cell hM.at1 HQ2.out
      have d2 := bx_cell hM.at2 H0.out
      rw [hE] at d2
      go_quiet (fail)
      replace hM := hM.drewN nq
      clear c0 c2 d2
      go_simp
      rename World => u
      repeat' (first | (go_big_may; first | (refine a_load rfl rfl row_slot rfl hM.at2 HE.out HC.out ?_) | (refine a_fill rfl rfl row_slot rfl rfl hM.at0 HL.out List.length_replicate ?_; intro u hv hc; replace hM := hM.put0 hc hv; clear hv hc)) | go_values | go_skip | go_guarded | go_step | go_upon | (simp only [Int.not_lt, Int.not_le] at *; go_simp))
      rw [HQ.out]
      exact bodyPost_ret (ret_2 Try.results28 rfl (ld_var row_slot hM.at0 HL.out) rfl) rfl ⟨rfl, hM.below⟩
  · subst hk4
    have hmk : mkB a = true := by
      cases z : mkB a with
      | true => rfl
      | false => exact absurd ⟨rfl, z⟩ hmk
    rw [hmk] at HB
    rcases hen with hE | hE | hE
    · have HQ : Hid (atE s 8 (m : Int) a = (s, 19)) := atE_8_1 hb hE hmk
      clear hs hb ht hr h0 hmk hk hl2
      go_enter Try.func28, Try.ntmps28
      repeat' (first | (go_big_may; first | (refine a_box rfl rfl rfl ?_; intro u zc hN; replace hM := hM.new hN; clear hN) | (refine a_alloc rfl zer_slot rfl ?_; intro u zr hN; replace hM := hM.new hN; clear hN) | (refine a_get rfl rfl rfl hM.at1 HQ2.out ?_)) | go_values | go_skip | go_guarded | go_step | go_upon | (simp only [Int.not_lt, Int.not_le] at *; go_simp))
      refine (HK.out _).mono ?_
      rintro r u ⟨rfl, rfl⟩
      repeat' (first | (go_big_may; first | (refine a_get rfl rfl rfl hM.at1 HQ2.out ?_) | (refine a_get rfl rfl rfl hM.at2 H0.out ?_) | (refine a_get rfl rfl rfl hM.at1 HQ0.out ?_) | (refine a_get rfl rfl rfl hM.at1 HQ3.out ?_)) | go_values | go_skip | go_guarded | go_step | go_upon | (simp only [Int.not_lt, Int.not_le] at *; go_simp))
      refine (HB.out _).mono ?_
      rintro r u ⟨rfl, rfl⟩
      go_upto_region 8 with (first | (refine a_get rfl rfl rfl hM.at1 HQ2.out ?_) | (refine a_get rfl rfl rfl hM.at2 H0.out ?_) | (refine a_get rfl rfl rfl hM.at1 HQ0.out ?_))
      have c0 := bx_cell hM.at1 HQ0.out
      have c2 := bx_cell hM.at1 HQ2.out
      have d2 := bx_cell hM.at2 H0.out
      rw [hE] at d2
      go_quiet (fail)
      replace hM := hM.drewN nq
      clear c0 c2 d2
      go_simp
      rename World => u
      repeat' (first | (go_big_may; first | (refine a_load rfl rfl row_slot rfl hM.at2 HE.out HC.out ?_) | (refine a_fill rfl rfl row_slot rfl rfl hM.at0 HL.out List.length_replicate ?_; intro u hv hc; replace hM := hM.put0 hc hv; clear hv hc)) | go_values | go_skip | go_guarded | go_step | go_upon | (simp only [Int.not_lt, Int.not_le] at *; go_simp))
      rw [HQ.out]
      exact bodyPost_ret (ret_2 Try.results28 rfl (ld_var row_slot hM.at0 HL.out) rfl) rfl ⟨rfl, hM.below⟩
    · have HQ : Hid (atE s 8 (m : Int) a = (s, 19)) := atE_8_2 hb hE hmk
      clear hs hb ht hr h0 hmk hk hl2
      go_enter Try.func28, Try.ntmps28
      repeat' (first | (go_big_may; first | (refine a_box rfl rfl rfl ?_; intro u zc hN; replace hM := hM.new hN; clear hN) | (refine a_alloc rfl zer_slot rfl ?_; intro u zr hN; replace hM := hM.new hN; clear hN) | (refine a_get rfl rfl rfl hM.at1 HQ2.out ?_)) | go_values | go_skip | go_guarded | go_step | go_upon | (simp only [Int.not_lt, Int.not_le] at *; go_simp))
      refine (HK.out _).mono ?_
      rintro r u ⟨rfl, rfl⟩
      repeat' (first | (go_big_may; first | (refine a_get rfl rfl rfl hM.at1 HQ2.out ?_) | (refine a_get rfl rfl rfl hM.at2 H0.out ?_) | (refine a_get rfl rfl rfl hM.at1 HQ0.out ?_) | (refine a_get rfl rfl rfl hM.at1 HQ3.out ?_)) | go_values | go_skip | go_guarded | go_step | go_upon | (simp only [Int.not_lt, Int.not_le] at *; go_simp))
      refine (HB.out _).mono ?_
      rintro r u ⟨rfl, rfl⟩
      go_upto_region 8 with (first | (refine a_get rfl rfl rfl hM.at1 HQ2.out ?_) | (refine a_get rfl rfl rfl hM.at2 H0.out ?_) | (refine a_get rfl rfl rfl hM.at1 HQ0.out ?_))
      have c0 := bx_cell hM.at1 HQ0.out
      have c2 := bx_cell hM.at1 HQ2.out
      have d2 := bx_cell hM.at2 H0.out
      rw [hE] at d2
      go_quiet (fail)
      replace hM := hM.drewN nq
      clear c0 c2 d2
      go_simp
      rename World => u
      repeat' (first | (go_big_may; first | (refine a_load rfl rfl row_slot rfl hM.at2 HE.out HC.out ?_) | (refine a_fill rfl rfl row_slot rfl rfl hM.at0 HL.out List.length_replicate ?_; intro u hv hc; replace hM := hM.put0 hc hv; clear hv hc)) | go_values | go_skip | go_guarded | go_step | go_upon | (simp only [Int.not_lt, Int.not_le] at *; go_simp))
      rw [HQ.out]
      exact bodyPost_ret (ret_2 Try.results28 rfl (ld_var row_slot hM.at0 HL.out) rfl) rfl ⟨rfl, hM.below⟩
    · have HQ : Hid (atE s 8 (m : Int) a = ((s.set (2 + m) 3).set (34 + m) a, 1)) := atE_8_3 hb hE hmk
      have HF : Hid (((s.set (2 + m) 3).set (34 + m) a).length = 66) := by show _ = 66; rw [List.length_set]; exact hl2 _
      have HJ34 : Hid (34 + m < (s.set (2 + m) 3).length) := by show _ < _; rw [hl2]; omega
      have HFE : Hid (0 + 66 ≤ ((s.set (2 + m) 3).set (34 + m) a).length) := by show 0 + 66 ≤ _; rw [HF.out]; omega
      have HFC : Hid (cut ((s.set (2 + m) 3).set (34 + m) a) 0 66 = (s.set (2 + m) 3).set (34 + m) a) := cut_all HF.out
      clear hs hb ht hr h0 hmk hk hl2
      go_enter Try.func28, Try.ntmps28
      repeat' (first | (go_big_may; first | (refine a_box rfl rfl rfl ?_; intro u zc hN; replace hM := hM.new hN; clear hN) | (refine a_alloc rfl zer_slot rfl ?_; intro u zr hN; replace hM := hM.new hN; clear hN) | (refine a_get rfl rfl rfl hM.at1 HQ2.out ?_)) | go_values | go_skip | go_guarded | go_step | go_upon | (simp only [Int.not_lt, Int.not_le] at *; go_simp))
      refine (HK.out _).mono ?_
      rintro r u ⟨rfl, rfl⟩
      repeat' (first | (go_big_may; first | (refine a_get rfl rfl rfl hM.at1 HQ2.out ?_) | (refine a_get rfl rfl rfl hM.at2 H0.out ?_) | (refine a_get rfl rfl rfl hM.at1 HQ0.out ?_) | (refine a_get rfl rfl rfl hM.at1 HQ3.out ?_)) | go_values | go_skip | go_guarded | go_step | go_upon | (simp only [Int.not_lt, Int.not_le] at *; go_simp))
      refine (HB.out _).mono ?_
      rintro r u ⟨rfl, rfl⟩
      go_upto_region 8 with (first | (refine a_get rfl rfl rfl hM.at1 HQ2.out ?_) | (refine a_get rfl rfl rfl hM.at2 H0.out ?_) | (refine a_get rfl rfl rfl hM.at1 HQ0.out ?_))
      have c0 := bx_cell hM.at1 HQ0.out
      have c2 := bx_cell hM.at1 HQ2.out
      have d2 := bx_cell hM.at2 H0.out
      rw [hE] at d2
      go_quiet (fail)
      replace hM := hM.drewN nq
      clear c0 c2 d2
      go_simp
      rename World => u
      repeat' (first | (go_big_may; first | (refine a_get rfl rfl rfl hM.at1 HQ2.out ?_) | (refine a_put rfl rfl rfl rfl hM.at2 HJ2.out ?_; intro u hv hc; replace hM := hM.put2 hc hv; clear hv hc) | (refine a_get rfl rfl rfl hM.at1 HQ0.out ?_) | (refine a_get rfl rfl rfl hM.at1 HQ3.out ?_) | (refine a_put rfl rfl rfl rfl hM.at2 HJ34.out ?_; intro u hv hc; replace hM := hM.put2 hc hv; clear hv hc) | (refine a_load rfl rfl row_slot rfl hM.at2 HFE.out HFC.out ?_) | (refine a_fill rfl rfl row_slot rfl rfl hM.at0 HF.out List.length_replicate ?_; intro u hv hc; replace hM := hM.put0 hc hv; clear hv hc)) | go_values | go_skip | go_guarded | go_step | go_upon | (simp only [Int.not_lt, Int.not_le] at *; go_simp))
      rw [HQ.out]
      exact bodyPost_ret (ret_2 Try.results28 rfl (ld_var row_slot hM.at0 HF.out) rfl) rfl ⟨rfl, hM.below⟩
  · subst hk4
    rcases hen with hE | hE | hE
    · have HQ : Hid (atE s 9 (m : Int) a = (s.set (2 + m) 1, 1)) := atE_9_1 hb hE
      have HF : Hid ((s.set (2 + m) 1).length = 66) := hl2 _
      have HFE : Hid (0 + 66 ≤ (s.set (2 + m) 1).length) := by show 0 + 66 ≤ _; rw [HF.out]; omega
      have HFC : Hid (cut (s.set (2 + m) 1) 0 66 = s.set (2 + m) 1) := cut_all HF.out
      clear hs hb ht hr h0 hmk hk hl2
      go_enter Try.func28, Try.ntmps28
      repeat' (first | (go_big_may; first | (refine a_box rfl rfl rfl ?_; intro u zc hN; replace hM := hM.new hN; clear hN) | (refine a_alloc rfl zer_slot rfl ?_; intro u zr hN; replace hM := hM.new hN; clear hN) | (refine a_get rfl rfl rfl hM.at1 HQ2.out ?_)) | go_values | go_skip | go_guarded | go_step | go_upon | (simp only [Int.not_lt, Int.not_le] at *; go_simp))
      refine (HK.out _).mono ?_
      rintro r u ⟨rfl, rfl⟩
      go_upto_region 8 with (first | (refine a_get rfl rfl rfl hM.at1 HQ2.out ?_) | (refine a_get rfl rfl rfl hM.at2 H0.out ?_) | (refine a_get rfl rfl rfl hM.at1 HQ0.out ?_))
      have c0 := bx_cell hM.at1 HQ0.out
      have c2 := bx_cell hM.at1 HQ2.out
      have d2 := bx_cell hM.at2 H0.out
      rw [hE] at d2
      go_quiet (fail)
      replace hM := hM.drewN nq
      clear c0 c2 d2
      go_simp
      rename World => u
      repeat' (first | (go_big_may; first | (refine a_get rfl rfl rfl hM.at1 HQ2.out ?_) | (refine a_put rfl rfl rfl rfl hM.at2 HJ2.out ?_; intro u hv hc; replace hM := hM.put2 hc hv; clear hv hc) | (refine a_get rfl rfl rfl hM.at1 HQ0.out ?_) | (refine a_load rfl rfl row_slot rfl hM.at2 HFE.out HFC.out ?_) | (refine a_fill rfl rfl row_slot rfl rfl hM.at0 HF.out List.length_replicate ?_; intro u hv hc; replace hM := hM.put0 hc hv; clear hv hc)) | go_values | go_skip | go_guarded | go_step | go_upon | (simp only [Int.not_lt, Int.not_le] at *; go_simp))
      rw [HQ.out]
      exact bodyPost_ret (ret_2 Try.results28 rfl (ld_var row_slot hM.at0 HF.out) rfl) rfl ⟨rfl, hM.below⟩
    · have HQ : Hid (atE s 9 (m : Int) a = (s, 19)) := atE_9_2 hb hE
      clear hs hb ht hr h0 hmk hk hl2
      go_enter Try.func28, Try.ntmps28
      repeat' (first | (go_big_may; first | (refine a_box rfl rfl rfl ?_; intro u zc hN; replace hM := hM.new hN; clear hN) | (refine a_alloc rfl zer_slot rfl ?_; intro u zr hN; replace hM := hM.new hN; clear hN) | (refine a_get rfl rfl rfl hM.at1 HQ2.out ?_)) | go_values | go_skip | go_guarded | go_step | go_upon | (simp only [Int.not_lt, Int.not_le] at *; go_simp))
      refine (HK.out _).mono ?_
      rintro r u ⟨rfl, rfl⟩
      go_upto_region 8 with (first | (refine a_get rfl rfl rfl hM.at1 HQ2.out ?_) | (refine a_get rfl rfl rfl hM.at2 H0.out ?_) | (refine a_get rfl rfl rfl hM.at1 HQ0.out ?_))
      have c0 := bx_cell hM.at1 HQ0.out
      have c2 := bx_cell hM.at1 HQ2.out
      have d2 := bx_cell hM.at2 H0.out
      rw [hE] at d2
      go_quiet (fail)
      replace hM := hM.drewN nq
      clear c0 c2 d2
      go_simp
      rename World => u
      repeat' (first | (go_big_may; first | (refine a_load rfl rfl row_slot rfl hM.at2 HE.out HC.out ?_) | (refine a_fill rfl rfl row_slot rfl rfl hM.at0 HL.out List.length_replicate ?_; intro u hv hc; replace hM := hM.put0 hc hv; clear hv hc)) | go_values | go_skip | go_guarded | go_step | go_upon | (simp only [Int.not_lt, Int.not_le] at *; go_simp))
      rw [HQ.out]
      exact bodyPost_ret (ret_2 Try.results28 rfl (ld_var row_slot hM.at0 HL.out) rfl) rfl ⟨rfl, hM.below⟩
    · have HQ : Hid (atE s 9 (m : Int) a = (s.set (2 + m) 1, 1)) := atE_9_3 hb hE
      have HF : Hid ((s.set (2 + m) 1).length = 66) := hl2 _
      have HFE : Hid (0 + 66 ≤ (s.set (2 + m) 1).length) := by show 0 + 66 ≤ _; rw [HF.out]; omega
      have HFC : Hid (cut (s.set (2 + m) 1) 0 66 = s.set (2 + m) 1) := cut_all HF.out
      clear hs hb ht hr h0 hmk hk hl2
      go_enter Try.func28, Try.ntmps28
      repeat' (first | (go_big_may; first | (refine a_box rfl rfl rfl ?_; intro u zc hN; replace hM := hM.new hN; clear hN) | (refine a_alloc rfl zer_slot rfl ?_; intro u zr hN; replace hM := hM.new hN; clear hN) | (refine a_get rfl rfl rfl hM.at1 HQ2.out ?_)) | go_values | go_skip | go_guarded | go_step | go_upon | (simp only [Int.not_lt, Int.not_le] at *; go_simp))
      refine (HK.out _).mono ?_
      rintro r u ⟨rfl, rfl⟩
      go_upto_region 8 with (first | (refine a_get rfl rfl rfl hM.at1 HQ2.out ?_) | (refine a_get rfl rfl rfl hM.at2 H0.out ?_) | (refine a_get rfl rfl rfl hM.at1 HQ0.out ?_))
      have c0 := bx_cell hM.at1 HQ0.out
      have c2 := bx_cell hM.at1 HQ2.out
      have d2 := bx_cell hM.at2 H0.out
      rw [hE] at d2
      go_quiet (fail)
      replace hM := hM.drewN nq
      clear c0 c2 d2
      go_simp
      rename World => u
      repeat' (first | (go_big_may; first | (refine a_get rfl rfl rfl hM.at1 HQ2.out ?_) | (refine a_put rfl rfl rfl rfl hM.at2 HJ2.out ?_; intro u hv hc; replace hM := hM.put2 hc hv; clear hv hc) | (refine a_get rfl rfl rfl hM.at1 HQ0.out ?_) | (refine a_load rfl rfl row_slot rfl hM.at2 HFE.out HFC.out ?_) | (refine a_fill rfl rfl row_slot rfl rfl hM.at0 HF.out List.length_replicate ?_; intro u hv hc; replace hM := hM.put0 hc hv; clear hv hc)) | go_values | go_skip | go_guarded | go_step | go_upon | (simp only [Int.not_lt, Int.not_le] at *; go_simp))
      rw [HQ.out]
      exact bodyPost_ret (ret_2 Try.results28 rfl (ld_var row_slot hM.at0 HF.out) rfl) rfl ⟨rfl, hM.below⟩
end Go.Proofs.Ytfhlbndilkidhaa.slots
