/- slots, the document's answer: what EndDone answers. -/
import Derived.Test.YthjmcopknkemnaaZPb
import Derived.BigQuiet
import Derived.Test.YthjmcopknkemnaaSltS
namespace Go.Proofs.Ythjmcopknkemnaa.slots
open Go Go.RowKit
set_option linter.unusedVariables false
set_option linter.unusedSimpArgs false
set_option maxRecDepth 100000

theorem Mm.drewN {w u : World} {L : List Bk} (h : Mm w u L) (n : Nat) : Mm w (u.drewN n) L := ⟨h.lies, h.own, h.ap, ⟨h.below.os, h.below.tape, h.below.output, h.below.size, h.below.block⟩⟩
theorem set_same {s : List Int} {j : Nat} {x : Int} (h : cl s j = x) : s.set j x = s := by
  refine List.ext_getElem? fun i => ?_
  rw [List.getElem?_set]
  by_cases q : j = i
  · subst q
    by_cases hl : j < s.length
    · rw [if_pos rfl, if_pos hl, cl_at hl, h]
    · rw [if_pos rfl, if_neg hl, List.getElem?_eq_none (by omega)]
  · rw [if_neg q]
theorem atE_6_1 {s : List Int} {m : Nat} {a : Int} (hed : edB (m : Int) = true) (hE : cl s (2 + m) = 1) : atE s 6 (m : Int) a = (s, 19) := by
  have ht : ((m : Nat) : Int).toNat = m := by omega
  have he : en s m = 1 := hE
  unfold atE
  rw [hed, if_neg (by simp), ht, he, if_neg (by omega)]
  rw [if_neg (by omega)]
  have : nxt 6 1 = (3, false) := rfl
  rw [this]
  rw [if_neg (by simp)]
theorem atE_6_2 {s : List Int} {m : Nat} {a : Int} (hed : edB (m : Int) = true) (hE : cl s (2 + m) = 2) : atE s 6 (m : Int) a = (s.set (2 + m) 3, 1) := by
  have ht : ((m : Nat) : Int).toNat = m := by omega
  have he : en s m = 2 := hE
  unfold atE
  rw [hed, if_neg (by simp), ht, he, if_neg (by omega)]
  rw [if_neg (by omega)]
  have : nxt 6 2 = (3, true) := rfl
  rw [this]
  rw [if_pos rfl]
theorem atE_6_3 {s : List Int} {m : Nat} {a : Int} (hed : edB (m : Int) = true) (hE : cl s (2 + m) = 3) : atE s 6 (m : Int) a = (s, 19) := by
  have ht : ((m : Nat) : Int).toNat = m := by omega
  have he : en s m = 3 := hE
  unfold atE
  rw [hed, if_neg (by simp), ht, he, if_neg (by omega)]
  rw [if_neg (by omega)]
  have : nxt 6 3 = (3, false) := rfl
  rw [this]
  rw [if_neg (by simp)]
theorem atE_7_1 {s : List Int} {m : Nat} {a : Int} (hed : edB (m : Int) = true) (hE : cl s (2 + m) = 1) : atE s 7 (m : Int) a = (s.set (2 + m) 3, 1) := by
  have ht : ((m : Nat) : Int).toNat = m := by omega
  have he : en s m = 1 := hE
  unfold atE
  rw [hed, if_neg (by simp), ht, he, if_neg (by omega)]
  rw [if_neg (by omega)]
  have : nxt 7 1 = (3, true) := rfl
  rw [this]
  rw [if_pos rfl]
theorem atE_7_2 {s : List Int} {m : Nat} {a : Int} (hed : edB (m : Int) = true) (hE : cl s (2 + m) = 2) : atE s 7 (m : Int) a = (s, 19) := by
  have ht : ((m : Nat) : Int).toNat = m := by omega
  have he : en s m = 2 := hE
  unfold atE
  rw [hed, if_neg (by simp), ht, he, if_neg (by omega)]
  rw [if_neg (by omega)]
  have : nxt 7 2 = (3, false) := rfl
  rw [this]
  rw [if_neg (by simp)]
theorem atE_7_3 {s : List Int} {m : Nat} {a : Int} (hed : edB (m : Int) = true) (hE : cl s (2 + m) = 3) : atE s 7 (m : Int) a = (s, 19) := by
  have ht : ((m : Nat) : Int).toNat = m := by omega
  have he : en s m = 3 := hE
  unfold atE
  rw [hed, if_neg (by simp), ht, he, if_neg (by omega)]
  rw [if_neg (by omega)]
  have : nxt 7 3 = (3, false) := rfl
  rw [this]
  rw [if_neg (by simp)]
theorem atE_8_1 {s : List Int} {m : Nat} {a : Int} (hed : edB (m : Int) = true) (hE : cl s (2 + m) = 1) (hmk : mkB a = true) : atE s 8 (m : Int) a = (s, 19) := by
  have ht : ((m : Nat) : Int).toNat = m := by omega
  have he : en s m = 1 := hE
  unfold atE
  rw [hed, if_neg (by simp), ht, he, if_neg (by omega)]
  rw [if_pos rfl]
  unfold mrk
  rw [hmk, if_neg (by simp), he]
  rw [if_neg (by omega)]
theorem atE_8_2 {s : List Int} {m : Nat} {a : Int} (hed : edB (m : Int) = true) (hE : cl s (2 + m) = 2) (hmk : mkB a = true) : atE s 8 (m : Int) a = (s, 19) := by
  have ht : ((m : Nat) : Int).toNat = m := by omega
  have he : en s m = 2 := hE
  unfold atE
  rw [hed, if_neg (by simp), ht, he, if_neg (by omega)]
  rw [if_pos rfl]
  unfold mrk
  rw [hmk, if_neg (by simp), he]
  rw [if_neg (by omega)]
theorem atE_8_3 {s : List Int} {m : Nat} {a : Int} (hed : edB (m : Int) = true) (hE : cl s (2 + m) = 3) (hmk : mkB a = true) : atE s 8 (m : Int) a = ((s.set (2 + m) 3).set (34 + m) a, 1) := by
  have ht : ((m : Nat) : Int).toNat = m := by omega
  have he : en s m = 3 := hE
  unfold atE
  rw [hed, if_neg (by simp), ht, he, if_neg (by omega)]
  rw [if_pos rfl]
  unfold mrk
  rw [hmk, if_neg (by simp), he]
  rw [if_pos rfl, set_same hE]
theorem atE_9_1 {s : List Int} {m : Nat} {a : Int} (hed : edB (m : Int) = true) (hE : cl s (2 + m) = 1) : atE s 9 (m : Int) a = (s.set (2 + m) 1, 1) := by
  have ht : ((m : Nat) : Int).toNat = m := by omega
  have he : en s m = 1 := hE
  unfold atE
  rw [hed, if_neg (by simp), ht, he, if_neg (by omega)]
  rw [if_neg (by omega)]
  have : nxt 9 1 = (1, true) := rfl
  rw [this]
  rw [if_pos rfl]
theorem atE_9_2 {s : List Int} {m : Nat} {a : Int} (hed : edB (m : Int) = true) (hE : cl s (2 + m) = 2) : atE s 9 (m : Int) a = (s, 19) := by
  have ht : ((m : Nat) : Int).toNat = m := by omega
  have he : en s m = 2 := hE
  unfold atE
  rw [hed, if_neg (by simp), ht, he, if_neg (by omega)]
  rw [if_neg (by omega)]
  have : nxt 9 2 = (1, false) := rfl
  rw [this]
  rw [if_neg (by simp)]
theorem atE_9_3 {s : List Int} {m : Nat} {a : Int} (hed : edB (m : Int) = true) (hE : cl s (2 + m) = 3) : atE s 9 (m : Int) a = (s.set (2 + m) 1, 1) := by
  have ht : ((m : Nat) : Int).toNat = m := by omega
  have he : en s m = 3 := hE
  unfold atE
  rw [hed, if_neg (by simp), ht, he, if_neg (by omega)]
  rw [if_neg (by omega)]
  have : nxt 9 3 = (1, true) := rfl
  rw [this]
  rw [if_pos rfl]
set_option maxHeartbeats 16000000 in
theorem endDone_any (s : List Int) (k n e a : Int) (w : World) (hs : s.length = 66) (hk : 6 ≤ k ∧ k ≤ 9) (hr : right s = true) : Calls Try.prog 86 #[ag s, ag [k, n, e, a]] w fun r w' => r = .returned (.tuple #[ag (atE s k e a).1, .int .i64 (atE s k e a).2]) ∧ Below w.heap.size w w' := by
  have HL : Hid (s.length = 66) := hs
  have HE : Hid (0 + 66 ≤ s.length) := by show 0 + 66 ≤ _; omega
  have HC : Hid (cut s 0 66 = s) := cut_all hs
  have HK : Hid (∀ u, Calls Try.prog 32 #[.int .i64 e, .int .i64 1, .int .i64 31] u fun r w' => r = .returned (.bool (edB e)) ∧ u = w') := between_any _ _ _
  have HB : Hid (∀ u, Calls Try.prog 32 #[.int .i64 a, .int .i64 0, .int .i64 65535] u fun r w' => r = .returned (.bool (mkB a)) ∧ u = w') := between_any _ _ _
  have hM := Mm.nil w
  have HQ0 : Hid (([k, n, e, a] : List Int)[0]? = some k) := rfl
  have HQ2 : Hid (([k, n, e, a] : List Int)[2]? = some e) := rfl
  have HQ3 : Hid (([k, n, e, a] : List Int)[3]? = some a) := rfl
  by_cases hb : edB e = false
  · have HQ : Hid (atE s k e a = (s, 5)) := by show atE s k e a = _; unfold atE; rw [if_pos hb]
    rw [hb] at HK
    clear hs hb hk hr
    go_enter Try.func86, Try.ntmps86
    repeat' (first | (go_big_may; first | (refine a_box rfl rfl rfl ?_; intro u zb hN; replace hM := hM.new hN; clear hN) | (refine a_alloc rfl zer_slot rfl ?_; intro u zb hN; replace hM := hM.new hN; clear hN) | (refine a_get rfl rfl rfl hM.at1 HQ2.out ?_)) | go_values | go_skip | go_guarded | go_step | go_upon | (simp only [Int.not_lt, Int.not_le] at *; go_simp))
    refine (HK.out _).mono ?_
    rintro r u ⟨rfl, rfl⟩
    repeat' (first | (go_big_may; first | (refine a_load rfl rfl row_slot rfl hM.at2 HE.out HC.out ?_) | (refine a_fill rfl rfl row_slot rfl rfl hM.at0 HL.out List.length_replicate ?_; intro u hv hc; replace hM := hM.put0 hc hv; clear hv hc)) | go_values | go_skip | go_guarded | go_step | go_upon | (simp only [Int.not_lt, Int.not_le] at *; go_simp))
    rw [HQ.out]
    exact bodyPost_ret (ret_2 Try.results86 rfl (ld_var row_slot hM.at0 HL.out) rfl) rfl ⟨rfl, hM.below⟩
  have hb : edB e = true := by simpa using hb
  obtain ⟨m, hm1, hm2, rfl⟩ : ∃ m : Nat, 1 ≤ m ∧ m ≤ 31 ∧ e = m := ⟨e.toNat, (ed_in hb).1, (ed_in hb).2.1, (ed_in hb).2.2.symm⟩
  have H0 : Hid (s[2 + m]? = some (cl s (2 + m))) := cl_at (by omega)
  rw [hb] at HK
  have ht : ((m : Int)).toNat = m := by omega
  by_cases h0 : cl s (2 + m) = 0
  · have HQ : Hid (atE s k (m : Int) a = (s, 12)) := by show atE s k m a = _; unfold atE en; rw [hb, if_neg (by simp), ht, if_pos h0]
    have e1 : (cl s (2 + m) == 0) = true := by simpa using h0
    clear hs hb ht hk hr
    go_enter Try.func86, Try.ntmps86
    repeat' (first | (go_big_may; first | (refine a_box rfl rfl rfl ?_; intro u zb hN; replace hM := hM.new hN; clear hN) | (refine a_alloc rfl zer_slot rfl ?_; intro u zb hN; replace hM := hM.new hN; clear hN) | (refine a_get rfl rfl rfl hM.at1 HQ2.out ?_)) | go_values | go_skip | go_guarded | go_step | go_upon | (simp only [Int.not_lt, Int.not_le] at *; go_simp))
    refine (HK.out _).mono ?_
    rintro r u ⟨rfl, rfl⟩
    repeat' (first | (go_big_may; first | (refine a_get rfl rfl rfl hM.at1 HQ2.out ?_) | (refine a_get rfl rfl rfl hM.at2 H0.out ?_) | (refine a_load rfl rfl row_slot rfl hM.at2 HE.out HC.out ?_) | (refine a_fill rfl rfl row_slot rfl rfl hM.at0 HL.out List.length_replicate ?_; intro u hv hc; replace hM := hM.put0 hc hv; clear hv hc)) | go_values | go_skip | go_guarded | go_step | go_upon | (simp only [Int.not_lt, Int.not_le] at *; go_simp))
    rw [HQ.out]
    exact bodyPost_ret (ret_2 Try.results86 rfl (ld_var row_slot hM.at0 HL.out) rfl) rfl ⟨rfl, hM.below⟩
  have e1 : (cl s (2 + m) == 0) = false := by simpa using h0
  by_cases hmk : k = 8 ∧ mkB a = false
  · obtain ⟨rfl, hmk⟩ := hmk
    have HQ : Hid (atE s 8 (m : Int) a = (s, 17)) := by show atE s 8 m a = _; unfold atE mrk en; rw [hb, if_neg (by simp), ht, if_neg h0, if_pos rfl, if_pos hmk]
    rw [hmk] at HB
    clear hs hb ht hk hr h0 hmk
    go_enter Try.func86, Try.ntmps86
    repeat' (first | (go_big_may; first | (refine a_box rfl rfl rfl ?_; intro u zb hN; replace hM := hM.new hN; clear hN) | (refine a_alloc rfl zer_slot rfl ?_; intro u zb hN; replace hM := hM.new hN; clear hN) | (refine a_get rfl rfl rfl hM.at1 HQ2.out ?_)) | go_values | go_skip | go_guarded | go_step | go_upon | (simp only [Int.not_lt, Int.not_le] at *; go_simp))
    refine (HK.out _).mono ?_
    rintro r u ⟨rfl, rfl⟩
    repeat' (first | (go_big_may; first | (refine a_get rfl rfl rfl hM.at1 HQ2.out ?_) | (refine a_get rfl rfl rfl hM.at2 H0.out ?_) | (refine a_get rfl rfl rfl hM.at1 HQ0.out ?_) | (refine a_get rfl rfl rfl hM.at1 HQ3.out ?_)) | go_values | go_skip | go_guarded | go_step | go_upon | (simp only [Int.not_lt, Int.not_le] at *; go_simp))
    refine (HB.out _).mono ?_
    rintro r u ⟨rfl, rfl⟩
    repeat' (first | (go_big_may; first | (refine a_load rfl rfl row_slot rfl hM.at2 HE.out HC.out ?_) | (refine a_fill rfl rfl row_slot rfl rfl hM.at0 HL.out List.length_replicate ?_; intro u hv hc; replace hM := hM.put0 hc hv; clear hv hc)) | go_values | go_skip | go_guarded | go_step | go_upon | (simp only [Int.not_lt, Int.not_le] at *; go_simp))
    rw [HQ.out]
    exact bodyPost_ret (ret_2 Try.results86 rfl (ld_var row_slot hM.at0 HL.out) rfl) rfl ⟨rfl, hM.below⟩
  have hen : cl s (2 + m) = 1 ∨ cl s (2 + m) = 2 ∨ cl s (2 + m) = 3 := by
    have := right_en hr (k := m) (by omega)
    unfold en at this
    omega
  have HJ2 : Hid (2 + m < s.length) := by show 2 + m < s.length; omega
  have hl2 : ∀ x, (s.set (2 + m) x).length = 66 := fun x => by rw [List.length_set]; exact hs
  obtain hk4 | hk4 | hk4 | hk4 : k = 6 ∨ k = 7 ∨ k = 8 ∨ k = 9 := by omega
  · subst hk4
    rcases hen with hE | hE | hE
    · have HQ : Hid (atE s 6 (m : Int) a = (s, 19)) := atE_6_1 hb hE
      clear hs hb ht hr h0 hmk hk hl2
      go_enter Try.func86, Try.ntmps86
      repeat' (first | (go_big_may; first | (refine a_box rfl rfl rfl ?_; intro u zc hN; replace hM := hM.new hN; clear hN) | (refine a_alloc rfl zer_slot rfl ?_; intro u zr hN; replace hM := hM.new hN; clear hN) | (refine a_get rfl rfl rfl hM.at1 HQ2.out ?_)) | go_values | go_skip | go_guarded | go_step | go_upon | (simp only [Int.not_lt, Int.not_le] at *; go_simp))
      refine (HK.out _).mono ?_
      rintro r u ⟨rfl, rfl⟩
      go_upto_region 8 with (first | (refine a_get rfl rfl rfl hM.at1 HQ2.out ?_) | (refine a_get rfl rfl rfl hM.at2 H0.out ?_) | (refine a_get rfl rfl rfl hM.at1 HQ0.out ?_))
      have c0 := bx_cell hM.at1 HQ0.out
      have c2 := bx_cell hM.at1 HQ2.out
      have d2 := bx_cell hM.at2 H0.out
      rw [hE] at d2
      go_quiet (fail)
      replace hM := hM.drewN nq
      clear c0 c2 d2
      go_simp
      rename World => u
      repeat' (first | (go_big_may; first | (refine a_load rfl rfl row_slot rfl hM.at2 HE.out HC.out ?_) | (refine a_fill rfl rfl row_slot rfl rfl hM.at0 HL.out List.length_replicate ?_; intro u hv hc; replace hM := hM.put0 hc hv; clear hv hc)) | go_values | go_skip | go_guarded | go_step | go_upon | (simp only [Int.not_lt, Int.not_le] at *; go_simp))
      rw [HQ.out]
      exact bodyPost_ret (ret_2 Try.results86 rfl (ld_var row_slot hM.at0 HL.out) rfl) rfl ⟨rfl, hM.below⟩
    · have HQ : Hid (atE s 6 (m : Int) a = (s.set (2 + m) 3, 1)) := atE_6_2 hb hE
      have HF : Hid ((s.set (2 + m) 3).length = 66) := hl2 _
      have HFE : Hid (0 + 66 ≤ (s.set (2 + m) 3).length) := by show 0 + 66 ≤ _; rw [HF.out]; omega
      have HFC : Hid (cut (s.set (2 + m) 3) 0 66 = s.set (2 + m) 3) := cut_all HF.out
      clear hs hb ht hr h0 hmk hk hl2
      go_enter Try.func86, Try.ntmps86
      repeat' (first | (go_big_may; first | (refine a_box rfl rfl rfl ?_; intro u zc hN; replace hM := hM.new hN; clear hN) | (refine a_alloc rfl zer_slot rfl ?_; intro u zr hN; replace hM := hM.new hN; clear hN) | (refine a_get rfl rfl rfl hM.at1 HQ2.out ?_)) | go_values | go_skip | go_guarded | go_step | go_upon | (simp only [Int.not_lt, Int.not_le] at *; go_simp))
      refine (HK.out _).mono ?_
      rintro r u ⟨rfl, rfl⟩
      go_upto_region 8 with (first | (refine a_get rfl rfl rfl hM.at1 HQ2.out ?_) | (refine a_get rfl rfl rfl hM.at2 H0.out ?_) | (refine a_get rfl rfl rfl hM.at1 HQ0.out ?_))
      have c0 := bx_cell hM.at1 HQ0.out
      have c2 := bx_cell hM.at1 HQ2.out
      have d2 := bx_cell hM.at2 H0.out
      rw [hE] at d2
      go_quiet (fail)
      replace hM := hM.drewN nq
      clear c0 c2 d2
      go_simp
      rename World => u
      repeat' (first | (go_big_may; first | (refine a_get rfl rfl rfl hM.at1 HQ2.out ?_) | (refine a_put rfl rfl rfl rfl hM.at2 HJ2.out ?_; intro u hv hc; replace hM := hM.put2 hc hv; clear hv hc) | (refine a_get rfl rfl rfl hM.at1 HQ0.out ?_) | (refine a_load rfl rfl row_slot rfl hM.at2 HFE.out HFC.out ?_) | (refine a_fill rfl rfl row_slot rfl rfl hM.at0 HF.out List.length_replicate ?_; intro u hv hc; replace hM := hM.put0 hc hv; clear hv hc)) | go_values | go_skip | go_guarded | go_step | go_upon | (simp only [Int.not_lt, Int.not_le] at *; go_simp))
      rw [HQ.out]
      exact bodyPost_ret (ret_2 Try.results86 rfl (ld_var row_slot hM.at0 HF.out) rfl) rfl ⟨rfl, hM.below⟩
    · have HQ : Hid (atE s 6 (m : Int) a = (s, 19)) := atE_6_3 hb hE
      clear hs hb ht hr h0 hmk hk hl2
      go_enter Try.func86, Try.ntmps86
      repeat' (first | (go_big_may; first | (refine a_box rfl rfl rfl ?_; intro u zc hN; replace hM := hM.new hN; clear hN) | (refine a_alloc rfl zer_slot rfl ?_; intro u zr hN; replace hM := hM.new hN; clear hN) | (refine a_get rfl rfl rfl hM.at1 HQ2.out ?_)) | go_values | go_skip | go_guarded | go_step | go_upon | (simp only [Int.not_lt, Int.not_le] at *; go_simp))
      refine (HK.out _).mono ?_
      rintro r u ⟨rfl, rfl⟩
      go_upto_region 8 with (first | (refine a_get rfl rfl rfl hM.at1 HQ2.out ?_) | (refine a_get rfl rfl rfl hM.at2 H0.out ?_) | (refine a_get rfl rfl rfl hM.at1 HQ0.out ?_))
      have c0 := bx_cell hM.at1 HQ0.out
      have c2 := bx_cell hM.at1 HQ2.out
      have d2 := bx_cell hM.at2 H0.out
      rw [hE] at d2
      go_quiet (fail)
      replace hM := hM.drewN nq
      clear c0 c2 d2
      go_simp
      rename World => u
      repeat' (first | (go_big_may; first | (refine a_load rfl rfl row_slot rfl hM.at2 HE.out HC.out ?_) | (refine a_fill rfl rfl row_slot rfl rfl hM.at0 HL.out List.length_replicate ?_; intro u hv hc; replace hM := hM.put0 hc hv; clear hv hc)) | go_values | go_skip | go_guarded | go_step | go_upon | (simp only [Int.not_lt, Int.not_le] at *; go_simp))
      rw [HQ.out]
      exact bodyPost_ret (ret_2 Try.results86 rfl (ld_var row_slot hM.at0 HL.out) rfl) rfl ⟨rfl, hM.below⟩
  · subst hk4
    rcases hen with hE | hE | hE
    · have HQ : Hid (atE s 7 (m : Int) a = (s.set (2 + m) 3, 1)) := atE_7_1 hb hE
      have HF : Hid ((s.set (2 + m) 3).length = 66) := hl2 _
      have HFE : Hid (0 + 66 ≤ (s.set (2 + m) 3).length) := by show 0 + 66 ≤ _; rw [HF.out]; omega
      have HFC : Hid (cut (s.set (2 + m) 3) 0 66 = s.set (2 + m) 3) := cut_all HF.out
      clear hs hb ht hr h0 hmk hk hl2
      go_enter Try.func86, Try.ntmps86
      repeat' (first | (go_big_may; first | (refine a_box rfl rfl rfl ?_; intro u zc hN; replace hM := hM.new hN; clear hN) | (refine a_alloc rfl zer_slot rfl ?_; intro u zr hN; replace hM := hM.new hN; clear hN) | (refine a_get rfl rfl rfl hM.at1 HQ2.out ?_)) | go_values | go_skip | go_guarded | go_step | go_upon | (simp only [Int.not_lt, Int.not_le] at *; go_simp))
      refine (HK.out _).mono ?_
      rintro r u ⟨rfl, rfl⟩
      go_upto_region 8 with (first | (refine a_get rfl rfl rfl hM.at1 HQ2.out ?_) | (refine a_get rfl rfl rfl hM.at2 H0.out ?_) | (refine a_get rfl rfl rfl hM.at1 HQ0.out ?_))
      have c0 := bx_cell hM.at1 HQ0.out
      have c2 := bx_cell hM.at1 HQ2.out
      have d2 := bx_cell hM.at2 H0.out
      rw [hE] at d2
      go_quiet (fail)
      replace hM := hM.drewN nq
      clear c0 c2 d2
      go_simp
      rename World => u
      repeat' (first | (go_big_may; first | (refine a_get rfl rfl rfl hM.at1 HQ2.out ?_) | (refine a_put rfl rfl rfl rfl hM.at2 HJ2.out ?_; intro u hv hc; replace hM := hM.put2 hc hv; clear hv hc) | (refine a_get rfl rfl rfl hM.at1 HQ0.out ?_) | (refine a_load rfl rfl row_slot rfl hM.at2 HFE.out HFC.out ?_) | (refine a_fill rfl rfl row_slot rfl rfl hM.at0 HF.out List.length_replicate ?_; intro u hv hc; replace hM := hM.put0 hc hv; clear hv hc)) | go_values | go_skip | go_guarded | go_step | go_upon | (simp only [Int.not_lt, Int.not_le] at *; go_simp))
      rw [HQ.out]
      exact bodyPost_ret (ret_2 Try.results86 rfl (ld_var row_slot hM.at0 HF.out) rfl) rfl ⟨rfl, hM.below⟩
    · have HQ : Hid (atE s 7 (m : Int) a = (s, 19)) := atE_7_2 hb hE
      clear hs hb ht hr h0 hmk hk hl2
      go_enter Try.func86, Try.ntmps86
      repeat' (first | (go_big_may; first | (refine a_box rfl rfl rfl ?_; intro u zc hN; replace hM := hM.new hN; clear hN) | (refine a_alloc rfl zer_slot rfl ?_; intro u zr hN; replace hM := hM.new hN; clear hN) | (refine a_get rfl rfl rfl hM.at1 HQ2.out ?_)) | go_values | go_skip | go_guarded | go_step | go_upon | (simp only [Int.not_lt, Int.not_le] at *; go_simp))
      refine (HK.out _).mono ?_
      rintro r u ⟨rfl, rfl⟩
      go_upto_region 8 with (first | (refine a_get rfl rfl rfl hM.at1 HQ2.out ?_) | (refine a_get rfl rfl rfl hM.at2 H0.out ?_) | (refine a_get rfl rfl rfl hM.at1 HQ0.out ?_))
      have c0 := bx_cell hM.at1 HQ0.out
      have c2 := bx_cell hM.at1 HQ2.out
      have d2 := bx_cell hM.at2 H0.out
      rw [hE] at d2
      go_quiet (fail)
      replace hM := hM.drewN nq
      clear c0 c2 d2
      go_simp
      rename World => u
      repeat' (first | (go_big_may; first | (refine a_load rfl rfl row_slot rfl hM.at2 HE.out HC.out ?_) | (refine a_fill rfl rfl row_slot rfl rfl hM.at0 HL.out List.length_replicate ?_; intro u hv hc; replace hM := hM.put0 hc hv; clear hv hc)) | go_values | go_skip | go_guarded | go_step | go_upon | (simp only [Int.not_lt, Int.not_le] at *; go_simp))
      rw [HQ.out]
      exact bodyPost_ret (ret_2 Try.results86 rfl (ld_var row_slot hM.at0 HL.out) rfl) rfl ⟨rfl, hM.below⟩
    · have HQ : Hid (atE s 7 (m : Int) a = (s, 19)) := atE_7_3 hb hE
      clear hs hb ht hr h0 hmk hk hl2
      go_enter Try.func86, Try.ntmps86
      repeat' (first | (go_big_may; first | (refine a_box rfl rfl rfl ?_; intro u zc hN; replace hM := hM.new hN; clear hN) | (refine a_alloc rfl zer_slot rfl ?_; intro u zr hN; replace hM := hM.new hN; clear hN) | (refine a_get rfl rfl rfl hM.at1 HQ2.out ?_)) | go_values | go_skip | go_guarded | go_step | go_upon | (simp only [Int.not_lt, Int.not_le] at *; go_simp))
      refine (HK.out _).mono ?_
      rintro r u ⟨rfl, rfl⟩
      go_upto_region 8 with (first | (refine a_get rfl rfl rfl hM.at1 HQ2.out ?_) | (refine a_get rfl rfl rfl hM.at2 H0.out ?_) | (refine a_get rfl rfl rfl hM.at1 HQ0.out ?_))
      have c0 := bx_cell hM.at1 HQ0.out
      have c2 := bx_cell hM.at1 HQ2.out
      have d2 := bx_cell hM.at2 H0.out
      rw [hE] at d2
      go_quiet (fail)
      replace hM := hM.drewN nq
      clear c0 c2 d2
      go_simp
      rename World => u
      repeat' (first | (go_big_may; first | (refine a_load rfl rfl row_slot rfl hM.at2 HE.out HC.out ?_) | (refine a_fill rfl rfl row_slot rfl rfl hM.at0 HL.out List.length_replicate ?_; intro u hv hc; replace hM := hM.put0 hc hv; clear hv hc)) | go_values | go_skip | go_guarded | go_step | go_upon | (simp only [Int.not_lt, Int.not_le] at *; go_simp))
      rw [HQ.out]
      exact bodyPost_ret (ret_2 Try.results86 rfl (ld_var row_slot hM.at0 HL.out) rfl) rfl ⟨rfl, hM.below⟩
  · subst hk4
    have hmk : mkB a = true := by
      cases z : mkB a with
      | true => rfl
      | false => exact absurd ⟨rfl, z⟩ hmk
    rw [hmk] at HB
    rcases hen with hE | hE | hE
    · have HQ : Hid (atE s 8 (m : Int) a = (s, 19)) := atE_8_1 hb hE hmk
      clear hs hb ht hr h0 hmk hk hl2
      go_enter Try.func86, Try.ntmps86
      repeat' (first | (go_big_may; first | (refine a_box rfl rfl rfl ?_; intro u zc hN; replace hM := hM.new hN; clear hN) | (refine a_alloc rfl zer_slot rfl ?_; intro u zr hN; replace hM := hM.new hN; clear hN) | (refine a_get rfl rfl rfl hM.at1 HQ2.out ?_)) | go_values | go_skip | go_guarded | go_step | go_upon | (simp only [Int.not_lt, Int.not_le] at *; go_simp))
      refine (HK.out _).mono ?_
      rintro r u ⟨rfl, rfl⟩
      repeat' (first | (go_big_may; first | (refine a_get rfl rfl rfl hM.at1 HQ2.out ?_) | (refine a_get rfl rfl rfl hM.at2 H0.out ?_) | (refine a_get rfl rfl rfl hM.at1 HQ0.out ?_) | (refine a_get rfl rfl rfl hM.at1 HQ3.out ?_)) | go_values | go_skip | go_guarded | go_step | go_upon | (simp only [Int.not_lt, Int.not_le] at *; go_simp))
      refine (HB.out _).mono ?_
      rintro r u ⟨rfl, rfl⟩
      go_upto_region 8 with (first | (refine a_get rfl rfl rfl hM.at1 HQ2.out ?_) | (refine a_get rfl rfl rfl hM.at2 H0.out ?_) | (refine a_get rfl rfl rfl hM.at1 HQ0.out ?_))
      have c0 := bx_cell hM.at1 HQ0.out
      have c2 := bx_cell hM.at1 HQ2.out
      have d2 := bx_cell hM.at2 H0.out
      rw [hE] at d2
      go_quiet (fail)
      replace hM := hM.drewN nq
      clear c0 c2 d2
      go_simp
      rename World => u
      repeat' (first | (go_big_may; first | (refine a_load rfl rfl row_slot rfl hM.at2 HE.out HC.out ?_) | (refine a_fill rfl rfl row_slot rfl rfl hM.at0 HL.out List.length_replicate ?_; intro u hv hc; replace hM := hM.put0 hc hv; clear hv hc)) | go_values | go_skip | go_guarded | go_step | go_upon | (simp only [Int.not_lt, Int.not_le] at *; go_simp))
      rw [HQ.out]
      exact bodyPost_ret (ret_2 Try.results86 rfl (ld_var row_slot hM.at0 HL.out) rfl) rfl ⟨rfl, hM.below⟩
    · have HQ : Hid (atE s 8 (m : Int) a = (s, 19)) := atE_8_2 hb hE hmk
      clear hs hb ht hr h0 hmk hk hl2
      go_enter Try.func86, Try.ntmps86
      repeat' (first | (go_big_may; first | (refine a_box rfl rfl rfl ?_; intro u zc hN; replace hM := hM.new hN; clear hN) | (refine a_alloc rfl zer_slot rfl ?_; intro u zr hN; replace hM := hM.new hN; clear hN) | (refine a_get rfl rfl rfl hM.at1 HQ2.out ?_)) | go_values | go_skip | go_guarded | go_step | go_upon | (simp only [Int.not_lt, Int.not_le] at *; go_simp))
      refine (HK.out _).mono ?_
      rintro r u ⟨rfl, rfl⟩
      repeat' (first | (go_big_may; first | (refine a_get rfl rfl rfl hM.at1 HQ2.out ?_) | (refine a_get rfl rfl rfl hM.at2 H0.out ?_) | (refine a_get rfl rfl rfl hM.at1 HQ0.out ?_) | (refine a_get rfl rfl rfl hM.at1 HQ3.out ?_)) | go_values | go_skip | go_guarded | go_step | go_upon | (simp only [Int.not_lt, Int.not_le] at *; go_simp))
      refine (HB.out _).mono ?_
      rintro r u ⟨rfl, rfl⟩
      go_upto_region 8 with (first | (refine a_get rfl rfl rfl hM.at1 HQ2.out ?_) | (refine a_get rfl rfl rfl hM.at2 H0.out ?_) | (refine a_get rfl rfl rfl hM.at1 HQ0.out ?_))
      have c0 := bx_cell hM.at1 HQ0.out
      have c2 := bx_cell hM.at1 HQ2.out
      have d2 := bx_cell hM.at2 H0.out
      rw [hE] at d2
      go_quiet (fail)
      replace hM := hM.drewN nq
      clear c0 c2 d2
      go_simp
      rename World => u
      repeat' (first | (go_big_may; first | (refine a_load rfl rfl row_slot rfl hM.at2 HE.out HC.out ?_) | (refine a_fill rfl rfl row_slot rfl rfl hM.at0 HL.out List.length_replicate ?_; intro u hv hc; replace hM := hM.put0 hc hv; clear hv hc)) | go_values | go_skip | go_guarded | go_step | go_upon | (simp only [Int.not_lt, Int.not_le] at *; go_simp))
      rw [HQ.out]
      exact bodyPost_ret (ret_2 Try.results86 rfl (ld_var row_slot hM.at0 HL.out) rfl) rfl ⟨rfl, hM.below⟩
    · have HQ : Hid (atE s 8 (m : Int) a = ((s.set (2 + m) 3).set (34 + m) a, 1)) := atE_8_3 hb hE hmk
      have HF : Hid (((s.set (2 + m) 3).set (34 + m) a).length = 66) := by show _ = 66; rw [List.length_set]; exact hl2 _
      have HJ34 : Hid (34 + m < (s.set (2 + m) 3).length) := by show _ < _; rw [hl2]; omega
      have HFE : Hid (0 + 66 ≤ ((s.set (2 + m) 3).set (34 + m) a).length) := by show 0 + 66 ≤ _; rw [HF.out]; omega
      have HFC : Hid (cut ((s.set (2 + m) 3).set (34 + m) a) 0 66 = (s.set (2 + m) 3).set (34 + m) a) := cut_all HF.out
      clear hs hb ht hr h0 hmk hk hl2
      go_enter Try.func86, Try.ntmps86
      repeat' (first | (go_big_may; first | (refine a_box rfl rfl rfl ?_; intro u zc hN; replace hM := hM.new hN; clear hN) | (refine a_alloc rfl zer_slot rfl ?_; intro u zr hN; replace hM := hM.new hN; clear hN) | (refine a_get rfl rfl rfl hM.at1 HQ2.out ?_)) | go_values | go_skip | go_guarded | go_step | go_upon | (simp only [Int.not_lt, Int.not_le] at *; go_simp))
      refine (HK.out _).mono ?_
      rintro r u ⟨rfl, rfl⟩
      repeat' (first | (go_big_may; first | (refine a_get rfl rfl rfl hM.at1 HQ2.out ?_) | (refine a_get rfl rfl rfl hM.at2 H0.out ?_) | (refine a_get rfl rfl rfl hM.at1 HQ0.out ?_) | (refine a_get rfl rfl rfl hM.at1 HQ3.out ?_)) | go_values | go_skip | go_guarded | go_step | go_upon | (simp only [Int.not_lt, Int.not_le] at *; go_simp))
      refine (HB.out _).mono ?_
      rintro r u ⟨rfl, rfl⟩
      go_upto_region 8 with (first | (refine a_get rfl rfl rfl hM.at1 HQ2.out ?_) | (refine a_get rfl rfl rfl hM.at2 H0.out ?_) | (refine a_get rfl rfl rfl hM.at1 HQ0.out ?_))
      have c0 := bx_cell hM.at1 HQ0.out
      have c2 := bx_cell hM.at1 HQ2.out
      have d2 := bx_cell hM.at2 H0.out
      rw [hE] at d2
      go_quiet (fail)
      replace hM := hM.drewN nq
      clear c0 c2 d2
      go_simp
      rename World => u
      repeat' (first | (go_big_may; first | (refine a_get rfl rfl rfl hM.at1 HQ2.out ?_) | (refine a_put rfl rfl rfl rfl hM.at2 HJ2.out ?_; intro u hv hc; replace hM := hM.put2 hc hv; clear hv hc) | (refine a_get rfl rfl rfl hM.at1 HQ0.out ?_) | (refine a_get rfl rfl rfl hM.at1 HQ3.out ?_) | (refine a_put rfl rfl rfl rfl hM.at2 HJ34.out ?_; intro u hv hc; replace hM := hM.put2 hc hv; clear hv hc) | (refine a_load rfl rfl row_slot rfl hM.at2 HFE.out HFC.out ?_) | (refine a_fill rfl rfl row_slot rfl rfl hM.at0 HF.out List.length_replicate ?_; intro u hv hc; replace hM := hM.put0 hc hv; clear hv hc)) | go_values | go_skip | go_guarded | go_step | go_upon | (simp only [Int.not_lt, Int.not_le] at *; go_simp))
      rw [HQ.out]
      exact bodyPost_ret (ret_2 Try.results86 rfl (ld_var row_slot hM.at0 HF.out) rfl) rfl ⟨rfl, hM.below⟩
  · subst hk4
    rcases hen with hE | hE | hE
    · have HQ : Hid (atE s 9 (m : Int) a = (s.set (2 + m) 1, 1)) := atE_9_1 hb hE
      have HF : Hid ((s.set (2 + m) 1).length = 66) := hl2 _
      have HFE : Hid (0 + 66 ≤ (s.set (2 + m) 1).length) := by show 0 + 66 ≤ _; rw [HF.out]; omega
      have HFC : Hid (cut (s.set (2 + m) 1) 0 66 = s.set (2 + m) 1) := cut_all HF.out
      clear hs hb ht hr h0 hmk hk hl2
      go_enter Try.func86, Try.ntmps86
      repeat' (first | (go_big_may; first | (refine a_box rfl rfl rfl ?_; intro u zc hN; replace hM := hM.new hN; clear hN) | (refine a_alloc rfl zer_slot rfl ?_; intro u zr hN; replace hM := hM.new hN; clear hN) | (refine a_get rfl rfl rfl hM.at1 HQ2.out ?_)) | go_values | go_skip | go_guarded | go_step | go_upon | (simp only [Int.not_lt, Int.not_le] at *; go_simp))
      refine (HK.out _).mono ?_
      rintro r u ⟨rfl, rfl⟩
      go_upto_region 8 with (first | (refine a_get rfl rfl rfl hM.at1 HQ2.out ?_) | (refine a_get rfl rfl rfl hM.at2 H0.out ?_) | (refine a_get rfl rfl rfl hM.at1 HQ0.out ?_))
      have c0 := bx_cell hM.at1 HQ0.out
      have c2 := bx_cell hM.at1 HQ2.out
      have d2 := bx_cell hM.at2 H0.out
      rw [hE] at d2
      go_quiet (fail)
      replace hM := hM.drewN nq
      clear c0 c2 d2
      go_simp
      rename World => u
      repeat' (first | (go_big_may; first | (refine a_get rfl rfl rfl hM.at1 HQ2.out ?_) | (refine a_put rfl rfl rfl rfl hM.at2 HJ2.out ?_; intro u hv hc; replace hM := hM.put2 hc hv; clear hv hc) | (refine a_get rfl rfl rfl hM.at1 HQ0.out ?_) | (refine a_load rfl rfl row_slot rfl hM.at2 HFE.out HFC.out ?_) | (refine a_fill rfl rfl row_slot rfl rfl hM.at0 HF.out List.length_replicate ?_; intro u hv hc; replace hM := hM.put0 hc hv; clear hv hc)) | go_values | go_skip | go_guarded | go_step | go_upon | (simp only [Int.not_lt, Int.not_le] at *; go_simp))
      rw [HQ.out]
      exact bodyPost_ret (ret_2 Try.results86 rfl (ld_var row_slot hM.at0 HF.out) rfl) rfl ⟨rfl, hM.below⟩
    · have HQ : Hid (atE s 9 (m : Int) a = (s, 19)) := atE_9_2 hb hE
      clear hs hb ht hr h0 hmk hk hl2
      go_enter Try.func86, Try.ntmps86
      repeat' (first | (go_big_may; first | (refine a_box rfl rfl rfl ?_; intro u zc hN; replace hM := hM.new hN; clear hN) | (refine a_alloc rfl zer_slot rfl ?_; intro u zr hN; replace hM := hM.new hN; clear hN) | (refine a_get rfl rfl rfl hM.at1 HQ2.out ?_)) | go_values | go_skip | go_guarded | go_step | go_upon | (simp only [Int.not_lt, Int.not_le] at *; go_simp))
      refine (HK.out _).mono ?_
      rintro r u ⟨rfl, rfl⟩
      go_upto_region 8 with (first | (refine a_get rfl rfl rfl hM.at1 HQ2.out ?_) | (refine a_get rfl rfl rfl hM.at2 H0.out ?_) | (refine a_get rfl rfl rfl hM.at1 HQ0.out ?_))
      have c0 := bx_cell hM.at1 HQ0.out
      have c2 := bx_cell hM.at1 HQ2.out
      have d2 := bx_cell hM.at2 H0.out
      rw [hE] at d2
      go_quiet (fail)
      replace hM := hM.drewN nq
      clear c0 c2 d2
      go_simp
      rename World => u
      repeat' (first | (go_big_may; first | (refine a_load rfl rfl row_slot rfl hM.at2 HE.out HC.out ?_) | (refine a_fill rfl rfl row_slot rfl rfl hM.at0 HL.out List.length_replicate ?_; intro u hv hc; replace hM := hM.put0 hc hv; clear hv hc)) | go_values | go_skip | go_guarded | go_step | go_upon | (simp only [Int.not_lt, Int.not_le] at *; go_simp))
      rw [HQ.out]
      exact bodyPost_ret (ret_2 Try.results86 rfl (ld_var row_slot hM.at0 HL.out) rfl) rfl ⟨rfl, hM.below⟩
    · have HQ : Hid (atE s 9 (m : Int) a = (s.set (2 + m) 1, 1)) := atE_9_3 hb hE
      have HF : Hid ((s.set (2 + m) 1).length = 66) := hl2 _
      have HFE : Hid (0 + 66 ≤ (s.set (2 + m) 1).length) := by show 0 + 66 ≤ _; rw [HF.out]; omega
      have HFC : Hid (cut (s.set (2 + m) 1) 0 66 = s.set (2 + m) 1) := cut_all HF.out
      clear hs hb ht hr h0 hmk hk hl2
      go_enter Try.func86, Try.ntmps86
      repeat' (first | (go_big_may; first | (refine a_box rfl rfl rfl ?_; intro u zc hN; replace hM := hM.new hN; clear hN) | (refine a_alloc rfl zer_slot rfl ?_; intro u zr hN; replace hM := hM.new hN; clear hN) | (refine a_get rfl rfl rfl hM.at1 HQ2.out ?_)) | go_values | go_skip | go_guarded | go_step | go_upon | (simp only [Int.not_lt, Int.not_le] at *; go_simp))
      refine (HK.out _).mono ?_
      rintro r u ⟨rfl, rfl⟩
      go_upto_region 8 with (first | (refine a_get rfl rfl rfl hM.at1 HQ2.out ?_) | (refine a_get rfl rfl rfl hM.at2 H0.out ?_) | (refine a_get rfl rfl rfl hM.at1 HQ0.out ?_))
      have c0 := bx_cell hM.at1 HQ0.out
      have c2 := bx_cell hM.at1 HQ2.out
      have d2 := bx_cell hM.at2 H0.out
      rw [hE] at d2
      go_quiet (fail)
      replace hM := hM.drewN nq
      clear c0 c2 d2
      go_simp
      rename World => u
      repeat' (first | (go_big_may; first | (refine a_get rfl rfl rfl hM.at1 HQ2.out ?_) | (refine a_put rfl rfl rfl rfl hM.at2 HJ2.out ?_; intro u hv hc; replace hM := hM.put2 hc hv; clear hv hc) | (refine a_get rfl rfl rfl hM.at1 HQ0.out ?_) | (refine a_load rfl rfl row_slot rfl hM.at2 HFE.out HFC.out ?_) | (refine a_fill rfl rfl row_slot rfl rfl hM.at0 HF.out List.length_replicate ?_; intro u hv hc; replace hM := hM.put0 hc hv; clear hv hc)) | go_values | go_skip | go_guarded | go_step | go_upon | (simp only [Int.not_lt, Int.not_le] at *; go_simp))
      rw [HQ.out]
      exact bodyPost_ret (ret_2 Try.results86 rfl (ld_var row_slot hM.at0 HF.out) rfl) rfl ⟨rfl, hM.below⟩
end Go.Proofs.Ythjmcopknkemnaa.slots

/- slots, the document's answer: the plain mathematics of Configured. No program is named here. -/
namespace Go.Proofs.Ythjmcopknkemnaa.slots
set_option linter.unusedVariables false

/-- is a bit from 2 on below k in the set? -/
def anyB (a : Int) : Nat → Bool
  | 0 => false
  | k + 1 => anyB a k || (decide (2 ≤ k) && bit a k == 1)
def rfN (s : List Int) (a : Int) (k j : Nat) : Int :=
  if j = 0 then (if anyB a k = true then 3 else 2)
  else if j = 1 ∨ j = 3 ∨ j = 35 then cl s j
  else if 4 ≤ j ∧ j < 34 ∧ j < k + 2 then (if bit a (j - 2) = 1 then (if 1 < cl s j then cl s j else 1) else 0)
  else if 36 ≤ j ∧ j < k + 34 then (if bit a (j - 34) = 1 then cl s j else 0) else 0
def rfL (s : List Int) (a : Int) (k : Nat) : List Int := (List.range 66).map (rfN s a k)
theorem rfL_length (s : List Int) (a : Int) (k : Nat) : (rfL s a k).length = 66 := by simp [rfL]
theorem cl_rfL {s : List Int} {a : Int} {k j : Nat} (h : j < 66) : cl (rfL s a k) j = rfN s a k j := cl_map h
def two66 (x : Int) : List Int := 2 :: x :: List.replicate 64 0
theorem two_len (x : Int) : (two66 x).length = 66 := by simp [two66]
theorem cl_two {x : Int} {j : Nat} : cl (two66 x) j = if j = 0 then 2 else if j = 1 then x else 0 := by
  unfold cl two66
  match j with
  | 0 => rfl
  | 1 => rfl
  | j + 2 =>
    rw [if_neg (by omega), if_neg (by omega), List.getD_eq_getElem?_getD, List.getElem?_cons_succ, List.getElem?_cons_succ, List.getElem?_replicate]
    split <;> rfl
theorem rf_start {s : List Int} {a : Int} : ((two66 (cl s 1)).set 3 (cl s 3)).set 35 (cl s 35) = rfL s a 2 := by
  refine cl_ext (n := 66) (by simp [two_len]) (rfL_length _ _ _) fun j hj => ?_
  rw [cl_set, cl_set, cl_two, cl_rfL hj]
  simp only [List.length_set, two_len]
  unfold rfN
  by_cases j0 : j = 0
  · subst j0; rfl
  by_cases j1 : j = 1
  · subst j1; rfl
  by_cases j3 : j = 3
  · subst j3; rfl
  by_cases j35 : j = 35
  · subst j35; rfl
  rw [if_neg (by omega), if_neg (by omega), if_neg j0, if_neg j1, if_neg j0, if_neg (by omega), if_neg (by omega), if_neg (by omega)]
theorem anyB_step {a : Int} {k : Nat} (h2 : 2 ≤ k) : anyB a (k + 1) = (anyB a k || bit a k == 1) := by
  show (anyB a k || (decide (2 ≤ k) && bit a k == 1)) = _
  rw [decide_eq_true h2, Bool.true_and]
theorem rfN_same {s : List Int} {a : Int} {k j : Nat} (h2 : 2 ≤ k) (j0 : j ≠ 0) (j1 : j ≠ 2 + k) (j2 : j ≠ 34 + k) : rfN s a k j = rfN s a (k + 1) j := by
  unfold rfN
  rw [if_neg j0, if_neg j0]
  by_cases q : j = 1 ∨ j = 3 ∨ j = 35
  · rw [if_pos q, if_pos q]
  rw [if_neg q, if_neg q]
  by_cases lo : 4 ≤ j ∧ j < 34 ∧ j < k + 2
  · rw [if_pos lo, if_pos (show 4 ≤ j ∧ j < 34 ∧ j < k + 1 + 2 by omega)]
  rw [if_neg lo, if_neg (show ¬ (4 ≤ j ∧ j < 34 ∧ j < k + 1 + 2) by omega)]
  by_cases hi : 36 ≤ j ∧ j < k + 34
  · rw [if_pos hi, if_pos (show 36 ≤ j ∧ j < k + 1 + 34 by omega)]
  rw [if_neg hi, if_neg (show ¬ (36 ≤ j ∧ j < k + 1 + 34) by omega)]
theorem rfN_lo {s : List Int} {a : Int} {k j : Nat} (lo : 4 ≤ j ∧ j < 34 ∧ j < k + 2) : rfN s a k j = if bit a (j - 2) = 1 then (if 1 < cl s j then cl s j else 1) else 0 := by
  unfold rfN
  rw [if_neg (show ¬ j = 0 by omega), if_neg (show ¬ (j = 1 ∨ j = 3 ∨ j = 35) by omega), if_pos lo]
theorem rfN_hi {s : List Int} {a : Int} {k j : Nat} (hi : 36 ≤ j ∧ j < k + 34) : rfN s a k j = if bit a (j - 34) = 1 then cl s j else 0 := by
  unfold rfN
  rw [if_neg (show ¬ j = 0 by omega), if_neg (show ¬ (j = 1 ∨ j = 3 ∨ j = 35) by omega), if_neg (show ¬ (4 ≤ j ∧ j < 34 ∧ j < k + 2) by omega), if_pos hi]
theorem rfN_z {s : List Int} {a : Int} {k j : Nat} (j0 : ¬ j = 0) (q : ¬ (j = 1 ∨ j = 3 ∨ j = 35)) (lo : ¬ (4 ≤ j ∧ j < 34 ∧ j < k + 2)) (hi : ¬ (36 ≤ j ∧ j < k + 34)) : rfN s a k j = 0 := by
  unfold rfN
  rw [if_neg j0, if_neg q, if_neg lo, if_neg hi]
theorem rf_out {s : List Int} {a : Int} {k : Nat} (h2 : 2 ≤ k) (hk : k < 32) (hb : ¬ bit a k = 1) : rfL s a k = rfL s a (k + 1) := by
  refine cl_ext (n := 66) (rfL_length _ _ _) (rfL_length _ _ _) fun j hj => ?_
  rw [cl_rfL hj, cl_rfL hj]
  by_cases j0 : j = 0
  · subst j0
    unfold rfN
    rw [if_pos rfl, if_pos rfl, anyB_step h2]
    have : (bit a k == 1) = false := by simpa using hb
    rw [this, Bool.or_false]
  by_cases j1 : j = 2 + k
  · rw [rfN_z j0 (by omega) (by omega) (by omega), rfN_lo (by omega), show j - 2 = k by omega, if_neg hb]
  by_cases j2 : j = 34 + k
  · rw [rfN_z j0 (by omega) (by omega) (by omega), rfN_hi (by omega), show j - 34 = k by omega, if_neg hb]
  exact rfN_same h2 j0 j1 j2
theorem rf_in {s : List Int} {a : Int} {k : Nat} (h2 : 2 ≤ k) (hk : k < 32) (hb : bit a k = 1) : (((rfL s a k).set 0 3).set (2 + k) (if 1 < cl s (2 + k) then cl s (2 + k) else 1)).set (34 + k) (cl s (34 + k)) = rfL s a (k + 1) := by
  refine cl_ext (n := 66) (by simp [rfL_length]) (rfL_length _ _ _) fun j hj => ?_
  rw [cl_set, cl_set, cl_set, cl_rfL hj, cl_rfL hj]
  simp only [List.length_set, rfL_length]
  by_cases j2 : j = 34 + k
  · rw [if_pos ⟨j2, by omega⟩, rfN_hi (by omega), show j - 34 = k by omega, if_pos hb, j2]
  rw [if_neg (fun h => j2 h.1)]
  by_cases j1 : j = 2 + k
  · rw [if_pos ⟨j1, by omega⟩, rfN_lo (by omega), show j - 2 = k by omega, if_pos hb, j1]
  rw [if_neg (fun h => j1 h.1)]
  by_cases j0 : j = 0
  · rw [if_pos ⟨j0, by omega⟩]
    subst j0
    unfold rfN
    rw [if_pos rfl, anyB_step h2]
    have : (bit a k == 1) = true := by simpa using hb
    rw [this, Bool.or_true, if_pos rfl]
  rw [if_neg (fun h => j0 h.1)]
  exact rfN_same h2 j0 j1 j2
theorem anyB_iff {a : Int} : ∀ {k : Nat}, anyB a k = true ↔ ∃ i, 2 ≤ i ∧ i < k ∧ bit a i = 1
  | 0 => ⟨fun h => absurd h (by simp [anyB]), fun ⟨i, _, h, _⟩ => absurd h (by omega)⟩
  | k + 1 => by
    show (anyB a k || (decide (2 ≤ k) && bit a k == 1)) = true ↔ _
    rw [Bool.or_eq_true, anyB_iff, Bool.and_eq_true, decide_eq_true_eq, beq_iff_eq]
    constructor
    · rintro (⟨i, h1, h2, h3⟩ | ⟨h1, h2⟩)
      · exact ⟨i, h1, by omega, h3⟩
      · exact ⟨k, h1, by omega, h2⟩
    · rintro ⟨i, h1, h2, h3⟩
      by_cases q : i = k
      · subst q; exact .inr ⟨h1, h3⟩
      · exact .inl ⟨i, h1, by omega, h3⟩
theorem rf_end {s : List Int} {a : Int} (hs : s.length = 66) (hb : Big s) (ha : stB a = true) : rfL s a 32 = cfgd s a := by
  have hr := fun (k : Nat) (hk : k < 32) => right_en (right_iff.2 (.inr (.inr hb))) (k := k) hk
  refine cl_ext (n := 66) (rfL_length _ _ _) (by unfold cfgd; rw [List.length_set, cfL_length]) fun j hj => ?_
  rw [cl_rfL hj, cl_cfgd hs hj]
  by_cases j0 : j = 0
  · rw [if_pos j0, j0]
    unfold rfN
    rw [if_pos rfl]
    by_cases z : a = 0
    · rw [if_pos z, if_neg]
      intro h
      obtain ⟨i, _, _, h3⟩ := anyB_iff.1 h
      rw [z, bit_zero] at h3
      omega
    · rw [if_neg z, if_pos]
      refine anyB_iff.2 ?_
      by_cases q : ∃ i, 2 ≤ i ∧ i < 32 ∧ bit a i = 1
      · exact q
      · exact absurd (bits_zero ha fun i h1 h2 => by
          rcases bit_01 a i with b | b
          · exact b
          · exact absurd ⟨i, h1, h2, b⟩ q) z
  rw [if_neg j0]
  by_cases q : j = 1 ∨ j = 3 ∨ j = 35
  · rw [cfN_no (by omega) (by omega)]
    unfold rfN
    rw [if_neg j0, if_pos q]
  by_cases lo : 4 ≤ j ∧ j < 34 ∧ j < 32 + 2
  · rw [rfN_lo lo, cfN_lo lo]
    have := hr (j - 2) (by omega)
    unfold en at this
    rw [show 2 + (j - 2) = j by omega] at this
    rcases bit_01 a (j - 2) with b | b
    · rw [if_neg (by omega), if_pos b]
    · have b0 : ¬ bit a (j - 2) = 0 := by omega
      rw [if_pos b, if_neg b0]
      by_cases c : cl s j = 0
      · rw [if_pos c, if_neg (by omega)]
      · rw [if_neg c]
        by_cases c1 : 1 < cl s j
        · rw [if_pos c1]
        · rw [if_neg c1]; omega
  by_cases hi : 36 ≤ j ∧ j < 32 + 34
  · rw [rfN_hi hi, cfN_hi hi]
    rcases bit_01 a (j - 34) with b | b
    · rw [if_neg (by omega), if_pos b]
    · rw [if_pos b, if_neg (by omega)]
  rw [rfN_z j0 q lo hi, cfN_no lo hi]
  have hj2 : j = 2 ∨ j = 34 := by omega
  have h0 := hr 0 (by omega)
  have he := hb.e0
  rcases hj2 with z | z
  · subst z; exact he.symm
  · subst z; exact (h0.2.2.2.2 he).symm
end Go.Proofs.Ythjmcopknkemnaa.slots

/- slots, the document's answer: what Two and Configured answer. -/
namespace Go.Proofs.Ythjmcopknkemnaa.slots
open Go Go.RowKit
set_option linter.unusedVariables false
set_option linter.unusedSimpArgs false
set_option maxRecDepth 100000

theorem pow_bd : ∀ j : Fin 33, (1 : Int) ≤ 2 ^ j.val ∧ (2 : Int) ^ j.val ≤ 4294967296 := by decide
theorem ret_i64 {a b : Int} (h : a = b) : Ending.returned (.int .i64 a) = .returned (.int .i64 b) := by rw [h]
theorem two_any (k : Nat) (hk : k ≤ 32) (w : World) : Calls Try.prog 33 #[.int .i64 (k : Int)] w fun e w' => e = .returned (.int .i64 (2 ^ k)) ∧ w' = w := by
  go_enter Try.func33, Try.ntmps33
  go_wp2
  go_loop [3, 5] (fun n i => ∃ (j : Nat) (p : Int), j ≤ k ∧ 1 ≤ p ∧ p ≤ 4294967296 ∧ i = .int .i64 j ∧ n = .int .i64 p ∧ Hid (p = 2 ^ j)) (fun _ i => k - (intOf i).toNat)
  case atStart => exact ⟨0, 1, Nat.zero_le _, by omega, by omega, rfl, rfl, rfl⟩
  case round =>
    obtain ⟨j, p, hj, h1, h2, rfl, rfl, HP⟩ := hrel
    by_cases hlt : j < k
    · have hb := pow_bd ⟨j + 1, by omega⟩
      simp only [Int.pow_succ, ← HP.out] at hb
      go_wp2
      go_round
      case rel => exact ⟨j + 1, p * 2, by omega, hb.1, hb.2, by go_num, rfl, by show _ = _; rw [Int.pow_succ, HP.out]⟩
      case measure => simp [intOf]; omega
    · obtain rfl : j = k := by omega
      go_wp2
      go_ret
      exact ⟨ret_i64 HP.out, rfl⟩
theorem bld_two (x : Int) (w : World) : (Instr.build 38 #[(0, .int .i64 2), (1, .int .i64 x)]).run Try.prog w = .ok (ag (two66 x)) w := by kernel_rfl
theorem h_put {md : Region.Mode} {ops : Array Oper} {Q : Exit → Act → World → Prop} {S : World → Prop} {i : Nat} {o : Oper} {fuel : Nat} {L : Array Bool} {a : Act} {W : World} (hi : ops[i]? = some o) (hrd : Region.ready md ops L = [i]) (hg : o.guard = none)
    {x y : Operand} (ho : o.op = .store 3 x y) {B j : Nat} {T : TypeId} {l : List Int} {v : Int} (hx : a.eval x = .pointer (some ⟨B, j, none⟩)) (hy : a.eval y = .int .i64 v) (hB : W.heap[B]? = some (bx T l)) (hj : j < l.length)
    (h : ∀ u, u.heap[B]? = some (bx T (l.set j v)) → Chg B W u → S u ∧ wpAnyH Try.prog md ops Q S fuel (L.setIfInBounds i true) (a.put o.dst undef) u) : wpAnyH Try.prog md ops Q S (fuel + 1) L a W := by
  have hc := bx_cell hB (List.getElem?_eq_getElem hj)
  have hf := bx_free hB j
  have hs : (Instr.storeAt 3 (.pointer (some ⟨B, j, none⟩)) (.int .i64 v)).run Try.prog W = .ok () (W.setCell ⟨B, j, none⟩ (.int .i64 v)) := by
    simp [go_sem, hc, hf]
  have hr : (execOp a.eval o).run Try.prog W = .ok .skip (W.setCell ⟨B, j, none⟩ (.int .i64 v)) := by
    unfold execOp
    simp only [ho, hx, hy, Sem.run_bind, hs, Result.andThen_ok, Sem.run_pure]
  have hu := h _ (set_bx hB).1 (set_bx hB).2
  exact h_skip hi hrd hg hr hu.1 hu.2
set_option maxHeartbeats 16000000 in
theorem configured_any (s : List Int) (a : Int) (w : World) (hs : s.length = 66) (hr : right s = true) (h0 : ¬ st s = 0) : Calls Try.prog 85 #[ag s, .int .i64 a] w fun r w' => r = .returned (.tuple #[ag (cfg s a).1, .int .i64 (cfg s a).2]) ∧ Below w.heap.size w w' := by
  have HL : Hid (s.length = 66) := hs
  have HE : Hid (0 + 66 ≤ s.length) := by show 0 + 66 ≤ _; omega
  have HC : Hid (cut s 0 66 = s) := cut_all hs
  have H0 : Hid (s[0]? = some (cl s 0)) := cl_at (by omega)
  have H1 : Hid (s[1]? = some (cl s 1)) := cl_at (by omega)
  have H3 : Hid (s[3]? = some (cl s 3)) := cl_at (by omega)
  have H35 : Hid (s[35]? = some (cl s 35)) := cl_at (by omega)
  have HT : Hid (∀ w : World, Calls Try.prog 33 #[.int .i64 32] w fun e w' => e = .returned (.int .i64 4294967296) ∧ w' = w) := two_any 32 (by omega)
  have HB : Hid (∀ u, Calls Try.prog 32 #[.int .i64 a, .int .i64 0, .int .i64 4294967295] u fun e w' => e = .returned (.bool (decide (0 ≤ a) && decide (a ≤ 4294967295))) ∧ u = w') := between_any _ _ _
  have hM := Mm.nil w
  cases hbw : (decide (0 ≤ a) && decide (a ≤ 4294967295))
  · have HQ : Hid (cfg s a = (s, 17)) := by show cfg s a = _; unfold cfg stB; rw [hbw, if_pos (by rfl)]
    rw [hbw] at HB
    clear hs hbw hr h0
    go_enter Try.func85, Try.ntmps85
    repeat' (first | (go_big_may; first | (refine a_box rfl rfl rfl ?_; intro u zb hN; replace hM := hM.new hN; clear hN) | (refine a_alloc rfl zer_slot rfl ?_; intro u zb hN; replace hM := hM.new hN; clear hN)) | go_values | go_skip | go_guarded | go_step | go_upon | (simp only [Int.not_lt, Int.not_le] at *; go_simp))
    refine (HT.out _).mono ?_
    rintro r u ⟨rfl, rfl⟩
    repeat' (first | go_values | go_skip | go_guarded | go_step | go_upon | (simp only [Int.not_lt, Int.not_le] at *; go_simp))
    refine (HB.out _).mono ?_
    rintro r u ⟨rfl, rfl⟩
    repeat' (first | (go_big_may; first | (refine a_load rfl rfl row_slot rfl hM.at1 HE.out HC.out ?_) | (refine a_fill rfl rfl row_slot rfl rfl hM.at0 HL.out List.length_replicate ?_; intro u hv hc; replace hM := hM.put0 hc hv; clear hv hc)) | go_values | go_skip | go_guarded | go_step | go_upon | (simp only [Int.not_lt, Int.not_le] at *; go_simp))
    rw [HQ.out]
    exact bodyPost_ret (ret_2 Try.results85 rfl (ld_var row_slot hM.at0 HL.out) rfl) rfl ⟨rfl, hM.below⟩
  rw [hbw] at HB
  have hb2 : 0 ≤ a ∧ a ≤ 4294967295 := by simpa using hbw
  obtain ⟨n, rfl⟩ : ∃ n : Nat, a = n := ⟨a.toNat, by omega⟩
  have hn : n ≤ 4294967295 := by omega
  by_cases h4 : ¬ (n : Int) % 4 = 0
  · have HQ : Hid (cfg s (n : Int) = (s, 17)) := by show cfg s n = _; unfold cfg stB; rw [hbw, if_pos (by rw [decide_eq_false h4]; rfl)]
    have e4 : ((n : Int) % 4 != 0) = true := by simpa using h4
    clear hs hbw hr h0 hb2 h4
    go_enter Try.func85, Try.ntmps85
    repeat' (first | (go_big_may; first | (refine a_box rfl rfl rfl ?_; intro u zb hN; replace hM := hM.new hN; clear hN) | (refine a_alloc rfl zer_slot rfl ?_; intro u zb hN; replace hM := hM.new hN; clear hN)) | go_values | go_skip | go_guarded | go_step | go_upon | (simp only [Int.not_lt, Int.not_le] at *; go_simp))
    refine (HT.out _).mono ?_
    rintro r u ⟨rfl, rfl⟩
    repeat' (first | go_values | go_skip | go_guarded | go_step | go_upon | (simp only [Int.not_lt, Int.not_le] at *; go_simp))
    refine (HB.out _).mono ?_
    rintro r u ⟨rfl, rfl⟩
    repeat' (first | (go_big_may; first | (refine a_load rfl rfl row_slot rfl hM.at1 HE.out HC.out ?_) | (refine a_fill rfl rfl row_slot rfl rfl hM.at0 HL.out List.length_replicate ?_; intro u hv hc; replace hM := hM.put0 hc hv; clear hv hc)) | go_values | go_skip | go_guarded | go_step | go_upon | (simp only [Int.not_lt, Int.not_le] at *; go_simp))
    rw [HQ.out]
    exact bodyPost_ret (ret_2 Try.results85 rfl (ld_var row_slot hM.at0 HL.out) rfl) rfl ⟨rfl, hM.below⟩
  have h4 : (n : Int) % 4 = 0 := by omega
  have e4 : ((n : Int) % 4 != 0) = false := by simpa using h4
  have hst : stB (n : Int) = true := by unfold stB; rw [hbw, decide_eq_true h4]; rfl
  by_cases h3 : cl s 0 = 1
  · have HQ : Hid (cfg s (n : Int) = (s, 19)) := by show cfg s n = _; unfold cfg st; rw [hst, if_neg (by simp), if_pos h3]
    have e1 : (cl s 0 == 1) = true := by simpa using h3
    clear hs hbw hr h0 hb2 h4 h3 hst
    go_enter Try.func85, Try.ntmps85
    repeat' (first | (go_big_may; first | (refine a_box rfl rfl rfl ?_; intro u zb hN; replace hM := hM.new hN; clear hN) | (refine a_alloc rfl zer_slot rfl ?_; intro u zb hN; replace hM := hM.new hN; clear hN)) | go_values | go_skip | go_guarded | go_step | go_upon | (simp only [Int.not_lt, Int.not_le] at *; go_simp))
    refine (HT.out _).mono ?_
    rintro r u ⟨rfl, rfl⟩
    repeat' (first | go_values | go_skip | go_guarded | go_step | go_upon | (simp only [Int.not_lt, Int.not_le] at *; go_simp))
    refine (HB.out _).mono ?_
    rintro r u ⟨rfl, rfl⟩
    repeat' (first | (go_big_may; first | (refine a_get rfl rfl rfl hM.at1 H0.out ?_) | (refine a_load rfl rfl row_slot rfl hM.at1 HE.out HC.out ?_) | (refine a_fill rfl rfl row_slot rfl rfl hM.at0 HL.out List.length_replicate ?_; intro u hv hc; replace hM := hM.put0 hc hv; clear hv hc)) | go_values | go_skip | go_guarded | go_step | go_upon | (simp only [Int.not_lt, Int.not_le] at *; go_simp))
    rw [HQ.out]
    exact bodyPost_ret (ret_2 Try.results85 rfl (ld_var row_slot hM.at0 HL.out) rfl) rfl ⟨rfl, hM.below⟩
  have HQ : Hid (cfg s (n : Int) = (rfL s (n : Int) 32, 1)) := by show cfg s n = _; unfold cfg st; rw [hst, if_neg (by simp), if_neg h3, rf_end hs (right_big hr h0 h3) hst]
  have e1 : (cl s 0 == 1) = false := by simpa using h3
  have HTL : Hid ((two66 (cl s 1)).length = 66) := two_len _
  have hbt := bld_two (cl s 1)
  rw [HQ.out]
  clear hs hbw hr h0 hb2 h4 h3 hst HQ
  go_enter Try.func85, Try.ntmps85
  repeat' (first | (go_big_may; first | (refine a_box rfl rfl rfl ?_; intro u zs hN; replace hM := hM.new hN; clear hN) | (refine a_alloc rfl zer_slot rfl ?_; intro u zr hN; replace hM := hM.new hN; clear hN)) | go_values | go_skip | go_guarded | go_step | go_upon | (simp only [Int.not_lt, Int.not_le] at *; go_simp))
  refine (HT.out _).mono ?_
  rintro r u ⟨rfl, rfl⟩
  repeat' (first | go_values | go_skip | go_guarded | go_step | go_upon | (simp only [Int.not_lt, Int.not_le] at *; go_simp))
  refine (HB.out _).mono ?_
  rintro r u ⟨rfl, rfl⟩
  repeat' (first | (go_big_may; first | (refine a_get rfl rfl rfl hM.at1 H0.out ?_) | (refine a_get rfl rfl rfl hM.at1 H1.out ?_) | (refine a_build rfl rfl hbt (by simp [Act.eval, Act.put]) ?_) | (refine a_alloc rfl zer_slot rfl ?_; intro u zt hN; replace hM := hM.new hN; clear hN) | (refine a_fill rfl rfl row_slot rfl rfl hM.at0 HTL.out List.length_replicate ?_; intro u hv hc; replace hM := hM.put0 hc hv; clear hv hc)) | go_values | go_skip | go_guarded | go_step | go_upon | (simp only [Int.not_lt, Int.not_le] at *; go_simp))
  go_simp
  refine wp_abs (fun a0 => a0.tmps.size = 63 ∧ (∀ h, a0.tmps[2]'h = .pointer (some ⟨zs, 0, none⟩)) ∧ (∀ h, a0.tmps[6]'h = .pointer (some ⟨zt, 0, none⟩))) ⟨rfl, fun _ => rfl, fun _ => rfl⟩ ?_
  rintro a0 ⟨hsz, s2, s6⟩ ha0
  refine wp_region_held (S := fun W => ∃ l : List Int, l.length = 66 ∧ Mm w W [(zt, 38, l), (zr, 38, List.replicate 66 0), (zs, 38, s)]) (by kernel_rfl) ?_
  have hd0 : Mm w u.drew [(zt, 38, two66 (cl s 1)), (zr, 38, List.replicate 66 0), (zs, 38, s)] := ⟨hM.lies, hM.own, hM.ap, hM.below.drew⟩
  have hS0 : ∃ l : List Int, l.length = 66 ∧ Mm w u.drew [(zt, 38, l), (zr, 38, List.replicate 66 0), (zs, 38, s)] := ⟨_, HTL.out, hd0⟩
  refine h_take (i := 0) (.pointer (some ⟨zs, 2, none⟩)) rfl (by kernel_rfl) (by kernel_rfl) (by kernel_rfl) (fun _ _ _ h => h) rfl hS0 (fun W hW => by simp [execOp, go_sem, Act.put, hsz, s2, s6]) ?_
  refine h_take (i := 1) (.pointer (some ⟨zs, 3, none⟩)) rfl (by kernel_rfl) (by kernel_rfl) (by kernel_rfl) (fun _ _ _ h => h) rfl hS0 (fun W hW => by simp [execOp, go_sem, Act.put, hsz, s2, s6]) ?_
  refine h_take (i := 2) (.int .i64 (cl s 3)) rfl (by kernel_rfl) (by kernel_rfl) (by kernel_rfl) (fun _ _ _ h => h) rfl hS0 (fun W hW => by
      obtain ⟨l, hl, hm⟩ := hW
      exact ex_get rfl (by simp [go_sem, Act.put, hsz, s2, s6]) hm.at2 H3.out) ?_
  refine h_take (i := 3) (.pointer (some ⟨zs, 34, none⟩)) rfl (by kernel_rfl) (by kernel_rfl) (by kernel_rfl) (fun _ _ _ h => h) rfl hS0 (fun W hW => by simp [execOp, go_sem, Act.put, hsz, s2, s6]) ?_
  refine h_take (i := 4) (.pointer (some ⟨zs, 35, none⟩)) rfl (by kernel_rfl) (by kernel_rfl) (by kernel_rfl) (fun _ _ _ h => h) rfl hS0 (fun W hW => by simp [execOp, go_sem, Act.put, hsz, s2, s6]) ?_
  refine h_take (i := 5) (.int .i64 (cl s 35)) rfl (by kernel_rfl) (by kernel_rfl) (by kernel_rfl) (fun _ _ _ h => h) rfl hS0 (fun W hW => by
      obtain ⟨l, hl, hm⟩ := hW
      exact ex_get rfl (by simp [go_sem, Act.put, hsz, s2, s6]) hm.at2 H35.out) ?_
  refine h_take (i := 6) (.pointer (some ⟨zt, 2, none⟩)) rfl (by kernel_rfl) (by kernel_rfl) (by kernel_rfl) (fun _ _ _ h => h) rfl hS0 (fun W hW => by simp [execOp, go_sem, Act.put, hsz, s2, s6]) ?_
  refine h_take (i := 9) (.pointer (some ⟨zt, 34, none⟩)) rfl (by kernel_rfl) (by kernel_rfl) (by kernel_rfl) (fun _ _ _ h => h) rfl hS0 (fun W hW => by simp [execOp, go_sem, Act.put, hsz, s2, s6]) ?_
  refine h_take (i := 7) (.pointer (some ⟨zt, 3, none⟩)) rfl (by kernel_rfl) (by kernel_rfl) (by kernel_rfl) (fun _ _ _ h => h) rfl hS0 (fun W hW => by simp [execOp, go_sem, Act.put, hsz, s2, s6]) ?_
  refine h_put (i := 8) (B := zt) (j := 3) (v := cl s 3) rfl (by kernel_rfl) rfl rfl (by simp [go_sem, Act.put, hsz, s2, s6]) (by simp [go_sem, Act.put, hsz, s2, s6]) hd0.at0 (by rw [HTL.out]; omega) (fun u1 hl1 hc1 => ?_)
  have hd1 := hd0.put0 hc1 hl1
  have hS1 : ∃ l : List Int, l.length = 66 ∧ Mm w u1 [(zt, 38, l), (zr, 38, List.replicate 66 0), (zs, 38, s)] := ⟨_, by simp only [List.length_set]; exact HTL.out, hd1⟩
  refine ⟨hS1, ?_⟩
  refine h_take (i := 10) (.pointer (some ⟨zt, 35, none⟩)) rfl (by kernel_rfl) (by kernel_rfl) (by kernel_rfl) (fun _ _ _ h => h) rfl hS1 (fun W hW => by simp [execOp, go_sem, Act.put, hsz, s2, s6]) ?_
  refine h_put (i := 11) (B := zt) (j := 35) (v := cl s 35) rfl (by kernel_rfl) rfl rfl (by simp [go_sem, Act.put, hsz, s2, s6]) (by simp [go_sem, Act.put, hsz, s2, s6]) hd1.at0 (by simp only [List.length_set]; exact (by rw [HTL.out]; omega)) (fun u2 hl2 hc2 => ?_)
  have hd2 := hd1.put0 hc2 hl2
  have hS2 : ∃ l : List Int, l.length = 66 ∧ Mm w u2 [(zt, 38, l), (zr, 38, List.replicate 66 0), (zs, 38, s)] := ⟨_, by simp only [List.length_set]; exact HTL.out, hd2⟩
  refine ⟨hS2, ?_⟩
  rw [rf_start (a := (n : Int))] at hd2
  refine wpAnyH_done (by kernel_rfl) ?_ _
  subst ha0
  clear hsz s2 s6 hS0 hS1 hS2 hd0 hd1 hM
  go_simp
  repeat' (first | go_values | go_skip | go_guarded | go_step | go_upon | (simp only [Int.not_lt, Int.not_le] at *; go_simp))
  have HM : Hid (Mm w u2 [(zt, 38, rfL s (n : Int) 2), (zr, 38, List.replicate 66 0), (zs, 38, s)]) := hd2
  clear hd2 HT HB hbt HTL H0 H1 H3 H35
  go_loopw [7] (fun i wr => ∃ k : Nat, 2 ≤ k ∧ k ≤ 32 ∧ i = .int .i64 (k : Int) ∧ Hid (Mm w wr [(zt, 38, rfL s (n : Int) k), (zr, 38, List.replicate 66 0), (zs, 38, s)])) (fun i _ => 32 - (intOf i).toNat)
  case atStart => exact ⟨2, by omega, by omega, rfl, HM.out⟩
  case round =>
    obtain ⟨k, hk2, hk, rfl, HA⟩ := hrel
    have hM := HA.out
    clear HA HM
    by_cases hlt : ¬ k < 32
    · have hk32 : k = 32 := by omega
      subst hk32
      have HFL : Hid ((rfL s (n : Int) 32).length = 66) := rfL_length _ _ _
      have HFE : Hid (0 + 66 ≤ (rfL s (n : Int) 32).length) := by show 0 + 66 ≤ _; rw [rfL_length]; omega
      have HFC : Hid (cut (rfL s (n : Int) 32) 0 66 = rfL s (n : Int) 32) := cut_all (rfL_length _ _ _)

      repeat' (first | (go_big_may; first | (refine a_load rfl rfl row_slot rfl hM.at0 HFE.out HFC.out ?_) | (refine a_fill rfl rfl row_slot rfl rfl hM.at1 HFL.out List.length_replicate ?_; intro u hv hc; replace hM := hM.put1 hc hv; clear hv hc)) | go_values | go_skip | go_guarded | go_step | go_upon | (simp only [Int.not_lt, Int.not_le] at *; go_simp))
      exact bodyPost_ret (ret_2 Try.results85 rfl (ld_var row_slot hM.at1 HFL.out) rfl) rfl ⟨rfl, hM.below⟩
    have hlt : k < 32 := by omega
    have HGe : Hid (s[2 + k]? = some (cl s (2 + k))) := cl_at (by rw [HL.out]; omega)
    have HGm : Hid (s[34 + k]? = some (cl s (34 + k))) := cl_at (by rw [HL.out]; omega)
    obtain ⟨p, hp1, hp2, hpe, HTW⟩ : ∃ p : Int, 1 ≤ p ∧ p ≤ 4294967296 ∧ p = 2 ^ k ∧ Hid (∀ w : World, Calls Try.prog 33 #[.int .i64 (k : Int)] w fun e w' => e = .returned (.int .i64 p) ∧ w' = w) := ⟨2 ^ k, (pow_bd ⟨k, by omega⟩).1, (pow_bd ⟨k, by omega⟩).2, rfl, two_any k (by omega)⟩
    obtain ⟨d, hd, hdb, hdk⟩ : ∃ d : Nat, (n : Int) / p = (d : Int) ∧ d ≤ 4294967295 ∧ bit (n : Int) k = (d : Int) % 2 := by
      have e : ((2 ^ k : Nat) : Int) = 2 ^ k := by simp
      refine ⟨n / 2 ^ k, ?_, Nat.le_trans (Nat.div_le_self _ _) hn, ?_⟩
      · rw [hpe, ← e]; rfl
      · unfold bit; rw [← e]; rfl
    have HDK : Hid (bit (n : Int) k = (d : Int) % 2) := hdk
    clear hpe hdk
    by_cases hbit : ¬ bit (n : Int) k = 1
    · have eb : ((d : Int) % 2 == 1) = false := by rw [HDK.out] at hbit; simpa using hbit
      have HN : Hid (rfL s (n : Int) k = rfL s (n : Int) (k + 1)) := rf_out hk2 hlt hbit
      clear hbit
      repeat' (first | go_values | go_skip | go_guarded | go_step | go_upon | (simp only [Int.not_lt, Int.not_le] at *; go_simp))
      refine (HTW.out _).mono ?_
      rintro r v ⟨rfl, rfl⟩
      repeat' (first | go_values | go_skip | go_guarded | go_step | go_upon | (simp only [Int.not_lt, Int.not_le] at *; go_simp))
      rw [HN.out] at hM
      go_roundw
      case rel => exact ⟨k + 1, by omega, by omega, by go_num, hM⟩
      case measure => simp [intOf]; omega
    have hbit : bit (n : Int) k = 1 := by
      by_cases z : bit (n : Int) k = 1
      · exact z
      · exact absurd z hbit
    have eb : ((d : Int) % 2 == 1) = true := by rw [HDK.out] at hbit; simpa using hbit
    have HBit : Hid (bit (n : Int) k = 1) := hbit
    clear hbit
    repeat' (first | go_values | go_skip | go_guarded | go_step | go_upon | (simp only [Int.not_lt, Int.not_le] at *; go_simp))
    refine (HTW.out _).mono ?_
    rintro r v ⟨rfl, rfl⟩
    repeat' (first | go_values | go_skip | go_guarded | go_step | go_upon | (simp only [Int.not_lt, Int.not_le] at *; go_simp))
    have hbit := HBit.out
    rename World => wr
    refine wp_abs (fun a0 => a0.tmps.size = 63 ∧ (∀ h, a0.tmps[2]'h = .pointer (some ⟨zs, 0, none⟩)) ∧ (∀ h, a0.tmps[6]'h = .pointer (some ⟨zt, 0, none⟩)) ∧ (∀ h, a0.tmps[7]'h = .int .i64 (k : Int))) ⟨rfl, fun _ => rfl, fun _ => rfl, fun _ => rfl⟩ ?_
    rintro a0 ⟨hsz, s2, s6, s7⟩ ha0
    refine wp_region_held (S := fun W => ∃ l : List Int, l.length = 66 ∧ Mm w W [(zt, 38, l), (zr, 38, List.replicate 66 0), (zs, 38, s)]) (by kernel_rfl) ?_
    have hd0 : Mm w wr.drew [(zt, 38, rfL s (n : Int) k), (zr, 38, List.replicate 66 0), (zs, 38, s)] := ⟨hM.lies, hM.own, hM.ap, hM.below.drew⟩
    have hS0 : ∃ l : List Int, l.length = 66 ∧ Mm w wr.drew [(zt, 38, l), (zr, 38, List.replicate 66 0), (zs, 38, s)] := ⟨_, rfL_length _ _ _, hd0⟩
    refine h_take (i := 0) (.int .i64 (k : Int)) rfl (by kernel_rfl) (by kernel_rfl) (by kernel_rfl) (fun _ _ _ h => h) rfl hS0 (fun W hW => by simp [execOp, go_sem, Act.put, hsz, s2, s6, s7]) ?_
    refine h_take (i := 1) (.int .i64 (k : Int)) rfl (by kernel_rfl) (by kernel_rfl) (by kernel_rfl) (fun _ _ _ h => h) rfl hS0 (fun W hW => by simp [execOp, go_sem, Act.put, hsz, s2, s6, s7]) ?_
    refine h_take (i := 2) (.int .i64 (k : Int)) rfl (by kernel_rfl) (by kernel_rfl) (by kernel_rfl) (fun _ _ _ h => h) rfl hS0 (fun W hW => by simp [execOp, go_sem, Act.put, hsz, s2, s6, s7]) ?_
    refine h_take (i := 3) (.pointer (some ⟨zs, 2, none⟩)) rfl (by kernel_rfl) (by kernel_rfl) (by kernel_rfl) (fun _ _ _ h => h) rfl hS0 (fun W hW => by simp [execOp, go_sem, Act.put, hsz, s2, s6, s7]) ?_
    refine h_take (i := 4) (.pointer (some ⟨zs, 2 + k, none⟩)) rfl (by kernel_rfl) (by kernel_rfl) (by kernel_rfl) (fun _ _ _ h => h) rfl hS0 (fun W hW => by simp [execOp, go_sem, Act.put, hsz, s2, s6, s7, hlt]; intro h; omega) ?_
    refine h_take (i := 5) (.int .i64 (cl s (2 + k))) rfl (by kernel_rfl) (by kernel_rfl) (by kernel_rfl) (fun _ _ _ h => h) rfl hS0 (fun W hW => by
        obtain ⟨l, hl, hm⟩ := hW
        exact ex_get rfl (by simp [go_sem, Act.put, hsz, s2, s6, s7]) hm.at2 HGe.out) ?_
    refine h_take (i := 6) (.int .i64 (if 1 < cl s (2 + k) then cl s (2 + k) else 1)) rfl (by kernel_rfl) (by kernel_rfl) (by kernel_rfl) (fun _ _ _ h => h) rfl hS0 (fun W hW => by simp [execOp, go_sem, Act.put, hsz, s2, s6, s7]) ?_
    refine h_take (i := 7) (.int .i64 (k : Int)) rfl (by kernel_rfl) (by kernel_rfl) (by kernel_rfl) (fun _ _ _ h => h) rfl hS0 (fun W hW => by simp [execOp, go_sem, Act.put, hsz, s2, s6, s7]) ?_
    refine h_take (i := 8) (.pointer (some ⟨zs, 34, none⟩)) rfl (by kernel_rfl) (by kernel_rfl) (by kernel_rfl) (fun _ _ _ h => h) rfl hS0 (fun W hW => by simp [execOp, go_sem, Act.put, hsz, s2, s6, s7]) ?_
    refine h_take (i := 9) (.pointer (some ⟨zs, 34 + k, none⟩)) rfl (by kernel_rfl) (by kernel_rfl) (by kernel_rfl) (fun _ _ _ h => h) rfl hS0 (fun W hW => by simp [execOp, go_sem, Act.put, hsz, s2, s6, s7, hlt]; intro h; omega) ?_
    refine h_take (i := 10) (.int .i64 (cl s (34 + k))) rfl (by kernel_rfl) (by kernel_rfl) (by kernel_rfl) (fun _ _ _ h => h) rfl hS0 (fun W hW => by
        obtain ⟨l, hl, hm⟩ := hW
        exact ex_get rfl (by simp [go_sem, Act.put, hsz, s2, s6, s7]) hm.at2 HGm.out) ?_
    refine h_take (i := 11) (.pointer (some ⟨zt, 0, none⟩)) rfl (by kernel_rfl) (by kernel_rfl) (by kernel_rfl) (fun _ _ _ h => h) rfl hS0 (fun W hW => by simp [execOp, go_sem, Act.put, hsz, s2, s6, s7]) ?_
    refine h_take (i := 13) (.pointer (some ⟨zt, 2, none⟩)) rfl (by kernel_rfl) (by kernel_rfl) (by kernel_rfl) (fun _ _ _ h => h) rfl hS0 (fun W hW => by simp [execOp, go_sem, Act.put, hsz, s2, s6, s7]) ?_
    refine h_take (i := 16) (.pointer (some ⟨zt, 34, none⟩)) rfl (by kernel_rfl) (by kernel_rfl) (by kernel_rfl) (fun _ _ _ h => h) rfl hS0 (fun W hW => by simp [execOp, go_sem, Act.put, hsz, s2, s6, s7]) ?_
    refine h_put (i := 12) (B := zt) (j := 0) (v := 3) rfl (by kernel_rfl) rfl rfl (by simp [go_sem, Act.put, hsz, s2, s6, s7]) (by simp [go_sem, Act.put, hsz, s2, s6, s7]) hd0.at0 (by rw [rfL_length]; omega) (fun u1 hl1 hc1 => ?_)
    have hd1 := hd0.put0 hc1 hl1
    have hS1 : ∃ l : List Int, l.length = 66 ∧ Mm w u1 [(zt, 38, l), (zr, 38, List.replicate 66 0), (zs, 38, s)] := ⟨_, by simp only [List.length_set]; exact rfL_length _ _ _, hd1⟩
    refine ⟨hS1, ?_⟩
    refine h_take (i := 14) (.pointer (some ⟨zt, 2 + k, none⟩)) rfl (by kernel_rfl) (by kernel_rfl) (by kernel_rfl) (fun _ _ _ h => h) rfl hS1 (fun W hW => by simp [execOp, go_sem, Act.put, hsz, s2, s6, s7, hlt]; intro h; omega) ?_
    refine h_put (i := 15) (B := zt) (j := 2 + k) (v := if 1 < cl s (2 + k) then cl s (2 + k) else 1) rfl (by kernel_rfl) rfl rfl (by simp [go_sem, Act.put, hsz, s2, s6, s7]) (by simp [go_sem, Act.put, hsz, s2, s6, s7]) hd1.at0 (by simp only [List.length_set]; exact (by rw [rfL_length]; omega)) (fun u2 hl2 hc2 => ?_)
    have hd2 := hd1.put0 hc2 hl2
    have hS2 : ∃ l : List Int, l.length = 66 ∧ Mm w u2 [(zt, 38, l), (zr, 38, List.replicate 66 0), (zs, 38, s)] := ⟨_, by simp only [List.length_set]; exact rfL_length _ _ _, hd2⟩
    refine ⟨hS2, ?_⟩
    refine h_take (i := 17) (.pointer (some ⟨zt, 34 + k, none⟩)) rfl (by kernel_rfl) (by kernel_rfl) (by kernel_rfl) (fun _ _ _ h => h) rfl hS2 (fun W hW => by simp [execOp, go_sem, Act.put, hsz, s2, s6, s7, hlt]; intro h; omega) ?_
    refine h_put (i := 18) (B := zt) (j := 34 + k) (v := cl s (34 + k)) rfl (by kernel_rfl) rfl rfl (by simp [go_sem, Act.put, hsz, s2, s6, s7]) (by simp [go_sem, Act.put, hsz, s2, s6, s7]) hd2.at0 (by simp only [List.length_set]; exact (by rw [rfL_length]; omega)) (fun u3 hl3 hc3 => ?_)
    have hd3 := hd2.put0 hc3 hl3
    have hS3 : ∃ l : List Int, l.length = 66 ∧ Mm w u3 [(zt, 38, l), (zr, 38, List.replicate 66 0), (zs, 38, s)] := ⟨_, by simp only [List.length_set]; exact rfL_length _ _ _, hd3⟩
    refine ⟨hS3, ?_⟩
    rw [rf_in hk2 hlt hbit] at hd3
    refine wpAnyH_done (by kernel_rfl) ?_ _
    subst ha0
    clear hsz s2 s6 s7 hS0 hS1 hS2 hS3 hd0 hd1 hd2 hM
    go_simp
    repeat' (first | go_values | go_skip | go_guarded | go_step | go_upon | (simp only [Int.not_lt, Int.not_le] at *; go_simp))
    go_roundw
    case rel => exact ⟨k + 1, by omega, by omega, by go_num, hd3⟩
    case measure => simp [intOf]; omega
end Go.Proofs.Ythjmcopknkemnaa.slots

/- slots, the document's answer: the plain mathematics of Command and Done. No program is named here. -/
namespace Go.Proofs.Ythjmcopknkemnaa.slots
set_option linter.unusedVariables false

def isOn (B : Bd) (i : Nat) : Bool := cl (sl B i) 0 != 0
/-- slots that are on, and their addresses, as far as k -/
def onR (B : Bd) (k : Nat) : List Int := ((List.range k).filter (isOn B)).map Int.ofNat
def adR (B : Bd) (k : Nat) : List Int := ((List.range k).filter (isOn B)).map (fun i => cl (sl B i) 1)
theorem onR_in {B : Bd} {k : Nat} (h : isOn B k = true) : onR B (k + 1) = onR B k ++ [(k : Int)] := by
  unfold onR
  rw [List.range_succ, List.filter_append, List.map_append]
  simp [h]
theorem onR_out {B : Bd} {k : Nat} (h : isOn B k = false) : onR B (k + 1) = onR B k := by
  unfold onR
  rw [List.range_succ, List.filter_append, List.map_append]
  simp [h]
theorem adR_in {B : Bd} {k : Nat} (h : isOn B k = true) : adR B (k + 1) = adR B k ++ [cl (sl B k) 1] := by
  unfold adR
  rw [List.range_succ, List.filter_append, List.map_append]
  simp [h]
theorem adR_out {B : Bd} {k : Nat} (h : isOn B k = false) : adR B (k + 1) = adR B k := by
  unfold adR
  rw [List.range_succ, List.filter_append, List.map_append]
  simp [h]
theorem onR_len (B : Bd) (k : Nat) : (onR B k).length ≤ k := by
  unfold onR
  rw [List.length_map]
  have := List.length_filter_le (isOn B) (List.range k)
  rw [List.length_range] at this
  exact this
theorem adR_len (B : Bd) (k : Nat) : (adR B k).length ≤ k := by
  unfold adR
  rw [List.length_map]
  have := List.length_filter_le (isOn B) (List.range k)
  rw [List.length_range] at this
  exact this
theorem lst_congr {l m : List Int} (h : ∀ x : Nat, 1 ≤ x → ((x : Int) ∈ l ↔ (x : Int) ∈ m)) : lst l = lst m := by
  have hm := lst_is m
  exact lst_eq ⟨hm.pos, fun q => hm.out ((h _ hm.pos).1 q), fun x h1 h2 => (h x h1).2 (hm.all x h1 h2)⟩
theorem isOn_iff {B : Bd} (hok : Ok B) {i : Nat} (hi : i < 9) : isOn B i = true ↔ sl B i ≠ z66 := by
  unfold isOn
  rw [bne_iff_ne]
  constructor
  · intro h q
    rw [q] at h
    exact h rfl
  · intro h q
    exact h (right_0 (hok.right i hi) q)
theorem fr_on {B : Bd} (hok : Ok B) : lst (onR B 9) = fr B := by
  refine lst_congr fun x hx => ?_
  rw [mem_onZ]
  unfold onR
  rw [List.mem_map]
  constructor
  · rintro ⟨i, h1, h2⟩
    have : i = x := by have : (i : Int) = x := h2; omega
    subst this
    rw [List.mem_filter, List.mem_range] at h1
    exact ⟨h1.1, (isOn_iff hok h1.1).1 h1.2⟩
  · rintro ⟨h1, h2⟩
    exact ⟨x, List.mem_filter.2 ⟨List.mem_range.2 h1, (isOn_iff hok h1).2 h2⟩, rfl⟩
theorem la_on {B : Bd} (hw : Wf B) (hok : Ok B) : lst (adR B 9) = la B := by
  refine lst_congr fun x hx => ?_
  unfold adR ads
  rw [List.mem_map, List.mem_map]
  constructor
  · rintro ⟨i, h1, h2⟩
    rw [List.mem_filter, List.mem_range] at h1
    exact ⟨sl B i, sl_mem (by rw [hw.nine]; exact h1.1), h2⟩
  · rintro ⟨s, h1, h2⟩
    obtain ⟨i, hi, e⟩ := List.mem_iff_getElem.1 h1
    have hi9 : i < 9 := by rw [hw.nine] at hi; exact hi
    have hs : sl B i = s := by
      have := sl_at hi
      rw [List.getElem?_eq_getElem hi, e] at this
      exact (Option.some.inj this).symm
    refine ⟨i, List.mem_filter.2 ⟨List.mem_range.2 hi9, ?_⟩, by rw [hs]; exact h2⟩
    refine (isOn_iff hok hi9).2 fun q => ?_
    rw [← hs, q] at h2
    have : ad z66 = 0 := ad_one 0
    omega
structure Cr where
  s : List Int
  c : Int
  n : Int
def cmR (B : Bd) (k n e a : Int) : Cr :=
  if chk B = false then ⟨z66, 0, 0⟩ else if k = 1 then ⟨z66, 1, 0⟩ else if k = 2 then (if fr B ≤ 8 then ⟨one 1, 1, (fr B : Int)⟩ else ⟨z66, 9, 0⟩)
  else if 3 ≤ k ∧ k ≤ 9 ∧ slB n = true then ⟨(beh (sl B n.toNat) (la B : Int) k e a).1, (beh (sl B n.toNat) (la B : Int) k e a).2, n⟩ else ⟨z66, 5, 0⟩
def dnB (B : Bd) (r : Cr) : Bd := if r.c = 1 ∧ 0 < r.n then B.set r.n.toNat r.s else B
theorem cm_0 {B : Bd} {k n e a : Int} (c0 : chk B = false) : cmR B k n e a = ⟨z66, 0, 0⟩ := by unfold cmR; rw [if_pos c0]
theorem cm_1 {B : Bd} {n e a : Int} (c0 : ¬ chk B = false) : cmR B 1 n e a = ⟨z66, 1, 0⟩ := by unfold cmR; rw [if_neg c0, if_pos rfl]
theorem cm_2 {B : Bd} {n e a : Int} (c0 : ¬ chk B = false) : cmR B 2 n e a = if fr B ≤ 8 then ⟨one 1, 1, (fr B : Int)⟩ else ⟨z66, 9, 0⟩ := by unfold cmR; rw [if_neg c0, if_neg (by omega), if_pos rfl]
theorem cm_5 {B : Bd} {k n e a : Int} (c0 : ¬ chk B = false) (c1 : ¬ k = 1) (c2 : ¬ k = 2) (c3 : ¬ (3 ≤ k ∧ k ≤ 9 ∧ slB n = true)) : cmR B k n e a = ⟨z66, 5, 0⟩ := by unfold cmR; rw [if_neg c0, if_neg c1, if_neg c2, if_neg c3]
theorem cm_b {B : Bd} {k n e a : Int} (c0 : ¬ chk B = false) (c1 : ¬ k = 1) (c2 : ¬ k = 2) (c3 : 3 ≤ k ∧ k ≤ 9 ∧ slB n = true) : cmR B k n e a = ⟨(beh (sl B n.toNat) (la B : Int) k e a).1, (beh (sl B n.toNat) (la B : Int) k e a).2, n⟩ := by unfold cmR; rw [if_neg c0, if_neg c1, if_neg c2, if_pos c3]
theorem dn_do {B : Bd} (hw : Wf B) {k n e a : Int} : (⟨dnB B (cmR B k n e a), (cmR B k n e a).c, (cmR B k n e a).n⟩ : Ans) = doB B k n e a := by
  by_cases c0 : chk B = false
  · have hd : doB B k n e a = ⟨B, 0, 0⟩ := by unfold doB; rw [if_pos c0]
    rw [cm_0 c0, hd]; rfl
  by_cases c1 : k = 1
  · subst c1
    have hd : doB B 1 n e a = ⟨B, 1, 0⟩ := by unfold doB; rw [if_neg c0, if_pos rfl]
    rw [cm_1 c0, hd]; rfl
  by_cases c2 : k = 2
  · subst c2
    have hd : doB B 2 n e a = enb B := by unfold doB; rw [if_neg c0, if_neg (by omega), if_pos rfl]
    rw [cm_2 c0, hd]
    unfold enb dnB
    have f1 := (fr_le B).1
    by_cases f : fr B ≤ 8
    · rw [if_pos f, if_pos f]
      have e : ((fr B : Nat) : Int).toNat = fr B := by omega
      have hc : (1 : Int) = 1 ∧ (0 : Int) < (fr B : Int) := ⟨rfl, by omega⟩
      show (⟨if (1 : Int) = 1 ∧ (0 : Int) < (fr B : Int) then B.set ((fr B : Int)).toNat (one 1) else B, 1, (fr B : Int)⟩ : Ans) = _
      rw [if_pos hc, e]
    · rw [if_neg f, if_neg f]; rfl
  by_cases c3 : 3 ≤ k ∧ k ≤ 9
  · have hd : doB B k n e a = ats B k n e a := by unfold doB; rw [if_neg c0, if_neg c1, if_neg c2, if_pos c3]
    rw [hd]
    unfold ats
    by_cases q : slB n = false
    · rw [if_pos q, cm_5 c0 c1 c2 (by rw [q]; simp)]; rfl
    · have q' : slB n = true := by simpa using q
      have hn := sl_in q'
      rw [if_neg q, cm_b c0 c1 c2 ⟨c3.1, c3.2, q'⟩]
      unfold dnB
      generalize hb : beh (sl B n.toNat) (la B : Int) k e a = b
      show (⟨if b.2 = 1 ∧ 0 < n then B.set n.toNat b.1 else B, b.2, n⟩ : Ans) = _
      by_cases c : b.2 = 1
      · rw [if_pos ⟨c, by omega⟩]
      · have hno : b.1 = sl B n.toNat := by rw [← hb]; exact beh_no (by rw [hb]; exact c)
        rw [if_neg (fun h => c h.1), hno, set_self hw.nine (by omega)]
  · have hd : doB B k n e a = ⟨B, 5, 0⟩ := by unfold doB; rw [if_neg c0, if_neg c1, if_neg c2, if_neg c3]
    rw [hd, cm_5 c0 c1 c2 (fun h => c3 ⟨h.1, h.2.1⟩)]; rfl
theorem cmR_len {B : Bd} (hw : Wf B) {k n e a : Int} : (cmR B k n e a).s.length = 66 := by
  have hz : z66.length = 66 := by simp [z66]
  unfold cmR
  split
  · exact hz
  · split
    · exact hz
    · split
      · split
        · exact one_len 1
        · exact hz
      · split
        · rename_i q
          have hn := sl_in q.2.2
          exact beh_length (hw.sl (by omega))
        · exact hz
theorem dnB_wf {B : Bd} (hw : Wf B) {k n e a : Int} : Wf (dnB B (cmR B k n e a)) := by
  unfold dnB
  split
  · exact hw.set (cmR_len hw)
  · exact hw
end Go.Proofs.Ythjmcopknkemnaa.slots
