/- BulkBack: the walk. (Written by tools/genbulback.py.) -/
import Derived.Test.YtecknicmonhcaaaBulE
import Derived.Test.YtecknicmonhcaaaBulL
namespace Go.Proofs.Ytecknicmonhcaaa.bulkBack
open Go Go.RowKit Go.PlainAid Go.Proofs.Ytecknicmonhcaaa.lane Go.Proofs.Ytecknicmonhcaaa.pipe Go.Proofs.Ytecknicmonhcaaa.strike Go.Proofs.Ytecknicmonhcaaa.bulk
set_option linter.unusedVariables false
set_option linter.unusedSimpArgs false
set_option maxRecDepth 100000

theorem wr_c0 {x : Wp} (h : wk x = true) : wrC x = 0 := if_pos h
theorem wr_c1 {x : Wp} (h : wk x = false) : wrC x = 1 := if_neg (by rw [h]; simp)
theorem st_c0 {x : Sp} (h : sk x = true) : stC x = 0 := if_pos h
theorem st_c1 {x : Sp} (h : sk x = false) : stC x = 1 := if_neg (by rw [h]; simp)
set_option maxHeartbeats 16000000 in
theorem walk (x : Wp) (y : Sp) (s : ByteArray) (hs : s.size ≤ maxLen) (w : World) (hx : x.cmd.size ≤ maxLen) (hy : True) :
    Calls Try.prog 7 #[ag (wpl x), ag (spl y), .string s] w fun e w' => e = .returned (.bool true) ∧ Below w.heap.size w w' := by
  have HL : Hid (∀ u, Calls Try.prog 22 #[] u fun e w' => e = .returned (.bool true) ∧ Below u.heap.size u w') := fun u => lives_any u
  have H1 : Hid (∀ u, Calls Try.prog 9 #[ag (wpl x)] u fun e w' => e = .returned (.tuple #[.string (wrT x), .int .i64 (wrC x)]) ∧ Below u.heap.size u w') := fun u => writeWrap_any x hx u
  have H2 : Hid (∀ u, Calls Try.prog 13 #[ag (spl y)] u fun e w' => e = .returned (.tuple #[.string (stT y), .int .i64 (stC y)]) ∧ Below u.heap.size u w') := fun u => writeStatus_any y u
  have H3 : Hid (∀ u, Calls Try.prog 11 #[.string s] u fun e w' => e = .returned (.tuple #[ag (wpl (rdW s)), .int .i64 (rdC s)]) ∧ Below u.heap.size u w') := fun u => readWrap_any s hs u
  have H4 : Hid (∀ u, Calls Try.prog 15 #[.string s] u fun e w' => e = .returned (.tuple #[ag (spl (rsW s)), .int .i64 (rsC s)]) ∧ Below u.heap.size u w') := fun u => readStatus_any s hs u
  have H6 : Hid (∀ u, Calls Try.prog 13 #[ag (spl (rsW s))] u fun e w' => e = .returned (.tuple #[.string (stT (rsW s)), .int .i64 (stC (rsW s))]) ∧ Below u.heap.size u w') := fun u => writeStatus_any _ u
  have H5 : Hid (∀ u, Calls Try.prog 9 #[ag (wpl (rdW s))] u fun e w' => e = .returned (.tuple #[.string (wrT (rdW s)), .int .i64 (wrC (rdW s))]) ∧ Below u.heap.size u w') := fun u => writeWrap_any _ (by unfold rdW; split; (show (s.extract _ _).size ≤ _; rw [ByteArray.size_extract]; unfold maxLen; omega); (show 0 ≤ _; exact Nat.zero_le _)) u
  have hM := Mm.nil w
  have HEx := eqs_w x
  have HEy := eqs_s y
  have hss : (s.toList == s.toList) = true := by simp
  have hsn : (s.toList != s.toList) = false := by simp
  cases h1 : wk x
  case false =>
    rw [wr_c1 h1] at H1
    cases h2 : sk y
    case false =>
      rw [st_c1 h2] at H2
      by_cases h3 : rdC s = 0
      · obtain ⟨c1, c2, c3, c4⟩ := rd_is h3
        rw [c1, h3] at H3
        rw [c1, c3, wr_c0 c2] at H5
        clear c1 c2 c3 c4
        generalize rdV s = z at *
        by_cases h4 : rsC s = 0
        · obtain ⟨d1, d2, d3, d4⟩ := rs_is h4
          rw [d1, h4] at H4
          rw [d1, d3, st_c0 d2] at H6
          clear d1 d2 d3 d4
          generalize rsV s = t at *
          clear hs hx hy h1 h2 h3 h4
          generalize wrT x = Tx at *
          generalize stT y = Ty at *
          go_enter Try.func7, Try.ntmps7
          repeat' (first | (go_big_may; first | (refine v_box rfl rfl rfl ?_; intro u zx hN; replace hM := Mm.new (L := []) hM hN; clear hN) | (refine v_box rfl rfl rfl ?_; intro u zy hN; replace hM := hM.new hN; clear hN) | (refine v_load rfl rfl row_wrap rfl hM.at1 (Nat.le_refl _) (cut_all rfl) ?_) | (refine v_load rfl rfl row_wrap rfl hM.at1 (Nat.le_refl _) (cut_all rfl) ?_)) | go_values | go_skip | go_guarded | go_step | go_upon | (simp only [Int.not_lt, Int.not_le] at *; go_simp))
          refine (H1.out _).mono ?_
          rintro e u1 ⟨rfl, hb⟩
          replace hM := hM.call hb
          clear hb
          repeat' (first | (go_big_may; first | (refine v_load rfl rfl row_status rfl hM.at0 (Nat.le_refl _) (cut_all rfl) ?_)) | go_values | go_skip | go_guarded | go_step | go_upon | (simp only [Int.not_lt, Int.not_le] at *; go_simp))
          refine (H2.out _).mono ?_
          rintro e u1 ⟨rfl, hb⟩
          replace hM := hM.call hb
          clear hb
          repeat' (first | go_values | go_skip | go_guarded | go_step | go_upon | (simp only [Int.not_lt, Int.not_le] at *; go_simp))
          refine (H3.out _).mono ?_
          rintro e u1 ⟨rfl, hb⟩
          replace hM := hM.call hb
          clear hb
          repeat' (first | (go_big_may; first | (refine v_alloc rfl zer_wrap rfl ?_; intro u zc hN; replace hM := hM.new hN; clear hN) | (refine v_fill rfl rfl row_wrap rfl rfl hM.at0 (wpl_vs z) rfl ?_; intro u hv hc; replace hM := hM.put0 hc hv; clear hv hc) | (refine v_load rfl rfl row_wrap rfl hM.at0 (Nat.le_refl _) (cut_all rfl) ?_)) | go_values | go_skip | go_guarded | go_step | go_upon | (simp only [Int.not_lt, Int.not_le] at *; go_simp))
          refine (H5.out _).mono ?_
          rintro e u1 ⟨rfl, hb⟩
          replace hM := hM.call hb
          clear hb
          repeat' (first | go_values | go_skip | go_guarded | go_step | go_upon | (simp only [Int.not_lt, Int.not_le] at *; go_simp))
          refine (H4.out _).mono ?_
          rintro e u1 ⟨rfl, hb⟩
          replace hM := hM.call hb
          clear hb
          repeat' (first | (go_big_may; first | (refine v_alloc rfl zer_status rfl ?_; intro u zd hN; replace hM := hM.new hN; clear hN) | (refine v_fill rfl rfl row_status rfl rfl hM.at0 (spl_vs t) rfl ?_; intro u hv hc; replace hM := hM.put0 hc hv; clear hv hc) | (refine v_load rfl rfl row_status rfl hM.at0 (Nat.le_refl _) (cut_all rfl) ?_)) | go_values | go_skip | go_guarded | go_step | go_upon | (simp only [Int.not_lt, Int.not_le] at *; go_simp))
          refine (H6.out _).mono ?_
          rintro e u1 ⟨rfl, hb⟩
          replace hM := hM.call hb
          clear hb
          repeat' (first | go_values | go_skip | go_guarded | go_step | go_upon | (simp only [Int.not_lt, Int.not_le] at *; go_simp))
          refine (HL.out _).mono ?_
          rintro e u1 ⟨rfl, hb⟩
          replace hM := hM.call hb
          clear hb
          repeat' (first | go_values | go_skip | go_guarded | go_step | go_upon | (simp only [Int.not_lt, Int.not_le] at *; go_simp))
          go_ret
          exact ⟨rfl, hM.below⟩
        · have d5 : (rsC s != 0) = true := by simp [h4]
          generalize rsC s = Cs at *
          generalize rsW s = t at *
          clear hs hx hy h1 h2 h3 h4
          generalize wrT x = Tx at *
          generalize stT y = Ty at *
          go_enter Try.func7, Try.ntmps7
          repeat' (first | (go_big_may; first | (refine v_box rfl rfl rfl ?_; intro u zx hN; replace hM := Mm.new (L := []) hM hN; clear hN) | (refine v_box rfl rfl rfl ?_; intro u zy hN; replace hM := hM.new hN; clear hN) | (refine v_load rfl rfl row_wrap rfl hM.at1 (Nat.le_refl _) (cut_all rfl) ?_) | (refine v_load rfl rfl row_wrap rfl hM.at1 (Nat.le_refl _) (cut_all rfl) ?_)) | go_values | go_skip | go_guarded | go_step | go_upon | (simp only [Int.not_lt, Int.not_le] at *; go_simp))
          refine (H1.out _).mono ?_
          rintro e u1 ⟨rfl, hb⟩
          replace hM := hM.call hb
          clear hb
          repeat' (first | (go_big_may; first | (refine v_load rfl rfl row_status rfl hM.at0 (Nat.le_refl _) (cut_all rfl) ?_)) | go_values | go_skip | go_guarded | go_step | go_upon | (simp only [Int.not_lt, Int.not_le] at *; go_simp))
          refine (H2.out _).mono ?_
          rintro e u1 ⟨rfl, hb⟩
          replace hM := hM.call hb
          clear hb
          repeat' (first | go_values | go_skip | go_guarded | go_step | go_upon | (simp only [Int.not_lt, Int.not_le] at *; go_simp))
          refine (H3.out _).mono ?_
          rintro e u1 ⟨rfl, hb⟩
          replace hM := hM.call hb
          clear hb
          repeat' (first | (go_big_may; first | (refine v_alloc rfl zer_wrap rfl ?_; intro u zc hN; replace hM := hM.new hN; clear hN) | (refine v_fill rfl rfl row_wrap rfl rfl hM.at0 (wpl_vs z) rfl ?_; intro u hv hc; replace hM := hM.put0 hc hv; clear hv hc) | (refine v_load rfl rfl row_wrap rfl hM.at0 (Nat.le_refl _) (cut_all rfl) ?_)) | go_values | go_skip | go_guarded | go_step | go_upon | (simp only [Int.not_lt, Int.not_le] at *; go_simp))
          refine (H5.out _).mono ?_
          rintro e u1 ⟨rfl, hb⟩
          replace hM := hM.call hb
          clear hb
          repeat' (first | go_values | go_skip | go_guarded | go_step | go_upon | (simp only [Int.not_lt, Int.not_le] at *; go_simp))
          refine (H4.out _).mono ?_
          rintro e u1 ⟨rfl, hb⟩
          replace hM := hM.call hb
          clear hb
          repeat' (first | (go_big_may; first | (refine v_alloc rfl zer_status rfl ?_; intro u zd hN; replace hM := hM.new hN; clear hN) | (refine v_fill rfl rfl row_status rfl rfl hM.at0 (spl_vs t) rfl ?_; intro u hv hc; replace hM := hM.put0 hc hv; clear hv hc) | (refine v_load rfl rfl row_status rfl hM.at0 (Nat.le_refl _) (cut_all rfl) ?_)) | go_values | go_skip | go_guarded | go_step | go_upon | (simp only [Int.not_lt, Int.not_le] at *; go_simp))
          refine (H6.out _).mono ?_
          rintro e u1 ⟨rfl, hb⟩
          replace hM := hM.call hb
          clear hb
          repeat' (first | go_values | go_skip | go_guarded | go_step | go_upon | (simp only [Int.not_lt, Int.not_le] at *; go_simp))
          refine (HL.out _).mono ?_
          rintro e u1 ⟨rfl, hb⟩
          replace hM := hM.call hb
          clear hb
          repeat' (first | go_values | go_skip | go_guarded | go_step | go_upon | (simp only [Int.not_lt, Int.not_le] at *; go_simp))
          go_ret
          exact ⟨rfl, hM.below⟩
      · have c5 : (rdC s == 0) = false := by simp [h3]
        generalize rdC s = Cz at *
        generalize rdW s = z at *
        by_cases h4 : rsC s = 0
        · obtain ⟨d1, d2, d3, d4⟩ := rs_is h4
          rw [d1, h4] at H4
          rw [d1, d3, st_c0 d2] at H6
          clear d1 d2 d3 d4
          generalize rsV s = t at *
          clear hs hx hy h1 h2 h3 h4
          generalize wrT x = Tx at *
          generalize stT y = Ty at *
          go_enter Try.func7, Try.ntmps7
          repeat' (first | (go_big_may; first | (refine v_box rfl rfl rfl ?_; intro u zx hN; replace hM := Mm.new (L := []) hM hN; clear hN) | (refine v_box rfl rfl rfl ?_; intro u zy hN; replace hM := hM.new hN; clear hN) | (refine v_load rfl rfl row_wrap rfl hM.at1 (Nat.le_refl _) (cut_all rfl) ?_) | (refine v_load rfl rfl row_wrap rfl hM.at1 (Nat.le_refl _) (cut_all rfl) ?_)) | go_values | go_skip | go_guarded | go_step | go_upon | (simp only [Int.not_lt, Int.not_le] at *; go_simp))
          refine (H1.out _).mono ?_
          rintro e u1 ⟨rfl, hb⟩
          replace hM := hM.call hb
          clear hb
          repeat' (first | (go_big_may; first | (refine v_load rfl rfl row_status rfl hM.at0 (Nat.le_refl _) (cut_all rfl) ?_)) | go_values | go_skip | go_guarded | go_step | go_upon | (simp only [Int.not_lt, Int.not_le] at *; go_simp))
          refine (H2.out _).mono ?_
          rintro e u1 ⟨rfl, hb⟩
          replace hM := hM.call hb
          clear hb
          repeat' (first | go_values | go_skip | go_guarded | go_step | go_upon | (simp only [Int.not_lt, Int.not_le] at *; go_simp))
          refine (H3.out _).mono ?_
          rintro e u1 ⟨rfl, hb⟩
          replace hM := hM.call hb
          clear hb
          repeat' (first | (go_big_may; first | (refine v_alloc rfl zer_wrap rfl ?_; intro u zc hN; replace hM := hM.new hN; clear hN) | (refine v_fill rfl rfl row_wrap rfl rfl hM.at0 (wpl_vs z) rfl ?_; intro u hv hc; replace hM := hM.put0 hc hv; clear hv hc) | (refine v_load rfl rfl row_wrap rfl hM.at0 (Nat.le_refl _) (cut_all rfl) ?_)) | go_values | go_skip | go_guarded | go_step | go_upon | (simp only [Int.not_lt, Int.not_le] at *; go_simp))
          refine (H4.out _).mono ?_
          rintro e u1 ⟨rfl, hb⟩
          replace hM := hM.call hb
          clear hb
          repeat' (first | (go_big_may; first | (refine v_alloc rfl zer_status rfl ?_; intro u zd hN; replace hM := hM.new hN; clear hN) | (refine v_fill rfl rfl row_status rfl rfl hM.at0 (spl_vs t) rfl ?_; intro u hv hc; replace hM := hM.put0 hc hv; clear hv hc) | (refine v_load rfl rfl row_status rfl hM.at0 (Nat.le_refl _) (cut_all rfl) ?_)) | go_values | go_skip | go_guarded | go_step | go_upon | (simp only [Int.not_lt, Int.not_le] at *; go_simp))
          refine (H6.out _).mono ?_
          rintro e u1 ⟨rfl, hb⟩
          replace hM := hM.call hb
          clear hb
          repeat' (first | go_values | go_skip | go_guarded | go_step | go_upon | (simp only [Int.not_lt, Int.not_le] at *; go_simp))
          refine (HL.out _).mono ?_
          rintro e u1 ⟨rfl, hb⟩
          replace hM := hM.call hb
          clear hb
          repeat' (first | go_values | go_skip | go_guarded | go_step | go_upon | (simp only [Int.not_lt, Int.not_le] at *; go_simp))
          go_ret
          exact ⟨rfl, hM.below⟩
        · have d5 : (rsC s != 0) = true := by simp [h4]
          generalize rsC s = Cs at *
          generalize rsW s = t at *
          clear hs hx hy h1 h2 h3 h4
          generalize wrT x = Tx at *
          generalize stT y = Ty at *
          go_enter Try.func7, Try.ntmps7
          repeat' (first | (go_big_may; first | (refine v_box rfl rfl rfl ?_; intro u zx hN; replace hM := Mm.new (L := []) hM hN; clear hN) | (refine v_box rfl rfl rfl ?_; intro u zy hN; replace hM := hM.new hN; clear hN) | (refine v_load rfl rfl row_wrap rfl hM.at1 (Nat.le_refl _) (cut_all rfl) ?_) | (refine v_load rfl rfl row_wrap rfl hM.at1 (Nat.le_refl _) (cut_all rfl) ?_)) | go_values | go_skip | go_guarded | go_step | go_upon | (simp only [Int.not_lt, Int.not_le] at *; go_simp))
          refine (H1.out _).mono ?_
          rintro e u1 ⟨rfl, hb⟩
          replace hM := hM.call hb
          clear hb
          repeat' (first | (go_big_may; first | (refine v_load rfl rfl row_status rfl hM.at0 (Nat.le_refl _) (cut_all rfl) ?_)) | go_values | go_skip | go_guarded | go_step | go_upon | (simp only [Int.not_lt, Int.not_le] at *; go_simp))
          refine (H2.out _).mono ?_
          rintro e u1 ⟨rfl, hb⟩
          replace hM := hM.call hb
          clear hb
          repeat' (first | go_values | go_skip | go_guarded | go_step | go_upon | (simp only [Int.not_lt, Int.not_le] at *; go_simp))
          refine (H3.out _).mono ?_
          rintro e u1 ⟨rfl, hb⟩
          replace hM := hM.call hb
          clear hb
          repeat' (first | (go_big_may; first | (refine v_alloc rfl zer_wrap rfl ?_; intro u zc hN; replace hM := hM.new hN; clear hN) | (refine v_fill rfl rfl row_wrap rfl rfl hM.at0 (wpl_vs z) rfl ?_; intro u hv hc; replace hM := hM.put0 hc hv; clear hv hc) | (refine v_load rfl rfl row_wrap rfl hM.at0 (Nat.le_refl _) (cut_all rfl) ?_)) | go_values | go_skip | go_guarded | go_step | go_upon | (simp only [Int.not_lt, Int.not_le] at *; go_simp))
          refine (H4.out _).mono ?_
          rintro e u1 ⟨rfl, hb⟩
          replace hM := hM.call hb
          clear hb
          repeat' (first | (go_big_may; first | (refine v_alloc rfl zer_status rfl ?_; intro u zd hN; replace hM := hM.new hN; clear hN) | (refine v_fill rfl rfl row_status rfl rfl hM.at0 (spl_vs t) rfl ?_; intro u hv hc; replace hM := hM.put0 hc hv; clear hv hc) | (refine v_load rfl rfl row_status rfl hM.at0 (Nat.le_refl _) (cut_all rfl) ?_)) | go_values | go_skip | go_guarded | go_step | go_upon | (simp only [Int.not_lt, Int.not_le] at *; go_simp))
          refine (H6.out _).mono ?_
          rintro e u1 ⟨rfl, hb⟩
          replace hM := hM.call hb
          clear hb
          repeat' (first | go_values | go_skip | go_guarded | go_step | go_upon | (simp only [Int.not_lt, Int.not_le] at *; go_simp))
          refine (HL.out _).mono ?_
          rintro e u1 ⟨rfl, hb⟩
          replace hM := hM.call hb
          clear hb
          repeat' (first | go_values | go_skip | go_guarded | go_step | go_upon | (simp only [Int.not_lt, Int.not_le] at *; go_simp))
          go_ret
          exact ⟨rfl, hM.below⟩
    case true =>
      have B : Hid (∀ u, Calls Try.prog 15 #[.string (stT y)] u fun e w' => e = .returned (.tuple #[ag (spl y), .int .i64 0]) ∧ Below u.heap.size u w') := fun u => by
        have := readStatus_any (stT y) (by rw [st_size h2]; decide) u
        rw [(rs_ok h2).1, (rs_ok h2).2] at this
        exact this
      have b0 := st_size h2
      rw [st_c0 h2] at H2
      by_cases h3 : rdC s = 0
      · obtain ⟨c1, c2, c3, c4⟩ := rd_is h3
        rw [c1, h3] at H3
        rw [c1, c3, wr_c0 c2] at H5
        clear c1 c2 c3 c4
        generalize rdV s = z at *
        by_cases h4 : rsC s = 0
        · obtain ⟨d1, d2, d3, d4⟩ := rs_is h4
          rw [d1, h4] at H4
          rw [d1, d3, st_c0 d2] at H6
          clear d1 d2 d3 d4
          generalize rsV s = t at *
          clear hs hx hy h1 h2 h3 h4
          generalize wrT x = Tx at *
          generalize stT y = Ty at *
          go_enter Try.func7, Try.ntmps7
          repeat' (first | (go_big_may; first | (refine v_box rfl rfl rfl ?_; intro u zx hN; replace hM := Mm.new (L := []) hM hN; clear hN) | (refine v_box rfl rfl rfl ?_; intro u zy hN; replace hM := hM.new hN; clear hN) | (refine v_load rfl rfl row_wrap rfl hM.at1 (Nat.le_refl _) (cut_all rfl) ?_) | (refine v_load rfl rfl row_wrap rfl hM.at1 (Nat.le_refl _) (cut_all rfl) ?_)) | go_values | go_skip | go_guarded | go_step | go_upon | (simp only [Int.not_lt, Int.not_le] at *; go_simp))
          refine (H1.out _).mono ?_
          rintro e u1 ⟨rfl, hb⟩
          replace hM := hM.call hb
          clear hb
          repeat' (first | (go_big_may; first | (refine v_load rfl rfl row_status rfl hM.at0 (Nat.le_refl _) (cut_all rfl) ?_)) | go_values | go_skip | go_guarded | go_step | go_upon | (simp only [Int.not_lt, Int.not_le] at *; go_simp))
          refine (H2.out _).mono ?_
          rintro e u1 ⟨rfl, hb⟩
          replace hM := hM.call hb
          clear hb
          repeat' (first | go_values | go_skip | go_guarded | go_step | go_upon | (simp only [Int.not_lt, Int.not_le] at *; go_simp))
          refine (B.out _).mono ?_
          rintro e u1 ⟨rfl, hb⟩
          replace hM := hM.call hb
          clear hb
          repeat' (first | (go_big_may; first | (refine v_alloc rfl zer_status rfl ?_; intro u zb hN; replace hM := hM.new hN; clear hN) | (refine v_fill rfl rfl row_status rfl rfl hM.at0 (spl_vs y) rfl ?_; intro u hv hc; replace hM := hM.put0 hc hv; clear hv hc) | (refine v_load rfl rfl row_status rfl hM.at0 (Nat.le_refl _) (cut_all rfl) ?_) | (refine v_load rfl rfl row_status rfl hM.at1 (Nat.le_refl _) (cut_all rfl) ?_) | (refine v_neqst rfl rfl HEy rfl rfl ?_)) | go_values | go_skip | go_guarded | go_step | go_upon | (simp only [Int.not_lt, Int.not_le] at *; go_simp))
          refine (H3.out _).mono ?_
          rintro e u1 ⟨rfl, hb⟩
          replace hM := hM.call hb
          clear hb
          repeat' (first | (go_big_may; first | (refine v_alloc rfl zer_wrap rfl ?_; intro u zc hN; replace hM := hM.new hN; clear hN) | (refine v_fill rfl rfl row_wrap rfl rfl hM.at0 (wpl_vs z) rfl ?_; intro u hv hc; replace hM := hM.put0 hc hv; clear hv hc) | (refine v_load rfl rfl row_wrap rfl hM.at0 (Nat.le_refl _) (cut_all rfl) ?_)) | go_values | go_skip | go_guarded | go_step | go_upon | (simp only [Int.not_lt, Int.not_le] at *; go_simp))
          refine (H5.out _).mono ?_
          rintro e u1 ⟨rfl, hb⟩
          replace hM := hM.call hb
          clear hb
          repeat' (first | go_values | go_skip | go_guarded | go_step | go_upon | (simp only [Int.not_lt, Int.not_le] at *; go_simp))
          refine (H4.out _).mono ?_
          rintro e u1 ⟨rfl, hb⟩
          replace hM := hM.call hb
          clear hb
          repeat' (first | (go_big_may; first | (refine v_alloc rfl zer_status rfl ?_; intro u zd hN; replace hM := hM.new hN; clear hN) | (refine v_fill rfl rfl row_status rfl rfl hM.at0 (spl_vs t) rfl ?_; intro u hv hc; replace hM := hM.put0 hc hv; clear hv hc) | (refine v_load rfl rfl row_status rfl hM.at0 (Nat.le_refl _) (cut_all rfl) ?_)) | go_values | go_skip | go_guarded | go_step | go_upon | (simp only [Int.not_lt, Int.not_le] at *; go_simp))
          refine (H6.out _).mono ?_
          rintro e u1 ⟨rfl, hb⟩
          replace hM := hM.call hb
          clear hb
          repeat' (first | go_values | go_skip | go_guarded | go_step | go_upon | (simp only [Int.not_lt, Int.not_le] at *; go_simp))
          refine (HL.out _).mono ?_
          rintro e u1 ⟨rfl, hb⟩
          replace hM := hM.call hb
          clear hb
          repeat' (first | go_values | go_skip | go_guarded | go_step | go_upon | (simp only [Int.not_lt, Int.not_le] at *; go_simp))
          go_ret
          exact ⟨rfl, hM.below⟩
        · have d5 : (rsC s != 0) = true := by simp [h4]
          generalize rsC s = Cs at *
          generalize rsW s = t at *
          clear hs hx hy h1 h2 h3 h4
          generalize wrT x = Tx at *
          generalize stT y = Ty at *
          go_enter Try.func7, Try.ntmps7
          repeat' (first | (go_big_may; first | (refine v_box rfl rfl rfl ?_; intro u zx hN; replace hM := Mm.new (L := []) hM hN; clear hN) | (refine v_box rfl rfl rfl ?_; intro u zy hN; replace hM := hM.new hN; clear hN) | (refine v_load rfl rfl row_wrap rfl hM.at1 (Nat.le_refl _) (cut_all rfl) ?_) | (refine v_load rfl rfl row_wrap rfl hM.at1 (Nat.le_refl _) (cut_all rfl) ?_)) | go_values | go_skip | go_guarded | go_step | go_upon | (simp only [Int.not_lt, Int.not_le] at *; go_simp))
          refine (H1.out _).mono ?_
          rintro e u1 ⟨rfl, hb⟩
          replace hM := hM.call hb
          clear hb
          repeat' (first | (go_big_may; first | (refine v_load rfl rfl row_status rfl hM.at0 (Nat.le_refl _) (cut_all rfl) ?_)) | go_values | go_skip | go_guarded | go_step | go_upon | (simp only [Int.not_lt, Int.not_le] at *; go_simp))
          refine (H2.out _).mono ?_
          rintro e u1 ⟨rfl, hb⟩
          replace hM := hM.call hb
          clear hb
          repeat' (first | go_values | go_skip | go_guarded | go_step | go_upon | (simp only [Int.not_lt, Int.not_le] at *; go_simp))
          refine (B.out _).mono ?_
          rintro e u1 ⟨rfl, hb⟩
          replace hM := hM.call hb
          clear hb
          repeat' (first | (go_big_may; first | (refine v_alloc rfl zer_status rfl ?_; intro u zb hN; replace hM := hM.new hN; clear hN) | (refine v_fill rfl rfl row_status rfl rfl hM.at0 (spl_vs y) rfl ?_; intro u hv hc; replace hM := hM.put0 hc hv; clear hv hc) | (refine v_load rfl rfl row_status rfl hM.at0 (Nat.le_refl _) (cut_all rfl) ?_) | (refine v_load rfl rfl row_status rfl hM.at1 (Nat.le_refl _) (cut_all rfl) ?_) | (refine v_neqst rfl rfl HEy rfl rfl ?_)) | go_values | go_skip | go_guarded | go_step | go_upon | (simp only [Int.not_lt, Int.not_le] at *; go_simp))
          refine (H3.out _).mono ?_
          rintro e u1 ⟨rfl, hb⟩
          replace hM := hM.call hb
          clear hb
          repeat' (first | (go_big_may; first | (refine v_alloc rfl zer_wrap rfl ?_; intro u zc hN; replace hM := hM.new hN; clear hN) | (refine v_fill rfl rfl row_wrap rfl rfl hM.at0 (wpl_vs z) rfl ?_; intro u hv hc; replace hM := hM.put0 hc hv; clear hv hc) | (refine v_load rfl rfl row_wrap rfl hM.at0 (Nat.le_refl _) (cut_all rfl) ?_)) | go_values | go_skip | go_guarded | go_step | go_upon | (simp only [Int.not_lt, Int.not_le] at *; go_simp))
          refine (H5.out _).mono ?_
          rintro e u1 ⟨rfl, hb⟩
          replace hM := hM.call hb
          clear hb
          repeat' (first | go_values | go_skip | go_guarded | go_step | go_upon | (simp only [Int.not_lt, Int.not_le] at *; go_simp))
          refine (H4.out _).mono ?_
          rintro e u1 ⟨rfl, hb⟩
          replace hM := hM.call hb
          clear hb
          repeat' (first | (go_big_may; first | (refine v_alloc rfl zer_status rfl ?_; intro u zd hN; replace hM := hM.new hN; clear hN) | (refine v_fill rfl rfl row_status rfl rfl hM.at0 (spl_vs t) rfl ?_; intro u hv hc; replace hM := hM.put0 hc hv; clear hv hc) | (refine v_load rfl rfl row_status rfl hM.at0 (Nat.le_refl _) (cut_all rfl) ?_)) | go_values | go_skip | go_guarded | go_step | go_upon | (simp only [Int.not_lt, Int.not_le] at *; go_simp))
          refine (H6.out _).mono ?_
          rintro e u1 ⟨rfl, hb⟩
          replace hM := hM.call hb
          clear hb
          repeat' (first | go_values | go_skip | go_guarded | go_step | go_upon | (simp only [Int.not_lt, Int.not_le] at *; go_simp))
          refine (HL.out _).mono ?_
          rintro e u1 ⟨rfl, hb⟩
          replace hM := hM.call hb
          clear hb
          repeat' (first | go_values | go_skip | go_guarded | go_step | go_upon | (simp only [Int.not_lt, Int.not_le] at *; go_simp))
          go_ret
          exact ⟨rfl, hM.below⟩
      · have c5 : (rdC s == 0) = false := by simp [h3]
        generalize rdC s = Cz at *
        generalize rdW s = z at *
        by_cases h4 : rsC s = 0
        · obtain ⟨d1, d2, d3, d4⟩ := rs_is h4
          rw [d1, h4] at H4
          rw [d1, d3, st_c0 d2] at H6
          clear d1 d2 d3 d4
          generalize rsV s = t at *
          clear hs hx hy h1 h2 h3 h4
          generalize wrT x = Tx at *
          generalize stT y = Ty at *
          go_enter Try.func7, Try.ntmps7
          repeat' (first | (go_big_may; first | (refine v_box rfl rfl rfl ?_; intro u zx hN; replace hM := Mm.new (L := []) hM hN; clear hN) | (refine v_box rfl rfl rfl ?_; intro u zy hN; replace hM := hM.new hN; clear hN) | (refine v_load rfl rfl row_wrap rfl hM.at1 (Nat.le_refl _) (cut_all rfl) ?_) | (refine v_load rfl rfl row_wrap rfl hM.at1 (Nat.le_refl _) (cut_all rfl) ?_)) | go_values | go_skip | go_guarded | go_step | go_upon | (simp only [Int.not_lt, Int.not_le] at *; go_simp))
          refine (H1.out _).mono ?_
          rintro e u1 ⟨rfl, hb⟩
          replace hM := hM.call hb
          clear hb
          repeat' (first | (go_big_may; first | (refine v_load rfl rfl row_status rfl hM.at0 (Nat.le_refl _) (cut_all rfl) ?_)) | go_values | go_skip | go_guarded | go_step | go_upon | (simp only [Int.not_lt, Int.not_le] at *; go_simp))
          refine (H2.out _).mono ?_
          rintro e u1 ⟨rfl, hb⟩
          replace hM := hM.call hb
          clear hb
          repeat' (first | go_values | go_skip | go_guarded | go_step | go_upon | (simp only [Int.not_lt, Int.not_le] at *; go_simp))
          refine (B.out _).mono ?_
          rintro e u1 ⟨rfl, hb⟩
          replace hM := hM.call hb
          clear hb
          repeat' (first | (go_big_may; first | (refine v_alloc rfl zer_status rfl ?_; intro u zb hN; replace hM := hM.new hN; clear hN) | (refine v_fill rfl rfl row_status rfl rfl hM.at0 (spl_vs y) rfl ?_; intro u hv hc; replace hM := hM.put0 hc hv; clear hv hc) | (refine v_load rfl rfl row_status rfl hM.at0 (Nat.le_refl _) (cut_all rfl) ?_) | (refine v_load rfl rfl row_status rfl hM.at1 (Nat.le_refl _) (cut_all rfl) ?_) | (refine v_neqst rfl rfl HEy rfl rfl ?_)) | go_values | go_skip | go_guarded | go_step | go_upon | (simp only [Int.not_lt, Int.not_le] at *; go_simp))
          refine (H3.out _).mono ?_
          rintro e u1 ⟨rfl, hb⟩
          replace hM := hM.call hb
          clear hb
          repeat' (first | (go_big_may; first | (refine v_alloc rfl zer_wrap rfl ?_; intro u zc hN; replace hM := hM.new hN; clear hN) | (refine v_fill rfl rfl row_wrap rfl rfl hM.at0 (wpl_vs z) rfl ?_; intro u hv hc; replace hM := hM.put0 hc hv; clear hv hc) | (refine v_load rfl rfl row_wrap rfl hM.at0 (Nat.le_refl _) (cut_all rfl) ?_)) | go_values | go_skip | go_guarded | go_step | go_upon | (simp only [Int.not_lt, Int.not_le] at *; go_simp))
          refine (H4.out _).mono ?_
          rintro e u1 ⟨rfl, hb⟩
          replace hM := hM.call hb
          clear hb
          repeat' (first | (go_big_may; first | (refine v_alloc rfl zer_status rfl ?_; intro u zd hN; replace hM := hM.new hN; clear hN) | (refine v_fill rfl rfl row_status rfl rfl hM.at0 (spl_vs t) rfl ?_; intro u hv hc; replace hM := hM.put0 hc hv; clear hv hc) | (refine v_load rfl rfl row_status rfl hM.at0 (Nat.le_refl _) (cut_all rfl) ?_)) | go_values | go_skip | go_guarded | go_step | go_upon | (simp only [Int.not_lt, Int.not_le] at *; go_simp))
          refine (H6.out _).mono ?_
          rintro e u1 ⟨rfl, hb⟩
          replace hM := hM.call hb
          clear hb
          repeat' (first | go_values | go_skip | go_guarded | go_step | go_upon | (simp only [Int.not_lt, Int.not_le] at *; go_simp))
          refine (HL.out _).mono ?_
          rintro e u1 ⟨rfl, hb⟩
          replace hM := hM.call hb
          clear hb
          repeat' (first | go_values | go_skip | go_guarded | go_step | go_upon | (simp only [Int.not_lt, Int.not_le] at *; go_simp))
          go_ret
          exact ⟨rfl, hM.below⟩
        · have d5 : (rsC s != 0) = true := by simp [h4]
          generalize rsC s = Cs at *
          generalize rsW s = t at *
          clear hs hx hy h1 h2 h3 h4
          generalize wrT x = Tx at *
          generalize stT y = Ty at *
          go_enter Try.func7, Try.ntmps7
          repeat' (first | (go_big_may; first | (refine v_box rfl rfl rfl ?_; intro u zx hN; replace hM := Mm.new (L := []) hM hN; clear hN) | (refine v_box rfl rfl rfl ?_; intro u zy hN; replace hM := hM.new hN; clear hN) | (refine v_load rfl rfl row_wrap rfl hM.at1 (Nat.le_refl _) (cut_all rfl) ?_) | (refine v_load rfl rfl row_wrap rfl hM.at1 (Nat.le_refl _) (cut_all rfl) ?_)) | go_values | go_skip | go_guarded | go_step | go_upon | (simp only [Int.not_lt, Int.not_le] at *; go_simp))
          refine (H1.out _).mono ?_
          rintro e u1 ⟨rfl, hb⟩
          replace hM := hM.call hb
          clear hb
          repeat' (first | (go_big_may; first | (refine v_load rfl rfl row_status rfl hM.at0 (Nat.le_refl _) (cut_all rfl) ?_)) | go_values | go_skip | go_guarded | go_step | go_upon | (simp only [Int.not_lt, Int.not_le] at *; go_simp))
          refine (H2.out _).mono ?_
          rintro e u1 ⟨rfl, hb⟩
          replace hM := hM.call hb
          clear hb
          repeat' (first | go_values | go_skip | go_guarded | go_step | go_upon | (simp only [Int.not_lt, Int.not_le] at *; go_simp))
          refine (B.out _).mono ?_
          rintro e u1 ⟨rfl, hb⟩
          replace hM := hM.call hb
          clear hb
          repeat' (first | (go_big_may; first | (refine v_alloc rfl zer_status rfl ?_; intro u zb hN; replace hM := hM.new hN; clear hN) | (refine v_fill rfl rfl row_status rfl rfl hM.at0 (spl_vs y) rfl ?_; intro u hv hc; replace hM := hM.put0 hc hv; clear hv hc) | (refine v_load rfl rfl row_status rfl hM.at0 (Nat.le_refl _) (cut_all rfl) ?_) | (refine v_load rfl rfl row_status rfl hM.at1 (Nat.le_refl _) (cut_all rfl) ?_) | (refine v_neqst rfl rfl HEy rfl rfl ?_)) | go_values | go_skip | go_guarded | go_step | go_upon | (simp only [Int.not_lt, Int.not_le] at *; go_simp))
          refine (H3.out _).mono ?_
          rintro e u1 ⟨rfl, hb⟩
          replace hM := hM.call hb
          clear hb
          repeat' (first | (go_big_may; first | (refine v_alloc rfl zer_wrap rfl ?_; intro u zc hN; replace hM := hM.new hN; clear hN) | (refine v_fill rfl rfl row_wrap rfl rfl hM.at0 (wpl_vs z) rfl ?_; intro u hv hc; replace hM := hM.put0 hc hv; clear hv hc) | (refine v_load rfl rfl row_wrap rfl hM.at0 (Nat.le_refl _) (cut_all rfl) ?_)) | go_values | go_skip | go_guarded | go_step | go_upon | (simp only [Int.not_lt, Int.not_le] at *; go_simp))
          refine (H4.out _).mono ?_
          rintro e u1 ⟨rfl, hb⟩
          replace hM := hM.call hb
          clear hb
          repeat' (first | (go_big_may; first | (refine v_alloc rfl zer_status rfl ?_; intro u zd hN; replace hM := hM.new hN; clear hN) | (refine v_fill rfl rfl row_status rfl rfl hM.at0 (spl_vs t) rfl ?_; intro u hv hc; replace hM := hM.put0 hc hv; clear hv hc) | (refine v_load rfl rfl row_status rfl hM.at0 (Nat.le_refl _) (cut_all rfl) ?_)) | go_values | go_skip | go_guarded | go_step | go_upon | (simp only [Int.not_lt, Int.not_le] at *; go_simp))
          refine (H6.out _).mono ?_
          rintro e u1 ⟨rfl, hb⟩
          replace hM := hM.call hb
          clear hb
          repeat' (first | go_values | go_skip | go_guarded | go_step | go_upon | (simp only [Int.not_lt, Int.not_le] at *; go_simp))
          refine (HL.out _).mono ?_
          rintro e u1 ⟨rfl, hb⟩
          replace hM := hM.call hb
          clear hb
          repeat' (first | go_values | go_skip | go_guarded | go_step | go_upon | (simp only [Int.not_lt, Int.not_le] at *; go_simp))
          go_ret
          exact ⟨rfl, hM.below⟩
  case true =>
    have A : Hid (∀ u, Calls Try.prog 11 #[.string (wrT x)] u fun e w' => e = .returned (.tuple #[ag (wpl x), .int .i64 0]) ∧ Below u.heap.size u w') := fun u => by
      have := readWrap_any (wrT x) (by rw [wr_size h1]; decide) u
      rw [(rd_ok h1).1, (rd_ok h1).2] at this
      exact this
    have a0 := wr_size h1
    rw [wr_c0 h1] at H1
    cases h2 : sk y
    case false =>
      rw [st_c1 h2] at H2
      by_cases h3 : rdC s = 0
      · obtain ⟨c1, c2, c3, c4⟩ := rd_is h3
        rw [c1, h3] at H3
        rw [c1, c3, wr_c0 c2] at H5
        clear c1 c2 c3 c4
        generalize rdV s = z at *
        by_cases h4 : rsC s = 0
        · obtain ⟨d1, d2, d3, d4⟩ := rs_is h4
          rw [d1, h4] at H4
          rw [d1, d3, st_c0 d2] at H6
          clear d1 d2 d3 d4
          generalize rsV s = t at *
          clear hs hx hy h1 h2 h3 h4
          generalize wrT x = Tx at *
          generalize stT y = Ty at *
          go_enter Try.func7, Try.ntmps7
          repeat' (first | (go_big_may; first | (refine v_box rfl rfl rfl ?_; intro u zx hN; replace hM := Mm.new (L := []) hM hN; clear hN) | (refine v_box rfl rfl rfl ?_; intro u zy hN; replace hM := hM.new hN; clear hN) | (refine v_load rfl rfl row_wrap rfl hM.at1 (Nat.le_refl _) (cut_all rfl) ?_) | (refine v_load rfl rfl row_wrap rfl hM.at1 (Nat.le_refl _) (cut_all rfl) ?_)) | go_values | go_skip | go_guarded | go_step | go_upon | (simp only [Int.not_lt, Int.not_le] at *; go_simp))
          refine (H1.out _).mono ?_
          rintro e u1 ⟨rfl, hb⟩
          replace hM := hM.call hb
          clear hb
          repeat' (first | go_values | go_skip | go_guarded | go_step | go_upon | (simp only [Int.not_lt, Int.not_le] at *; go_simp))
          refine (A.out _).mono ?_
          rintro e u1 ⟨rfl, hb⟩
          replace hM := hM.call hb
          clear hb
          repeat' (first | (go_big_may; first | (refine v_alloc rfl zer_wrap rfl ?_; intro u za hN; replace hM := hM.new hN; clear hN) | (refine v_fill rfl rfl row_wrap rfl rfl hM.at0 (wpl_vs x) rfl ?_; intro u hv hc; replace hM := hM.put0 hc hv; clear hv hc) | (refine v_load rfl rfl row_wrap rfl hM.at0 (Nat.le_refl _) (cut_all rfl) ?_) | (refine v_load rfl rfl row_wrap rfl hM.at2 (Nat.le_refl _) (cut_all rfl) ?_) | (refine v_neqst rfl rfl HEx rfl rfl ?_) | (refine v_load rfl rfl row_status rfl hM.at1 (Nat.le_refl _) (cut_all rfl) ?_)) | go_values | go_skip | go_guarded | go_step | go_upon | (simp only [Int.not_lt, Int.not_le] at *; go_simp))
          refine (H2.out _).mono ?_
          rintro e u1 ⟨rfl, hb⟩
          replace hM := hM.call hb
          clear hb
          repeat' (first | go_values | go_skip | go_guarded | go_step | go_upon | (simp only [Int.not_lt, Int.not_le] at *; go_simp))
          refine (H3.out _).mono ?_
          rintro e u1 ⟨rfl, hb⟩
          replace hM := hM.call hb
          clear hb
          repeat' (first | (go_big_may; first | (refine v_alloc rfl zer_wrap rfl ?_; intro u zc hN; replace hM := hM.new hN; clear hN) | (refine v_fill rfl rfl row_wrap rfl rfl hM.at0 (wpl_vs z) rfl ?_; intro u hv hc; replace hM := hM.put0 hc hv; clear hv hc) | (refine v_load rfl rfl row_wrap rfl hM.at0 (Nat.le_refl _) (cut_all rfl) ?_)) | go_values | go_skip | go_guarded | go_step | go_upon | (simp only [Int.not_lt, Int.not_le] at *; go_simp))
          refine (H5.out _).mono ?_
          rintro e u1 ⟨rfl, hb⟩
          replace hM := hM.call hb
          clear hb
          repeat' (first | go_values | go_skip | go_guarded | go_step | go_upon | (simp only [Int.not_lt, Int.not_le] at *; go_simp))
          refine (H4.out _).mono ?_
          rintro e u1 ⟨rfl, hb⟩
          replace hM := hM.call hb
          clear hb
          repeat' (first | (go_big_may; first | (refine v_alloc rfl zer_status rfl ?_; intro u zd hN; replace hM := hM.new hN; clear hN) | (refine v_fill rfl rfl row_status rfl rfl hM.at0 (spl_vs t) rfl ?_; intro u hv hc; replace hM := hM.put0 hc hv; clear hv hc) | (refine v_load rfl rfl row_status rfl hM.at0 (Nat.le_refl _) (cut_all rfl) ?_)) | go_values | go_skip | go_guarded | go_step | go_upon | (simp only [Int.not_lt, Int.not_le] at *; go_simp))
          refine (H6.out _).mono ?_
          rintro e u1 ⟨rfl, hb⟩
          replace hM := hM.call hb
          clear hb
          repeat' (first | go_values | go_skip | go_guarded | go_step | go_upon | (simp only [Int.not_lt, Int.not_le] at *; go_simp))
          refine (HL.out _).mono ?_
          rintro e u1 ⟨rfl, hb⟩
          replace hM := hM.call hb
          clear hb
          repeat' (first | go_values | go_skip | go_guarded | go_step | go_upon | (simp only [Int.not_lt, Int.not_le] at *; go_simp))
          go_ret
          exact ⟨rfl, hM.below⟩
        · have d5 : (rsC s != 0) = true := by simp [h4]
          generalize rsC s = Cs at *
          generalize rsW s = t at *
          clear hs hx hy h1 h2 h3 h4
          generalize wrT x = Tx at *
          generalize stT y = Ty at *
          go_enter Try.func7, Try.ntmps7
          repeat' (first | (go_big_may; first | (refine v_box rfl rfl rfl ?_; intro u zx hN; replace hM := Mm.new (L := []) hM hN; clear hN) | (refine v_box rfl rfl rfl ?_; intro u zy hN; replace hM := hM.new hN; clear hN) | (refine v_load rfl rfl row_wrap rfl hM.at1 (Nat.le_refl _) (cut_all rfl) ?_) | (refine v_load rfl rfl row_wrap rfl hM.at1 (Nat.le_refl _) (cut_all rfl) ?_)) | go_values | go_skip | go_guarded | go_step | go_upon | (simp only [Int.not_lt, Int.not_le] at *; go_simp))
          refine (H1.out _).mono ?_
          rintro e u1 ⟨rfl, hb⟩
          replace hM := hM.call hb
          clear hb
          repeat' (first | go_values | go_skip | go_guarded | go_step | go_upon | (simp only [Int.not_lt, Int.not_le] at *; go_simp))
          refine (A.out _).mono ?_
          rintro e u1 ⟨rfl, hb⟩
          replace hM := hM.call hb
          clear hb
          repeat' (first | (go_big_may; first | (refine v_alloc rfl zer_wrap rfl ?_; intro u za hN; replace hM := hM.new hN; clear hN) | (refine v_fill rfl rfl row_wrap rfl rfl hM.at0 (wpl_vs x) rfl ?_; intro u hv hc; replace hM := hM.put0 hc hv; clear hv hc) | (refine v_load rfl rfl row_wrap rfl hM.at0 (Nat.le_refl _) (cut_all rfl) ?_) | (refine v_load rfl rfl row_wrap rfl hM.at2 (Nat.le_refl _) (cut_all rfl) ?_) | (refine v_neqst rfl rfl HEx rfl rfl ?_) | (refine v_load rfl rfl row_status rfl hM.at1 (Nat.le_refl _) (cut_all rfl) ?_)) | go_values | go_skip | go_guarded | go_step | go_upon | (simp only [Int.not_lt, Int.not_le] at *; go_simp))
          refine (H2.out _).mono ?_
          rintro e u1 ⟨rfl, hb⟩
          replace hM := hM.call hb
          clear hb
          repeat' (first | go_values | go_skip | go_guarded | go_step | go_upon | (simp only [Int.not_lt, Int.not_le] at *; go_simp))
          refine (H3.out _).mono ?_
          rintro e u1 ⟨rfl, hb⟩
          replace hM := hM.call hb
          clear hb
          repeat' (first | (go_big_may; first | (refine v_alloc rfl zer_wrap rfl ?_; intro u zc hN; replace hM := hM.new hN; clear hN) | (refine v_fill rfl rfl row_wrap rfl rfl hM.at0 (wpl_vs z) rfl ?_; intro u hv hc; replace hM := hM.put0 hc hv; clear hv hc) | (refine v_load rfl rfl row_wrap rfl hM.at0 (Nat.le_refl _) (cut_all rfl) ?_)) | go_values | go_skip | go_guarded | go_step | go_upon | (simp only [Int.not_lt, Int.not_le] at *; go_simp))
          refine (H5.out _).mono ?_
          rintro e u1 ⟨rfl, hb⟩
          replace hM := hM.call hb
          clear hb
          repeat' (first | go_values | go_skip | go_guarded | go_step | go_upon | (simp only [Int.not_lt, Int.not_le] at *; go_simp))
          refine (H4.out _).mono ?_
          rintro e u1 ⟨rfl, hb⟩
          replace hM := hM.call hb
          clear hb
          repeat' (first | (go_big_may; first | (refine v_alloc rfl zer_status rfl ?_; intro u zd hN; replace hM := hM.new hN; clear hN) | (refine v_fill rfl rfl row_status rfl rfl hM.at0 (spl_vs t) rfl ?_; intro u hv hc; replace hM := hM.put0 hc hv; clear hv hc) | (refine v_load rfl rfl row_status rfl hM.at0 (Nat.le_refl _) (cut_all rfl) ?_)) | go_values | go_skip | go_guarded | go_step | go_upon | (simp only [Int.not_lt, Int.not_le] at *; go_simp))
          refine (H6.out _).mono ?_
          rintro e u1 ⟨rfl, hb⟩
          replace hM := hM.call hb
          clear hb
          repeat' (first | go_values | go_skip | go_guarded | go_step | go_upon | (simp only [Int.not_lt, Int.not_le] at *; go_simp))
          refine (HL.out _).mono ?_
          rintro e u1 ⟨rfl, hb⟩
          replace hM := hM.call hb
          clear hb
          repeat' (first | go_values | go_skip | go_guarded | go_step | go_upon | (simp only [Int.not_lt, Int.not_le] at *; go_simp))
          go_ret
          exact ⟨rfl, hM.below⟩
      · have c5 : (rdC s == 0) = false := by simp [h3]
        generalize rdC s = Cz at *
        generalize rdW s = z at *
        by_cases h4 : rsC s = 0
        · obtain ⟨d1, d2, d3, d4⟩ := rs_is h4
          rw [d1, h4] at H4
          rw [d1, d3, st_c0 d2] at H6
          clear d1 d2 d3 d4
          generalize rsV s = t at *
          clear hs hx hy h1 h2 h3 h4
          generalize wrT x = Tx at *
          generalize stT y = Ty at *
          go_enter Try.func7, Try.ntmps7
          repeat' (first | (go_big_may; first | (refine v_box rfl rfl rfl ?_; intro u zx hN; replace hM := Mm.new (L := []) hM hN; clear hN) | (refine v_box rfl rfl rfl ?_; intro u zy hN; replace hM := hM.new hN; clear hN) | (refine v_load rfl rfl row_wrap rfl hM.at1 (Nat.le_refl _) (cut_all rfl) ?_) | (refine v_load rfl rfl row_wrap rfl hM.at1 (Nat.le_refl _) (cut_all rfl) ?_)) | go_values | go_skip | go_guarded | go_step | go_upon | (simp only [Int.not_lt, Int.not_le] at *; go_simp))
          refine (H1.out _).mono ?_
          rintro e u1 ⟨rfl, hb⟩
          replace hM := hM.call hb
          clear hb
          repeat' (first | go_values | go_skip | go_guarded | go_step | go_upon | (simp only [Int.not_lt, Int.not_le] at *; go_simp))
          refine (A.out _).mono ?_
          rintro e u1 ⟨rfl, hb⟩
          replace hM := hM.call hb
          clear hb
          repeat' (first | (go_big_may; first | (refine v_alloc rfl zer_wrap rfl ?_; intro u za hN; replace hM := hM.new hN; clear hN) | (refine v_fill rfl rfl row_wrap rfl rfl hM.at0 (wpl_vs x) rfl ?_; intro u hv hc; replace hM := hM.put0 hc hv; clear hv hc) | (refine v_load rfl rfl row_wrap rfl hM.at0 (Nat.le_refl _) (cut_all rfl) ?_) | (refine v_load rfl rfl row_wrap rfl hM.at2 (Nat.le_refl _) (cut_all rfl) ?_) | (refine v_neqst rfl rfl HEx rfl rfl ?_) | (refine v_load rfl rfl row_status rfl hM.at1 (Nat.le_refl _) (cut_all rfl) ?_)) | go_values | go_skip | go_guarded | go_step | go_upon | (simp only [Int.not_lt, Int.not_le] at *; go_simp))
          refine (H2.out _).mono ?_
          rintro e u1 ⟨rfl, hb⟩
          replace hM := hM.call hb
          clear hb
          repeat' (first | go_values | go_skip | go_guarded | go_step | go_upon | (simp only [Int.not_lt, Int.not_le] at *; go_simp))
          refine (H3.out _).mono ?_
          rintro e u1 ⟨rfl, hb⟩
          replace hM := hM.call hb
          clear hb
          repeat' (first | (go_big_may; first | (refine v_alloc rfl zer_wrap rfl ?_; intro u zc hN; replace hM := hM.new hN; clear hN) | (refine v_fill rfl rfl row_wrap rfl rfl hM.at0 (wpl_vs z) rfl ?_; intro u hv hc; replace hM := hM.put0 hc hv; clear hv hc) | (refine v_load rfl rfl row_wrap rfl hM.at0 (Nat.le_refl _) (cut_all rfl) ?_)) | go_values | go_skip | go_guarded | go_step | go_upon | (simp only [Int.not_lt, Int.not_le] at *; go_simp))
          refine (H4.out _).mono ?_
          rintro e u1 ⟨rfl, hb⟩
          replace hM := hM.call hb
          clear hb
          repeat' (first | (go_big_may; first | (refine v_alloc rfl zer_status rfl ?_; intro u zd hN; replace hM := hM.new hN; clear hN) | (refine v_fill rfl rfl row_status rfl rfl hM.at0 (spl_vs t) rfl ?_; intro u hv hc; replace hM := hM.put0 hc hv; clear hv hc) | (refine v_load rfl rfl row_status rfl hM.at0 (Nat.le_refl _) (cut_all rfl) ?_)) | go_values | go_skip | go_guarded | go_step | go_upon | (simp only [Int.not_lt, Int.not_le] at *; go_simp))
          refine (H6.out _).mono ?_
          rintro e u1 ⟨rfl, hb⟩
          replace hM := hM.call hb
          clear hb
          repeat' (first | go_values | go_skip | go_guarded | go_step | go_upon | (simp only [Int.not_lt, Int.not_le] at *; go_simp))
          refine (HL.out _).mono ?_
          rintro e u1 ⟨rfl, hb⟩
          replace hM := hM.call hb
          clear hb
          repeat' (first | go_values | go_skip | go_guarded | go_step | go_upon | (simp only [Int.not_lt, Int.not_le] at *; go_simp))
          go_ret
          exact ⟨rfl, hM.below⟩
        · have d5 : (rsC s != 0) = true := by simp [h4]
          generalize rsC s = Cs at *
          generalize rsW s = t at *
          clear hs hx hy h1 h2 h3 h4
          generalize wrT x = Tx at *
          generalize stT y = Ty at *
          go_enter Try.func7, Try.ntmps7
          repeat' (first | (go_big_may; first | (refine v_box rfl rfl rfl ?_; intro u zx hN; replace hM := Mm.new (L := []) hM hN; clear hN) | (refine v_box rfl rfl rfl ?_; intro u zy hN; replace hM := hM.new hN; clear hN) | (refine v_load rfl rfl row_wrap rfl hM.at1 (Nat.le_refl _) (cut_all rfl) ?_) | (refine v_load rfl rfl row_wrap rfl hM.at1 (Nat.le_refl _) (cut_all rfl) ?_)) | go_values | go_skip | go_guarded | go_step | go_upon | (simp only [Int.not_lt, Int.not_le] at *; go_simp))
          refine (H1.out _).mono ?_
          rintro e u1 ⟨rfl, hb⟩
          replace hM := hM.call hb
          clear hb
          repeat' (first | go_values | go_skip | go_guarded | go_step | go_upon | (simp only [Int.not_lt, Int.not_le] at *; go_simp))
          refine (A.out _).mono ?_
          rintro e u1 ⟨rfl, hb⟩
          replace hM := hM.call hb
          clear hb
          repeat' (first | (go_big_may; first | (refine v_alloc rfl zer_wrap rfl ?_; intro u za hN; replace hM := hM.new hN; clear hN) | (refine v_fill rfl rfl row_wrap rfl rfl hM.at0 (wpl_vs x) rfl ?_; intro u hv hc; replace hM := hM.put0 hc hv; clear hv hc) | (refine v_load rfl rfl row_wrap rfl hM.at0 (Nat.le_refl _) (cut_all rfl) ?_) | (refine v_load rfl rfl row_wrap rfl hM.at2 (Nat.le_refl _) (cut_all rfl) ?_) | (refine v_neqst rfl rfl HEx rfl rfl ?_) | (refine v_load rfl rfl row_status rfl hM.at1 (Nat.le_refl _) (cut_all rfl) ?_)) | go_values | go_skip | go_guarded | go_step | go_upon | (simp only [Int.not_lt, Int.not_le] at *; go_simp))
          refine (H2.out _).mono ?_
          rintro e u1 ⟨rfl, hb⟩
          replace hM := hM.call hb
          clear hb
          repeat' (first | go_values | go_skip | go_guarded | go_step | go_upon | (simp only [Int.not_lt, Int.not_le] at *; go_simp))
          refine (H3.out _).mono ?_
          rintro e u1 ⟨rfl, hb⟩
          replace hM := hM.call hb
          clear hb
          repeat' (first | (go_big_may; first | (refine v_alloc rfl zer_wrap rfl ?_; intro u zc hN; replace hM := hM.new hN; clear hN) | (refine v_fill rfl rfl row_wrap rfl rfl hM.at0 (wpl_vs z) rfl ?_; intro u hv hc; replace hM := hM.put0 hc hv; clear hv hc) | (refine v_load rfl rfl row_wrap rfl hM.at0 (Nat.le_refl _) (cut_all rfl) ?_)) | go_values | go_skip | go_guarded | go_step | go_upon | (simp only [Int.not_lt, Int.not_le] at *; go_simp))
          refine (H4.out _).mono ?_
          rintro e u1 ⟨rfl, hb⟩
          replace hM := hM.call hb
          clear hb
          repeat' (first | (go_big_may; first | (refine v_alloc rfl zer_status rfl ?_; intro u zd hN; replace hM := hM.new hN; clear hN) | (refine v_fill rfl rfl row_status rfl rfl hM.at0 (spl_vs t) rfl ?_; intro u hv hc; replace hM := hM.put0 hc hv; clear hv hc) | (refine v_load rfl rfl row_status rfl hM.at0 (Nat.le_refl _) (cut_all rfl) ?_)) | go_values | go_skip | go_guarded | go_step | go_upon | (simp only [Int.not_lt, Int.not_le] at *; go_simp))
          refine (H6.out _).mono ?_
          rintro e u1 ⟨rfl, hb⟩
          replace hM := hM.call hb
          clear hb
          repeat' (first | go_values | go_skip | go_guarded | go_step | go_upon | (simp only [Int.not_lt, Int.not_le] at *; go_simp))
          refine (HL.out _).mono ?_
          rintro e u1 ⟨rfl, hb⟩
          replace hM := hM.call hb
          clear hb
          repeat' (first | go_values | go_skip | go_guarded | go_step | go_upon | (simp only [Int.not_lt, Int.not_le] at *; go_simp))
          go_ret
          exact ⟨rfl, hM.below⟩
    case true =>
      have B : Hid (∀ u, Calls Try.prog 15 #[.string (stT y)] u fun e w' => e = .returned (.tuple #[ag (spl y), .int .i64 0]) ∧ Below u.heap.size u w') := fun u => by
        have := readStatus_any (stT y) (by rw [st_size h2]; decide) u
        rw [(rs_ok h2).1, (rs_ok h2).2] at this
        exact this
      have b0 := st_size h2
      rw [st_c0 h2] at H2
      by_cases h3 : rdC s = 0
      · obtain ⟨c1, c2, c3, c4⟩ := rd_is h3
        rw [c1, h3] at H3
        rw [c1, c3, wr_c0 c2] at H5
        clear c1 c2 c3 c4
        generalize rdV s = z at *
        by_cases h4 : rsC s = 0
        · obtain ⟨d1, d2, d3, d4⟩ := rs_is h4
          rw [d1, h4] at H4
          rw [d1, d3, st_c0 d2] at H6
          clear d1 d2 d3 d4
          generalize rsV s = t at *
          clear hs hx hy h1 h2 h3 h4
          generalize wrT x = Tx at *
          generalize stT y = Ty at *
          go_enter Try.func7, Try.ntmps7
          repeat' (first | (go_big_may; first | (refine v_box rfl rfl rfl ?_; intro u zx hN; replace hM := Mm.new (L := []) hM hN; clear hN) | (refine v_box rfl rfl rfl ?_; intro u zy hN; replace hM := hM.new hN; clear hN) | (refine v_load rfl rfl row_wrap rfl hM.at1 (Nat.le_refl _) (cut_all rfl) ?_) | (refine v_load rfl rfl row_wrap rfl hM.at1 (Nat.le_refl _) (cut_all rfl) ?_)) | go_values | go_skip | go_guarded | go_step | go_upon | (simp only [Int.not_lt, Int.not_le] at *; go_simp))
          refine (H1.out _).mono ?_
          rintro e u1 ⟨rfl, hb⟩
          replace hM := hM.call hb
          clear hb
          repeat' (first | go_values | go_skip | go_guarded | go_step | go_upon | (simp only [Int.not_lt, Int.not_le] at *; go_simp))
          refine (A.out _).mono ?_
          rintro e u1 ⟨rfl, hb⟩
          replace hM := hM.call hb
          clear hb
          repeat' (first | (go_big_may; first | (refine v_alloc rfl zer_wrap rfl ?_; intro u za hN; replace hM := hM.new hN; clear hN) | (refine v_fill rfl rfl row_wrap rfl rfl hM.at0 (wpl_vs x) rfl ?_; intro u hv hc; replace hM := hM.put0 hc hv; clear hv hc) | (refine v_load rfl rfl row_wrap rfl hM.at0 (Nat.le_refl _) (cut_all rfl) ?_) | (refine v_load rfl rfl row_wrap rfl hM.at2 (Nat.le_refl _) (cut_all rfl) ?_) | (refine v_neqst rfl rfl HEx rfl rfl ?_) | (refine v_load rfl rfl row_status rfl hM.at1 (Nat.le_refl _) (cut_all rfl) ?_)) | go_values | go_skip | go_guarded | go_step | go_upon | (simp only [Int.not_lt, Int.not_le] at *; go_simp))
          refine (H2.out _).mono ?_
          rintro e u1 ⟨rfl, hb⟩
          replace hM := hM.call hb
          clear hb
          repeat' (first | go_values | go_skip | go_guarded | go_step | go_upon | (simp only [Int.not_lt, Int.not_le] at *; go_simp))
          refine (B.out _).mono ?_
          rintro e u1 ⟨rfl, hb⟩
          replace hM := hM.call hb
          clear hb
          repeat' (first | (go_big_may; first | (refine v_alloc rfl zer_status rfl ?_; intro u zb hN; replace hM := hM.new hN; clear hN) | (refine v_fill rfl rfl row_status rfl rfl hM.at0 (spl_vs y) rfl ?_; intro u hv hc; replace hM := hM.put0 hc hv; clear hv hc) | (refine v_load rfl rfl row_status rfl hM.at0 (Nat.le_refl _) (cut_all rfl) ?_) | (refine v_load rfl rfl row_status rfl hM.at2 (Nat.le_refl _) (cut_all rfl) ?_) | (refine v_neqst rfl rfl HEy rfl rfl ?_)) | go_values | go_skip | go_guarded | go_step | go_upon | (simp only [Int.not_lt, Int.not_le] at *; go_simp))
          refine (H3.out _).mono ?_
          rintro e u1 ⟨rfl, hb⟩
          replace hM := hM.call hb
          clear hb
          repeat' (first | (go_big_may; first | (refine v_alloc rfl zer_wrap rfl ?_; intro u zc hN; replace hM := hM.new hN; clear hN) | (refine v_fill rfl rfl row_wrap rfl rfl hM.at0 (wpl_vs z) rfl ?_; intro u hv hc; replace hM := hM.put0 hc hv; clear hv hc) | (refine v_load rfl rfl row_wrap rfl hM.at0 (Nat.le_refl _) (cut_all rfl) ?_)) | go_values | go_skip | go_guarded | go_step | go_upon | (simp only [Int.not_lt, Int.not_le] at *; go_simp))
          refine (H5.out _).mono ?_
          rintro e u1 ⟨rfl, hb⟩
          replace hM := hM.call hb
          clear hb
          repeat' (first | go_values | go_skip | go_guarded | go_step | go_upon | (simp only [Int.not_lt, Int.not_le] at *; go_simp))
          refine (H4.out _).mono ?_
          rintro e u1 ⟨rfl, hb⟩
          replace hM := hM.call hb
          clear hb
          repeat' (first | (go_big_may; first | (refine v_alloc rfl zer_status rfl ?_; intro u zd hN; replace hM := hM.new hN; clear hN) | (refine v_fill rfl rfl row_status rfl rfl hM.at0 (spl_vs t) rfl ?_; intro u hv hc; replace hM := hM.put0 hc hv; clear hv hc) | (refine v_load rfl rfl row_status rfl hM.at0 (Nat.le_refl _) (cut_all rfl) ?_)) | go_values | go_skip | go_guarded | go_step | go_upon | (simp only [Int.not_lt, Int.not_le] at *; go_simp))
          refine (H6.out _).mono ?_
          rintro e u1 ⟨rfl, hb⟩
          replace hM := hM.call hb
          clear hb
          repeat' (first | go_values | go_skip | go_guarded | go_step | go_upon | (simp only [Int.not_lt, Int.not_le] at *; go_simp))
          refine (HL.out _).mono ?_
          rintro e u1 ⟨rfl, hb⟩
          replace hM := hM.call hb
          clear hb
          repeat' (first | go_values | go_skip | go_guarded | go_step | go_upon | (simp only [Int.not_lt, Int.not_le] at *; go_simp))
          go_ret
          exact ⟨rfl, hM.below⟩
        · have d5 : (rsC s != 0) = true := by simp [h4]
          generalize rsC s = Cs at *
          generalize rsW s = t at *
          clear hs hx hy h1 h2 h3 h4
          generalize wrT x = Tx at *
          generalize stT y = Ty at *
          go_enter Try.func7, Try.ntmps7
          repeat' (first | (go_big_may; first | (refine v_box rfl rfl rfl ?_; intro u zx hN; replace hM := Mm.new (L := []) hM hN; clear hN) | (refine v_box rfl rfl rfl ?_; intro u zy hN; replace hM := hM.new hN; clear hN) | (refine v_load rfl rfl row_wrap rfl hM.at1 (Nat.le_refl _) (cut_all rfl) ?_) | (refine v_load rfl rfl row_wrap rfl hM.at1 (Nat.le_refl _) (cut_all rfl) ?_)) | go_values | go_skip | go_guarded | go_step | go_upon | (simp only [Int.not_lt, Int.not_le] at *; go_simp))
          refine (H1.out _).mono ?_
          rintro e u1 ⟨rfl, hb⟩
          replace hM := hM.call hb
          clear hb
          repeat' (first | go_values | go_skip | go_guarded | go_step | go_upon | (simp only [Int.not_lt, Int.not_le] at *; go_simp))
          refine (A.out _).mono ?_
          rintro e u1 ⟨rfl, hb⟩
          replace hM := hM.call hb
          clear hb
          repeat' (first | (go_big_may; first | (refine v_alloc rfl zer_wrap rfl ?_; intro u za hN; replace hM := hM.new hN; clear hN) | (refine v_fill rfl rfl row_wrap rfl rfl hM.at0 (wpl_vs x) rfl ?_; intro u hv hc; replace hM := hM.put0 hc hv; clear hv hc) | (refine v_load rfl rfl row_wrap rfl hM.at0 (Nat.le_refl _) (cut_all rfl) ?_) | (refine v_load rfl rfl row_wrap rfl hM.at2 (Nat.le_refl _) (cut_all rfl) ?_) | (refine v_neqst rfl rfl HEx rfl rfl ?_) | (refine v_load rfl rfl row_status rfl hM.at1 (Nat.le_refl _) (cut_all rfl) ?_)) | go_values | go_skip | go_guarded | go_step | go_upon | (simp only [Int.not_lt, Int.not_le] at *; go_simp))
          refine (H2.out _).mono ?_
          rintro e u1 ⟨rfl, hb⟩
          replace hM := hM.call hb
          clear hb
          repeat' (first | go_values | go_skip | go_guarded | go_step | go_upon | (simp only [Int.not_lt, Int.not_le] at *; go_simp))
          refine (B.out _).mono ?_
          rintro e u1 ⟨rfl, hb⟩
          replace hM := hM.call hb
          clear hb
          repeat' (first | (go_big_may; first | (refine v_alloc rfl zer_status rfl ?_; intro u zb hN; replace hM := hM.new hN; clear hN) | (refine v_fill rfl rfl row_status rfl rfl hM.at0 (spl_vs y) rfl ?_; intro u hv hc; replace hM := hM.put0 hc hv; clear hv hc) | (refine v_load rfl rfl row_status rfl hM.at0 (Nat.le_refl _) (cut_all rfl) ?_) | (refine v_load rfl rfl row_status rfl hM.at2 (Nat.le_refl _) (cut_all rfl) ?_) | (refine v_neqst rfl rfl HEy rfl rfl ?_)) | go_values | go_skip | go_guarded | go_step | go_upon | (simp only [Int.not_lt, Int.not_le] at *; go_simp))
          refine (H3.out _).mono ?_
          rintro e u1 ⟨rfl, hb⟩
          replace hM := hM.call hb
          clear hb
          repeat' (first | (go_big_may; first | (refine v_alloc rfl zer_wrap rfl ?_; intro u zc hN; replace hM := hM.new hN; clear hN) | (refine v_fill rfl rfl row_wrap rfl rfl hM.at0 (wpl_vs z) rfl ?_; intro u hv hc; replace hM := hM.put0 hc hv; clear hv hc) | (refine v_load rfl rfl row_wrap rfl hM.at0 (Nat.le_refl _) (cut_all rfl) ?_)) | go_values | go_skip | go_guarded | go_step | go_upon | (simp only [Int.not_lt, Int.not_le] at *; go_simp))
          refine (H5.out _).mono ?_
          rintro e u1 ⟨rfl, hb⟩
          replace hM := hM.call hb
          clear hb
          repeat' (first | go_values | go_skip | go_guarded | go_step | go_upon | (simp only [Int.not_lt, Int.not_le] at *; go_simp))
          refine (H4.out _).mono ?_
          rintro e u1 ⟨rfl, hb⟩
          replace hM := hM.call hb
          clear hb
          repeat' (first | (go_big_may; first | (refine v_alloc rfl zer_status rfl ?_; intro u zd hN; replace hM := hM.new hN; clear hN) | (refine v_fill rfl rfl row_status rfl rfl hM.at0 (spl_vs t) rfl ?_; intro u hv hc; replace hM := hM.put0 hc hv; clear hv hc) | (refine v_load rfl rfl row_status rfl hM.at0 (Nat.le_refl _) (cut_all rfl) ?_)) | go_values | go_skip | go_guarded | go_step | go_upon | (simp only [Int.not_lt, Int.not_le] at *; go_simp))
          refine (H6.out _).mono ?_
          rintro e u1 ⟨rfl, hb⟩
          replace hM := hM.call hb
          clear hb
          repeat' (first | go_values | go_skip | go_guarded | go_step | go_upon | (simp only [Int.not_lt, Int.not_le] at *; go_simp))
          refine (HL.out _).mono ?_
          rintro e u1 ⟨rfl, hb⟩
          replace hM := hM.call hb
          clear hb
          repeat' (first | go_values | go_skip | go_guarded | go_step | go_upon | (simp only [Int.not_lt, Int.not_le] at *; go_simp))
          go_ret
          exact ⟨rfl, hM.below⟩
      · have c5 : (rdC s == 0) = false := by simp [h3]
        generalize rdC s = Cz at *
        generalize rdW s = z at *
        by_cases h4 : rsC s = 0
        · obtain ⟨d1, d2, d3, d4⟩ := rs_is h4
          rw [d1, h4] at H4
          rw [d1, d3, st_c0 d2] at H6
          clear d1 d2 d3 d4
          generalize rsV s = t at *
          clear hs hx hy h1 h2 h3 h4
          generalize wrT x = Tx at *
          generalize stT y = Ty at *
          go_enter Try.func7, Try.ntmps7
          repeat' (first | (go_big_may; first | (refine v_box rfl rfl rfl ?_; intro u zx hN; replace hM := Mm.new (L := []) hM hN; clear hN) | (refine v_box rfl rfl rfl ?_; intro u zy hN; replace hM := hM.new hN; clear hN) | (refine v_load rfl rfl row_wrap rfl hM.at1 (Nat.le_refl _) (cut_all rfl) ?_) | (refine v_load rfl rfl row_wrap rfl hM.at1 (Nat.le_refl _) (cut_all rfl) ?_)) | go_values | go_skip | go_guarded | go_step | go_upon | (simp only [Int.not_lt, Int.not_le] at *; go_simp))
          refine (H1.out _).mono ?_
          rintro e u1 ⟨rfl, hb⟩
          replace hM := hM.call hb
          clear hb
          repeat' (first | go_values | go_skip | go_guarded | go_step | go_upon | (simp only [Int.not_lt, Int.not_le] at *; go_simp))
          refine (A.out _).mono ?_
          rintro e u1 ⟨rfl, hb⟩
          replace hM := hM.call hb
          clear hb
          repeat' (first | (go_big_may; first | (refine v_alloc rfl zer_wrap rfl ?_; intro u za hN; replace hM := hM.new hN; clear hN) | (refine v_fill rfl rfl row_wrap rfl rfl hM.at0 (wpl_vs x) rfl ?_; intro u hv hc; replace hM := hM.put0 hc hv; clear hv hc) | (refine v_load rfl rfl row_wrap rfl hM.at0 (Nat.le_refl _) (cut_all rfl) ?_) | (refine v_load rfl rfl row_wrap rfl hM.at2 (Nat.le_refl _) (cut_all rfl) ?_) | (refine v_neqst rfl rfl HEx rfl rfl ?_) | (refine v_load rfl rfl row_status rfl hM.at1 (Nat.le_refl _) (cut_all rfl) ?_)) | go_values | go_skip | go_guarded | go_step | go_upon | (simp only [Int.not_lt, Int.not_le] at *; go_simp))
          refine (H2.out _).mono ?_
          rintro e u1 ⟨rfl, hb⟩
          replace hM := hM.call hb
          clear hb
          repeat' (first | go_values | go_skip | go_guarded | go_step | go_upon | (simp only [Int.not_lt, Int.not_le] at *; go_simp))
          refine (B.out _).mono ?_
          rintro e u1 ⟨rfl, hb⟩
          replace hM := hM.call hb
          clear hb
          repeat' (first | (go_big_may; first | (refine v_alloc rfl zer_status rfl ?_; intro u zb hN; replace hM := hM.new hN; clear hN) | (refine v_fill rfl rfl row_status rfl rfl hM.at0 (spl_vs y) rfl ?_; intro u hv hc; replace hM := hM.put0 hc hv; clear hv hc) | (refine v_load rfl rfl row_status rfl hM.at0 (Nat.le_refl _) (cut_all rfl) ?_) | (refine v_load rfl rfl row_status rfl hM.at2 (Nat.le_refl _) (cut_all rfl) ?_) | (refine v_neqst rfl rfl HEy rfl rfl ?_)) | go_values | go_skip | go_guarded | go_step | go_upon | (simp only [Int.not_lt, Int.not_le] at *; go_simp))
          refine (H3.out _).mono ?_
          rintro e u1 ⟨rfl, hb⟩
          replace hM := hM.call hb
          clear hb
          repeat' (first | (go_big_may; first | (refine v_alloc rfl zer_wrap rfl ?_; intro u zc hN; replace hM := hM.new hN; clear hN) | (refine v_fill rfl rfl row_wrap rfl rfl hM.at0 (wpl_vs z) rfl ?_; intro u hv hc; replace hM := hM.put0 hc hv; clear hv hc) | (refine v_load rfl rfl row_wrap rfl hM.at0 (Nat.le_refl _) (cut_all rfl) ?_)) | go_values | go_skip | go_guarded | go_step | go_upon | (simp only [Int.not_lt, Int.not_le] at *; go_simp))
          refine (H4.out _).mono ?_
          rintro e u1 ⟨rfl, hb⟩
          replace hM := hM.call hb
          clear hb
          repeat' (first | (go_big_may; first | (refine v_alloc rfl zer_status rfl ?_; intro u zd hN; replace hM := hM.new hN; clear hN) | (refine v_fill rfl rfl row_status rfl rfl hM.at0 (spl_vs t) rfl ?_; intro u hv hc; replace hM := hM.put0 hc hv; clear hv hc) | (refine v_load rfl rfl row_status rfl hM.at0 (Nat.le_refl _) (cut_all rfl) ?_)) | go_values | go_skip | go_guarded | go_step | go_upon | (simp only [Int.not_lt, Int.not_le] at *; go_simp))
          refine (H6.out _).mono ?_
          rintro e u1 ⟨rfl, hb⟩
          replace hM := hM.call hb
          clear hb
          repeat' (first | go_values | go_skip | go_guarded | go_step | go_upon | (simp only [Int.not_lt, Int.not_le] at *; go_simp))
          refine (HL.out _).mono ?_
          rintro e u1 ⟨rfl, hb⟩
          replace hM := hM.call hb
          clear hb
          repeat' (first | go_values | go_skip | go_guarded | go_step | go_upon | (simp only [Int.not_lt, Int.not_le] at *; go_simp))
          go_ret
          exact ⟨rfl, hM.below⟩
        · have d5 : (rsC s != 0) = true := by simp [h4]
          generalize rsC s = Cs at *
          generalize rsW s = t at *
          clear hs hx hy h1 h2 h3 h4
          generalize wrT x = Tx at *
          generalize stT y = Ty at *
          go_enter Try.func7, Try.ntmps7
          repeat' (first | (go_big_may; first | (refine v_box rfl rfl rfl ?_; intro u zx hN; replace hM := Mm.new (L := []) hM hN; clear hN) | (refine v_box rfl rfl rfl ?_; intro u zy hN; replace hM := hM.new hN; clear hN) | (refine v_load rfl rfl row_wrap rfl hM.at1 (Nat.le_refl _) (cut_all rfl) ?_) | (refine v_load rfl rfl row_wrap rfl hM.at1 (Nat.le_refl _) (cut_all rfl) ?_)) | go_values | go_skip | go_guarded | go_step | go_upon | (simp only [Int.not_lt, Int.not_le] at *; go_simp))
          refine (H1.out _).mono ?_
          rintro e u1 ⟨rfl, hb⟩
          replace hM := hM.call hb
          clear hb
          repeat' (first | go_values | go_skip | go_guarded | go_step | go_upon | (simp only [Int.not_lt, Int.not_le] at *; go_simp))
          refine (A.out _).mono ?_
          rintro e u1 ⟨rfl, hb⟩
          replace hM := hM.call hb
          clear hb
          repeat' (first | (go_big_may; first | (refine v_alloc rfl zer_wrap rfl ?_; intro u za hN; replace hM := hM.new hN; clear hN) | (refine v_fill rfl rfl row_wrap rfl rfl hM.at0 (wpl_vs x) rfl ?_; intro u hv hc; replace hM := hM.put0 hc hv; clear hv hc) | (refine v_load rfl rfl row_wrap rfl hM.at0 (Nat.le_refl _) (cut_all rfl) ?_) | (refine v_load rfl rfl row_wrap rfl hM.at2 (Nat.le_refl _) (cut_all rfl) ?_) | (refine v_neqst rfl rfl HEx rfl rfl ?_) | (refine v_load rfl rfl row_status rfl hM.at1 (Nat.le_refl _) (cut_all rfl) ?_)) | go_values | go_skip | go_guarded | go_step | go_upon | (simp only [Int.not_lt, Int.not_le] at *; go_simp))
          refine (H2.out _).mono ?_
          rintro e u1 ⟨rfl, hb⟩
          replace hM := hM.call hb
          clear hb
          repeat' (first | go_values | go_skip | go_guarded | go_step | go_upon | (simp only [Int.not_lt, Int.not_le] at *; go_simp))
          refine (B.out _).mono ?_
          rintro e u1 ⟨rfl, hb⟩
          replace hM := hM.call hb
          clear hb
          repeat' (first | (go_big_may; first | (refine v_alloc rfl zer_status rfl ?_; intro u zb hN; replace hM := hM.new hN; clear hN) | (refine v_fill rfl rfl row_status rfl rfl hM.at0 (spl_vs y) rfl ?_; intro u hv hc; replace hM := hM.put0 hc hv; clear hv hc) | (refine v_load rfl rfl row_status rfl hM.at0 (Nat.le_refl _) (cut_all rfl) ?_) | (refine v_load rfl rfl row_status rfl hM.at2 (Nat.le_refl _) (cut_all rfl) ?_) | (refine v_neqst rfl rfl HEy rfl rfl ?_)) | go_values | go_skip | go_guarded | go_step | go_upon | (simp only [Int.not_lt, Int.not_le] at *; go_simp))
          refine (H3.out _).mono ?_
          rintro e u1 ⟨rfl, hb⟩
          replace hM := hM.call hb
          clear hb
          repeat' (first | (go_big_may; first | (refine v_alloc rfl zer_wrap rfl ?_; intro u zc hN; replace hM := hM.new hN; clear hN) | (refine v_fill rfl rfl row_wrap rfl rfl hM.at0 (wpl_vs z) rfl ?_; intro u hv hc; replace hM := hM.put0 hc hv; clear hv hc) | (refine v_load rfl rfl row_wrap rfl hM.at0 (Nat.le_refl _) (cut_all rfl) ?_)) | go_values | go_skip | go_guarded | go_step | go_upon | (simp only [Int.not_lt, Int.not_le] at *; go_simp))
          refine (H4.out _).mono ?_
          rintro e u1 ⟨rfl, hb⟩
          replace hM := hM.call hb
          clear hb
          repeat' (first | (go_big_may; first | (refine v_alloc rfl zer_status rfl ?_; intro u zd hN; replace hM := hM.new hN; clear hN) | (refine v_fill rfl rfl row_status rfl rfl hM.at0 (spl_vs t) rfl ?_; intro u hv hc; replace hM := hM.put0 hc hv; clear hv hc) | (refine v_load rfl rfl row_status rfl hM.at0 (Nat.le_refl _) (cut_all rfl) ?_)) | go_values | go_skip | go_guarded | go_step | go_upon | (simp only [Int.not_lt, Int.not_le] at *; go_simp))
          refine (H6.out _).mono ?_
          rintro e u1 ⟨rfl, hb⟩
          replace hM := hM.call hb
          clear hb
          repeat' (first | go_values | go_skip | go_guarded | go_step | go_upon | (simp only [Int.not_lt, Int.not_le] at *; go_simp))
          refine (HL.out _).mono ?_
          rintro e u1 ⟨rfl, hb⟩
          replace hM := hM.call hb
          clear hb
          repeat' (first | go_values | go_skip | go_guarded | go_step | go_upon | (simp only [Int.not_lt, Int.not_le] at *; go_simp))
          go_ret
          exact ⟨rfl, hM.below⟩
end Go.Proofs.Ytecknicmonhcaaa.bulkBack
