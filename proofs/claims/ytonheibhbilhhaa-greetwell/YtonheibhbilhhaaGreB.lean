/- greet: small functions: is a greeting right, what is asked of it. -/
import Derived.Test.YtonheibhbilhhaaGreA
namespace Go.Proofs.Ytonheibhbilhhaa.greet
open Go Go.RowKit Go.PlainAid Go.Proofs.Ytonheibhbilhhaa.lane Go.Proofs.Ytonheibhbilhhaa.desc
open Go.Proofs.Ytonheibhbilhhaa.setup (inS inS_iff wrT wrC good txt)
set_option linter.unusedVariables false
set_option linter.unusedSimpArgs false
set_option maxRecDepth 100000

theorem isAddr_any (n : Int) (w : World) : Calls Try.prog 22 #[.int .i64 n] w fun e w' => e = .returned (.bool (adB n)) ∧ w = w' := by
  unfold adB inS
  cases h1 : decide (1 ≤ n) <;> cases h2 : decide (n ≤ 127) <;> (go_enter Try.func22, Try.ntmps22; go_wp2; go_ret; exact ⟨rfl, rfl⟩)
theorem isByte_any (n : Int) (w : World) : Calls Try.prog 43 #[.int .i64 n] w fun e w' => e = .returned (.bool (byB n)) ∧ w = w' := by
  unfold byB inS
  cases h1 : decide (0 ≤ n) <;> cases h2 : decide (n ≤ 255) <;> (go_enter Try.func43, Try.ntmps43; go_wp2; go_ret; exact ⟨rfl, rfl⟩)
theorem okG_parts (g : Gr) : okG g = (decide (1 ≤ g.st) && (decide (g.st ≤ 9) && (decide (0 ≤ g.tr) && (decide (g.tr < 3) && (adB g.ad && (decide (0 ≤ g.tot) && (decide (g.tot ≤ 512) && (byB g.d.se && byB g.c.va)))))))) := by
  rw [Bool.eq_iff_iff, okG_iff]
  simp [adB, byB, inS]
  omega

set_option maxHeartbeats 4000000 in
theorem isRight_any (g : Gr) (u : Value) (w : World) : Calls Try.prog 23 #[grV g u] w fun e w' => e = .returned (.bool (okG g)) ∧ Below w.heap.size w w' := by
  have HA : Hid (∀ w, Calls Try.prog 22 #[.int .i64 g.ad] w fun e w' => e = .returned (.bool (adB g.ad)) ∧ w = w') := fun w => isAddr_any _ w
  have HB : Hid (∀ w, Calls Try.prog 43 #[.int .i64 g.d.se] w fun e w' => e = .returned (.bool (byB g.d.se)) ∧ w = w') := fun w => isByte_any _ w
  have HC : Hid (∀ w, Calls Try.prog 43 #[.int .i64 g.c.va] w fun e w' => e = .returned (.bool (byB g.c.va)) ∧ w = w') := fun w => isByte_any _ w
  have hM := Mm.nil w
  rw [okG_parts]
  by_cases h1 : 1 ≤ g.st
  case neg =>
    rw [decide_eq_false h1, Bool.false_and]
    go_enter Try.func23, Try.ntmps23
    repeat' (first | (go_big_may; first | (refine v_box rfl rfl rfl ?_; intro u zg hN; replace hM := hM.new hN; clear hN) | (refine v_get rfl rfl (by first | exact lod_int | exact lod_str | exact lod_fcs | exact lod_err) rfl hM.at0 rfl ?_)) | go_values | go_skip | go_guarded | go_step | go_upon | (simp only [Int.not_lt, Int.not_le] at *; go_simp))
    go_ret
    exact ⟨rfl, hM.below⟩
  rw [decide_eq_true h1, Bool.true_and]
  by_cases h2 : g.st ≤ 9
  case neg =>
    rw [decide_eq_false h2, Bool.false_and]
    go_enter Try.func23, Try.ntmps23
    repeat' (first | (go_big_may; first | (refine v_box rfl rfl rfl ?_; intro u zg hN; replace hM := hM.new hN; clear hN) | (refine v_get rfl rfl (by first | exact lod_int | exact lod_str | exact lod_fcs | exact lod_err) rfl hM.at0 rfl ?_)) | go_values | go_skip | go_guarded | go_step | go_upon | (simp only [Int.not_lt, Int.not_le] at *; go_simp))
    go_ret
    exact ⟨rfl, hM.below⟩
  rw [decide_eq_true h2, Bool.true_and]
  by_cases h3 : 0 ≤ g.tr
  case neg =>
    rw [decide_eq_false h3, Bool.false_and]
    go_enter Try.func23, Try.ntmps23
    repeat' (first | (go_big_may; first | (refine v_box rfl rfl rfl ?_; intro u zg hN; replace hM := hM.new hN; clear hN) | (refine v_get rfl rfl (by first | exact lod_int | exact lod_str | exact lod_fcs | exact lod_err) rfl hM.at0 rfl ?_)) | go_values | go_skip | go_guarded | go_step | go_upon | (simp only [Int.not_lt, Int.not_le] at *; go_simp))
    go_ret
    exact ⟨rfl, hM.below⟩
  rw [decide_eq_true h3, Bool.true_and]
  by_cases h4 : g.tr < 3
  case neg =>
    rw [decide_eq_false h4, Bool.false_and]
    go_enter Try.func23, Try.ntmps23
    repeat' (first | (go_big_may; first | (refine v_box rfl rfl rfl ?_; intro u zg hN; replace hM := hM.new hN; clear hN) | (refine v_get rfl rfl (by first | exact lod_int | exact lod_str | exact lod_fcs | exact lod_err) rfl hM.at0 rfl ?_)) | go_values | go_skip | go_guarded | go_step | go_upon | (simp only [Int.not_lt, Int.not_le] at *; go_simp))
    go_ret
    exact ⟨rfl, hM.below⟩
  rw [decide_eq_true h4, Bool.true_and]
  cases zA : adB g.ad
  case false =>
    rw [zA] at HA
    rw [Bool.false_and]
    go_enter Try.func23, Try.ntmps23
    repeat' (first | (go_big_may; first | (refine v_box rfl rfl rfl ?_; intro u zg hN; replace hM := hM.new hN; clear hN) | (refine v_get rfl rfl (by first | exact lod_int | exact lod_str | exact lod_fcs | exact lod_err) rfl hM.at0 rfl ?_)) | go_values | go_skip | go_guarded | go_step | go_upon | (simp only [Int.not_lt, Int.not_le] at *; go_simp))
    refine (HA.out _).mono ?_
    rintro e u1 ⟨rfl, rfl⟩
    repeat' (first | (go_big_may; first | (refine v_get rfl rfl (by first | exact lod_int | exact lod_str | exact lod_fcs | exact lod_err) rfl hM.at0 rfl ?_)) | go_values | go_skip | go_guarded | go_step | go_upon | (simp only [Int.not_lt, Int.not_le] at *; go_simp))
    go_ret
    exact ⟨rfl, hM.below⟩
  rw [zA] at HA
  rw [Bool.true_and]
  by_cases h5 : 0 ≤ g.tot
  case neg =>
    rw [decide_eq_false h5, Bool.false_and]
    go_enter Try.func23, Try.ntmps23
    repeat' (first | (go_big_may; first | (refine v_box rfl rfl rfl ?_; intro u zg hN; replace hM := hM.new hN; clear hN) | (refine v_get rfl rfl (by first | exact lod_int | exact lod_str | exact lod_fcs | exact lod_err) rfl hM.at0 rfl ?_)) | go_values | go_skip | go_guarded | go_step | go_upon | (simp only [Int.not_lt, Int.not_le] at *; go_simp))
    refine (HA.out _).mono ?_
    rintro e u1 ⟨rfl, rfl⟩
    repeat' (first | (go_big_may; first | (refine v_get rfl rfl (by first | exact lod_int | exact lod_str | exact lod_fcs | exact lod_err) rfl hM.at0 rfl ?_)) | go_values | go_skip | go_guarded | go_step | go_upon | (simp only [Int.not_lt, Int.not_le] at *; go_simp))
    go_ret
    exact ⟨rfl, hM.below⟩
  rw [decide_eq_true h5, Bool.true_and]
  by_cases h6 : g.tot ≤ 512
  case neg =>
    rw [decide_eq_false h6, Bool.false_and]
    go_enter Try.func23, Try.ntmps23
    repeat' (first | (go_big_may; first | (refine v_box rfl rfl rfl ?_; intro u zg hN; replace hM := hM.new hN; clear hN) | (refine v_get rfl rfl (by first | exact lod_int | exact lod_str | exact lod_fcs | exact lod_err) rfl hM.at0 rfl ?_)) | go_values | go_skip | go_guarded | go_step | go_upon | (simp only [Int.not_lt, Int.not_le] at *; go_simp))
    refine (HA.out _).mono ?_
    rintro e u1 ⟨rfl, rfl⟩
    repeat' (first | (go_big_may; first | (refine v_get rfl rfl (by first | exact lod_int | exact lod_str | exact lod_fcs | exact lod_err) rfl hM.at0 rfl ?_)) | go_values | go_skip | go_guarded | go_step | go_upon | (simp only [Int.not_lt, Int.not_le] at *; go_simp))
    go_ret
    exact ⟨rfl, hM.below⟩
  rw [decide_eq_true h6, Bool.true_and]
  cases zB : byB g.d.se
  case false =>
    rw [zB] at HB
    rw [Bool.false_and]
    go_enter Try.func23, Try.ntmps23
    repeat' (first | (go_big_may; first | (refine v_box rfl rfl rfl ?_; intro u zg hN; replace hM := hM.new hN; clear hN) | (refine v_get rfl rfl (by first | exact lod_int | exact lod_str | exact lod_fcs | exact lod_err) rfl hM.at0 rfl ?_)) | go_values | go_skip | go_guarded | go_step | go_upon | (simp only [Int.not_lt, Int.not_le] at *; go_simp))
    refine (HA.out _).mono ?_
    rintro e u1 ⟨rfl, rfl⟩
    repeat' (first | (go_big_may; first | (refine v_get rfl rfl (by first | exact lod_int | exact lod_str | exact lod_fcs | exact lod_err) rfl hM.at0 rfl ?_)) | go_values | go_skip | go_guarded | go_step | go_upon | (simp only [Int.not_lt, Int.not_le] at *; go_simp))
    refine (HB.out _).mono ?_
    rintro e u1 ⟨rfl, rfl⟩
    repeat' (first | (go_big_may; first | (refine v_get rfl rfl (by first | exact lod_int | exact lod_str | exact lod_fcs | exact lod_err) rfl hM.at0 rfl ?_)) | go_values | go_skip | go_guarded | go_step | go_upon | (simp only [Int.not_lt, Int.not_le] at *; go_simp))
    go_ret
    exact ⟨rfl, hM.below⟩
  rw [zB] at HB
  rw [Bool.true_and]
  cases zC : byB g.c.va
  case false =>
    rw [zC] at HC
    skip
    go_enter Try.func23, Try.ntmps23
    repeat' (first | (go_big_may; first | (refine v_box rfl rfl rfl ?_; intro u zg hN; replace hM := hM.new hN; clear hN) | (refine v_get rfl rfl (by first | exact lod_int | exact lod_str | exact lod_fcs | exact lod_err) rfl hM.at0 rfl ?_)) | go_values | go_skip | go_guarded | go_step | go_upon | (simp only [Int.not_lt, Int.not_le] at *; go_simp))
    refine (HA.out _).mono ?_
    rintro e u1 ⟨rfl, rfl⟩
    repeat' (first | (go_big_may; first | (refine v_get rfl rfl (by first | exact lod_int | exact lod_str | exact lod_fcs | exact lod_err) rfl hM.at0 rfl ?_)) | go_values | go_skip | go_guarded | go_step | go_upon | (simp only [Int.not_lt, Int.not_le] at *; go_simp))
    refine (HB.out _).mono ?_
    rintro e u1 ⟨rfl, rfl⟩
    repeat' (first | (go_big_may; first | (refine v_get rfl rfl (by first | exact lod_int | exact lod_str | exact lod_fcs | exact lod_err) rfl hM.at0 rfl ?_)) | go_values | go_skip | go_guarded | go_step | go_upon | (simp only [Int.not_lt, Int.not_le] at *; go_simp))
    refine (HC.out _).mono ?_
    rintro e u1 ⟨rfl, rfl⟩
    repeat' (first | (go_big_may; first | (refine v_get rfl rfl (by first | exact lod_int | exact lod_str | exact lod_fcs | exact lod_err) rfl hM.at0 rfl ?_)) | go_values | go_skip | go_guarded | go_step | go_upon | (simp only [Int.not_lt, Int.not_le] at *; go_simp))
    go_ret
    exact ⟨rfl, hM.below⟩
  rw [zC] at HC
  go_enter Try.func23, Try.ntmps23
  repeat' (first | (go_big_may; first | (refine v_box rfl rfl rfl ?_; intro u zg hN; replace hM := hM.new hN; clear hN) | (refine v_get rfl rfl (by first | exact lod_int | exact lod_str | exact lod_fcs | exact lod_err) rfl hM.at0 rfl ?_)) | go_values | go_skip | go_guarded | go_step | go_upon | (simp only [Int.not_lt, Int.not_le] at *; go_simp))
  refine (HA.out _).mono ?_
  rintro e u1 ⟨rfl, rfl⟩
  repeat' (first | (go_big_may; first | (refine v_get rfl rfl (by first | exact lod_int | exact lod_str | exact lod_fcs | exact lod_err) rfl hM.at0 rfl ?_)) | go_values | go_skip | go_guarded | go_step | go_upon | (simp only [Int.not_lt, Int.not_le] at *; go_simp))
  refine (HB.out _).mono ?_
  rintro e u1 ⟨rfl, rfl⟩
  repeat' (first | (go_big_may; first | (refine v_get rfl rfl (by first | exact lod_int | exact lod_str | exact lod_fcs | exact lod_err) rfl hM.at0 rfl ?_)) | go_values | go_skip | go_guarded | go_step | go_upon | (simp only [Int.not_lt, Int.not_le] at *; go_simp))
  refine (HC.out _).mono ?_
  rintro e u1 ⟨rfl, rfl⟩
  repeat' (first | (go_big_may; first | (refine v_get rfl rfl (by first | exact lod_int | exact lod_str | exact lod_fcs | exact lod_err) rfl hM.at0 rfl ?_)) | go_values | go_skip | go_guarded | go_step | go_upon | (simp only [Int.not_lt, Int.not_le] at *; go_simp))
  go_ret
  exact ⟨rfl, hM.below⟩
theorem describe_any (v l : Int) (w : World) : Calls Try.prog 47 #[.int .i64 v, .int .i64 l] w fun e w' => e = .returned (ag (akl 5 v 0 l)) ∧ Below w.heap.size w w' := by
  have hM := Mm.nil w
  go_enter Try.func47, Try.ntmps47
  repeat' (first | (go_big_may; first | (refine v_alloc rfl zer_ask rfl ?_; intro u za hN; replace hM := hM.new hN; clear hN) | (refine v_build rfl rfl (bld_ask3 5 v l) ?hbv ?_; (case hbv => simp [Act.eval, Act.put])) | (refine v_fill rfl rfl row_ask rfl rfl hM.at0 (akl_vs _ _ _ _) rfl ?_; intro u hv hc; replace hM := hM.put0 hc hv; clear hv hc)) | go_values | go_skip | go_guarded | go_step | go_upon | (simp only [Int.not_lt, Int.not_le] at *; go_simp))
  first
  | (refine bodyPost_ret (ret_1 rfl rfl (ld_var row_ask hM.at0 rfl)) rfl ⟨rfl, hM.below⟩)
  | (go_ret; exact ⟨rfl, hM.below⟩)
theorem askG (g : Gr) (k : Int) (h : g.st = k) : akl (askK g) (askV g) 0 (askL g) = akl (if k = 2 then 4 else if k = 7 then 6 else 5) (if k = 1 then 256 else if k = 2 then g.ad else if k = 3 then 256 else if k = 4 then 512 else if k = 5 then 512 else if k = 6 then 768 + g.d.se else g.c.va) 0 (if k = 1 then 8 else if k = 3 then 18 else if k = 4 then 9 else if k = 5 then g.tot else if k = 6 then 255 else 0) := by
  subst h; rfl
set_option maxHeartbeats 4000000 in
theorem askAt_any (g : Gr) (u : Value) (w : World) (h : okG g = true) (h8 : ¬ 8 ≤ g.st) : Calls Try.prog 25 #[grV g u] w fun e w' => e = .returned (ag (akl (askK g) (askV g) 0 (askL g))) ∧ Below w.heap.size w w' := by
  have HD : Hid (∀ v l w, Calls Try.prog 47 #[.int .i64 v, .int .i64 l] w fun e w' => e = .returned (ag (akl 5 v 0 l)) ∧ Below w.heap.size w w') := describe_any
  have hse := ((okG_iff g).1 h).2.2.2.2.1
  have hwr : IntKind.i64.wrap (768 + g.d.se) = 768 + g.d.se := by rw [IntKind.wrap_i64]; omega
  have hM := Mm.nil w
  have h7 := st_seven h h8
  clear h h8 hse
  rcases h7 with h7 | h7
  · rw [askG g 1 h7]
    go_enter Try.func25, Try.ntmps25
    repeat' (first | (go_big_may; first | (refine v_box rfl rfl rfl ?_; intro u zg hN; replace hM := hM.new hN; clear hN) | (refine v_alloc rfl zer_ask rfl ?_; intro u za hN; replace hM := hM.new hN; clear hN) | (refine v_get rfl rfl lod_int rfl hM.at1 (v := .int .i64 1) (by rw [← h7]; rfl) ?_) | (refine v_get rfl rfl (by first | exact lod_int | exact lod_str | exact lod_fcs | exact lod_err) rfl hM.at1 rfl ?_) | (refine v_build rfl rfl (bld_ask2 4 g.ad) ?hbv ?_; (case hbv => simp [Act.eval, Act.put])) | (refine v_build rfl rfl (bld_ask2 6 g.c.va) ?hbv ?_; (case hbv => simp [Act.eval, Act.put])) | (refine v_fill rfl rfl row_ask rfl rfl hM.at0 (akl_vs _ _ _ _) rfl ?_; intro u hv hc; replace hM := hM.put0 hc hv; clear hv hc)) | go_values | go_skip | go_guarded | go_step | go_upon | (simp only [Int.not_lt, Int.not_le] at *; go_simp))
    refine (HD.out _ _ _).mono ?_
    rintro e u1 ⟨rfl, hb⟩
    replace hM := hM.call hb
    repeat' (first | (go_big_may; first | (refine v_fill rfl rfl row_ask rfl rfl hM.at0 (akl_vs _ _ _ _) rfl ?_; intro u hv hc; replace hM := hM.put0 hc hv; clear hv hc)) | go_values | go_skip | go_guarded | go_step | go_upon | (simp only [Int.not_lt, Int.not_le] at *; go_simp))
    exact bodyPost_ret (ret_1 rfl rfl (ld_var row_ask hM.at0 rfl)) rfl ⟨rfl, hM.below⟩
  rcases h7 with h7 | h7
  · rw [askG g 2 h7]
    go_enter Try.func25, Try.ntmps25
    repeat' (first | (go_big_may; first | (refine v_box rfl rfl rfl ?_; intro u zg hN; replace hM := hM.new hN; clear hN) | (refine v_alloc rfl zer_ask rfl ?_; intro u za hN; replace hM := hM.new hN; clear hN) | (refine v_get rfl rfl lod_int rfl hM.at1 (v := .int .i64 2) (by rw [← h7]; rfl) ?_) | (refine v_get rfl rfl (by first | exact lod_int | exact lod_str | exact lod_fcs | exact lod_err) rfl hM.at1 rfl ?_) | (refine v_build rfl rfl (bld_ask2 4 g.ad) ?hbv ?_; (case hbv => simp [Act.eval, Act.put])) | (refine v_build rfl rfl (bld_ask2 6 g.c.va) ?hbv ?_; (case hbv => simp [Act.eval, Act.put])) | (refine v_fill rfl rfl row_ask rfl rfl hM.at0 (akl_vs _ _ _ _) rfl ?_; intro u hv hc; replace hM := hM.put0 hc hv; clear hv hc)) | go_values | go_skip | go_guarded | go_step | go_upon | (simp only [Int.not_lt, Int.not_le] at *; go_simp))
    exact bodyPost_ret (ret_1 rfl rfl (ld_var row_ask hM.at0 rfl)) rfl ⟨rfl, hM.below⟩
  rcases h7 with h7 | h7
  · rw [askG g 3 h7]
    go_enter Try.func25, Try.ntmps25
    repeat' (first | (go_big_may; first | (refine v_box rfl rfl rfl ?_; intro u zg hN; replace hM := hM.new hN; clear hN) | (refine v_alloc rfl zer_ask rfl ?_; intro u za hN; replace hM := hM.new hN; clear hN) | (refine v_get rfl rfl lod_int rfl hM.at1 (v := .int .i64 3) (by rw [← h7]; rfl) ?_) | (refine v_get rfl rfl (by first | exact lod_int | exact lod_str | exact lod_fcs | exact lod_err) rfl hM.at1 rfl ?_) | (refine v_build rfl rfl (bld_ask2 4 g.ad) ?hbv ?_; (case hbv => simp [Act.eval, Act.put])) | (refine v_build rfl rfl (bld_ask2 6 g.c.va) ?hbv ?_; (case hbv => simp [Act.eval, Act.put])) | (refine v_fill rfl rfl row_ask rfl rfl hM.at0 (akl_vs _ _ _ _) rfl ?_; intro u hv hc; replace hM := hM.put0 hc hv; clear hv hc)) | go_values | go_skip | go_guarded | go_step | go_upon | (simp only [Int.not_lt, Int.not_le] at *; go_simp))
    refine (HD.out _ _ _).mono ?_
    rintro e u1 ⟨rfl, hb⟩
    replace hM := hM.call hb
    repeat' (first | (go_big_may; first | (refine v_fill rfl rfl row_ask rfl rfl hM.at0 (akl_vs _ _ _ _) rfl ?_; intro u hv hc; replace hM := hM.put0 hc hv; clear hv hc)) | go_values | go_skip | go_guarded | go_step | go_upon | (simp only [Int.not_lt, Int.not_le] at *; go_simp))
    exact bodyPost_ret (ret_1 rfl rfl (ld_var row_ask hM.at0 rfl)) rfl ⟨rfl, hM.below⟩
  rcases h7 with h7 | h7
  · rw [askG g 4 h7]
    go_enter Try.func25, Try.ntmps25
    repeat' (first | (go_big_may; first | (refine v_box rfl rfl rfl ?_; intro u zg hN; replace hM := hM.new hN; clear hN) | (refine v_alloc rfl zer_ask rfl ?_; intro u za hN; replace hM := hM.new hN; clear hN) | (refine v_get rfl rfl lod_int rfl hM.at1 (v := .int .i64 4) (by rw [← h7]; rfl) ?_) | (refine v_get rfl rfl (by first | exact lod_int | exact lod_str | exact lod_fcs | exact lod_err) rfl hM.at1 rfl ?_) | (refine v_build rfl rfl (bld_ask2 4 g.ad) ?hbv ?_; (case hbv => simp [Act.eval, Act.put])) | (refine v_build rfl rfl (bld_ask2 6 g.c.va) ?hbv ?_; (case hbv => simp [Act.eval, Act.put])) | (refine v_fill rfl rfl row_ask rfl rfl hM.at0 (akl_vs _ _ _ _) rfl ?_; intro u hv hc; replace hM := hM.put0 hc hv; clear hv hc)) | go_values | go_skip | go_guarded | go_step | go_upon | (simp only [Int.not_lt, Int.not_le] at *; go_simp))
    refine (HD.out _ _ _).mono ?_
    rintro e u1 ⟨rfl, hb⟩
    replace hM := hM.call hb
    repeat' (first | (go_big_may; first | (refine v_fill rfl rfl row_ask rfl rfl hM.at0 (akl_vs _ _ _ _) rfl ?_; intro u hv hc; replace hM := hM.put0 hc hv; clear hv hc)) | go_values | go_skip | go_guarded | go_step | go_upon | (simp only [Int.not_lt, Int.not_le] at *; go_simp))
    exact bodyPost_ret (ret_1 rfl rfl (ld_var row_ask hM.at0 rfl)) rfl ⟨rfl, hM.below⟩
  rcases h7 with h7 | h7
  · rw [askG g 5 h7]
    go_enter Try.func25, Try.ntmps25
    repeat' (first | (go_big_may; first | (refine v_box rfl rfl rfl ?_; intro u zg hN; replace hM := hM.new hN; clear hN) | (refine v_alloc rfl zer_ask rfl ?_; intro u za hN; replace hM := hM.new hN; clear hN) | (refine v_get rfl rfl lod_int rfl hM.at1 (v := .int .i64 5) (by rw [← h7]; rfl) ?_) | (refine v_get rfl rfl (by first | exact lod_int | exact lod_str | exact lod_fcs | exact lod_err) rfl hM.at1 rfl ?_) | (refine v_build rfl rfl (bld_ask2 4 g.ad) ?hbv ?_; (case hbv => simp [Act.eval, Act.put])) | (refine v_build rfl rfl (bld_ask2 6 g.c.va) ?hbv ?_; (case hbv => simp [Act.eval, Act.put])) | (refine v_fill rfl rfl row_ask rfl rfl hM.at0 (akl_vs _ _ _ _) rfl ?_; intro u hv hc; replace hM := hM.put0 hc hv; clear hv hc)) | go_values | go_skip | go_guarded | go_step | go_upon | (simp only [Int.not_lt, Int.not_le] at *; go_simp))
    refine (HD.out _ _ _).mono ?_
    rintro e u1 ⟨rfl, hb⟩
    replace hM := hM.call hb
    repeat' (first | (go_big_may; first | (refine v_fill rfl rfl row_ask rfl rfl hM.at0 (akl_vs _ _ _ _) rfl ?_; intro u hv hc; replace hM := hM.put0 hc hv; clear hv hc)) | go_values | go_skip | go_guarded | go_step | go_upon | (simp only [Int.not_lt, Int.not_le] at *; go_simp))
    exact bodyPost_ret (ret_1 rfl rfl (ld_var row_ask hM.at0 rfl)) rfl ⟨rfl, hM.below⟩
  rcases h7 with h7 | h7
  · rw [askG g 6 h7]
    go_enter Try.func25, Try.ntmps25
    repeat' (first | (go_big_may; first | (refine v_box rfl rfl rfl ?_; intro u zg hN; replace hM := hM.new hN; clear hN) | (refine v_alloc rfl zer_ask rfl ?_; intro u za hN; replace hM := hM.new hN; clear hN) | (refine v_get rfl rfl lod_int rfl hM.at1 (v := .int .i64 6) (by rw [← h7]; rfl) ?_) | (refine v_get rfl rfl (by first | exact lod_int | exact lod_str | exact lod_fcs | exact lod_err) rfl hM.at1 rfl ?_) | (refine v_build rfl rfl (bld_ask2 4 g.ad) ?hbv ?_; (case hbv => simp [Act.eval, Act.put])) | (refine v_build rfl rfl (bld_ask2 6 g.c.va) ?hbv ?_; (case hbv => simp [Act.eval, Act.put])) | (refine v_fill rfl rfl row_ask rfl rfl hM.at0 (akl_vs _ _ _ _) rfl ?_; intro u hv hc; replace hM := hM.put0 hc hv; clear hv hc)) | go_values | go_skip | go_guarded | go_step | go_upon | (simp only [Int.not_lt, Int.not_le] at *; go_simp))
    refine (HD.out _ _ _).mono ?_
    rintro e u1 ⟨rfl, hb⟩
    replace hM := hM.call hb
    repeat' (first | (go_big_may; first | (refine v_fill rfl rfl row_ask rfl rfl hM.at0 (akl_vs _ _ _ _) rfl ?_; intro u hv hc; replace hM := hM.put0 hc hv; clear hv hc)) | go_values | go_skip | go_guarded | go_step | go_upon | (simp only [Int.not_lt, Int.not_le] at *; go_simp))
    exact bodyPost_ret (ret_1 rfl rfl (ld_var row_ask hM.at0 rfl)) rfl ⟨rfl, hM.below⟩
  skip
  rw [askG g 7 h7]
  go_enter Try.func25, Try.ntmps25
  repeat' (first | (go_big_may; first | (refine v_box rfl rfl rfl ?_; intro u zg hN; replace hM := hM.new hN; clear hN) | (refine v_alloc rfl zer_ask rfl ?_; intro u za hN; replace hM := hM.new hN; clear hN) | (refine v_get rfl rfl lod_int rfl hM.at1 (v := .int .i64 7) (by rw [← h7]; rfl) ?_) | (refine v_get rfl rfl (by first | exact lod_int | exact lod_str | exact lod_fcs | exact lod_err) rfl hM.at1 rfl ?_) | (refine v_build rfl rfl (bld_ask2 4 g.ad) ?hbv ?_; (case hbv => simp [Act.eval, Act.put])) | (refine v_build rfl rfl (bld_ask2 6 g.c.va) ?hbv ?_; (case hbv => simp [Act.eval, Act.put])) | (refine v_fill rfl rfl row_ask rfl rfl hM.at0 (akl_vs _ _ _ _) rfl ?_; intro u hv hc; replace hM := hM.put0 hc hv; clear hv hc)) | go_values | go_skip | go_guarded | go_step | go_upon | (simp only [Int.not_lt, Int.not_le] at *; go_simp))
  exact bodyPost_ret (ret_1 rfl rfl (ld_var row_ask hM.at0 rfl)) rfl ⟨rfl, hM.below⟩
end Go.Proofs.Ytonheibhbilhhaa.greet
