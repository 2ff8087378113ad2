/- greet: small functions: Next, New. -/
import Derived.Test.YtonheibhbilhhaaGreB
namespace Go.Proofs.Ytonheibhbilhhaa.greet
open Go Go.RowKit Go.PlainAid Go.Proofs.Ytonheibhbilhhaa.lane Go.Proofs.Ytonheibhbilhhaa.desc
open Go.Proofs.Ytonheibhbilhhaa.setup (inS inS_iff wrT wrC good txt)
set_option linter.unusedVariables false
set_option linter.unusedSimpArgs false
set_option maxRecDepth 100000

set_option maxHeartbeats 4000000 in
theorem next_any (g : Gr) (u : Value) (w : World) : Calls Try.prog 10 #[grV g u] w fun e w' => e = .returned (.tuple #[.string (nxT g), .int .i64 (nxE g)]) ∧ Below w.heap.size w w' := by
  have HR : Hid (∀ w, Calls Try.prog 23 #[grV g u] w fun e w' => e = .returned (.bool (okG g)) ∧ Below w.heap.size w w') := fun w => isRight_any g u w
  have hM := Mm.nil w
  unfold nxT nxE
  by_cases h : okG g = false
  · rw [h] at HR
    rw [if_pos h, if_pos h]
    go_enter Try.func10, Try.ntmps10
    repeat' (first | (go_big_may; first | (refine v_box rfl rfl rfl ?_; intro u zg hN; replace hM := hM.new hN; clear hN) | (refine v_load rfl rfl row_greeting rfl hM.at0 (Nat.le_refl _) (cut_all rfl) ?_)) | go_values | go_skip | go_guarded | go_step | go_upon | (simp only [Int.not_lt, Int.not_le] at *; go_simp))
    refine (HR.out _).mono ?_
    rintro e u1 ⟨rfl, hb⟩
    replace hM := hM.call hb
    repeat' (first | go_values | go_skip | go_guarded | go_step | go_upon | (simp only [Int.not_lt, Int.not_le] at *; go_simp))
    go_ret2
    exact ⟨rfl, hM.below⟩
  have h1 : okG g = true := by simpa using h
  rw [h1] at HR
  rw [if_neg h, if_neg h]
  by_cases h8 : 8 ≤ g.st
  · rw [if_pos h8, if_pos h8]
    have h9 := ((okG_iff g).1 h1).1.2
    have h89 : g.st = 8 ∨ g.st = 9 := by omega
    clear h h1 h8 h9
    rcases h89 with h89 | h89
    all_goals
      go_enter Try.func10, Try.ntmps10
      repeat' (first | (go_big_may; first | (refine v_box rfl rfl rfl ?_; intro u zg hN; replace hM := hM.new hN; clear hN) | (refine v_load rfl rfl row_greeting rfl hM.at0 (Nat.le_refl _) (cut_all rfl) ?_)) | go_values | go_skip | go_guarded | go_step | go_upon | (simp only [Int.not_lt, Int.not_le] at *; go_simp))
      refine (HR.out _).mono ?_
      rintro e u1 ⟨rfl, hb⟩
      replace hM := hM.call hb
      repeat' (first | (go_big_may; first | (refine v_get rfl rfl lod_int rfl hM.at0 (v := .int .i64 8) (by rw [← h89]; rfl) ?_) | (refine v_get rfl rfl lod_int rfl hM.at0 (v := .int .i64 9) (by rw [← h89]; rfl) ?_)) | go_values | go_skip | go_guarded | go_step | go_upon | (simp only [Int.not_lt, Int.not_le] at *; go_simp))
      go_ret2
      exact ⟨rfl, hM.below⟩
  · rw [if_neg h8, if_neg h8]
    have HK : Hid (∀ w, Calls Try.prog 25 #[grV g u] w fun e w' => e = .returned (ag (akl (askK g) (askV g) 0 (askL g))) ∧ Below w.heap.size w w') := fun w => askAt_any g u w h1 h8
    have HW : Hid (∀ w, Calls Try.prog 24 #[ag (akl (askK g) (askV g) 0 (askL g))] w fun e w' => e = .returned (.tuple #[.string (wrT (askK g) (askV g) 0 (askL g)), .int .i64 0]) ∧ Below w.heap.size w w') := fun w => by
      have := setup.write_any (askK g) (askV g) 0 (askL g) (by omega) w
      have hg := ask_good h1 h8
      unfold wrC at this
      rw [if_pos hg] at this
      exact this
    have e8 : (g.st == 8) = false := by simp; omega
    have e9 : (g.st == 9) = false := by simp; have := st_seven h1 h8; omega
    clear h h1 h8
    go_enter Try.func10, Try.ntmps10
    repeat' (first | (go_big_may; first | (refine v_box rfl rfl rfl ?_; intro u zg hN; replace hM := hM.new hN; clear hN) | (refine v_load rfl rfl row_greeting rfl hM.at0 (Nat.le_refl _) (cut_all rfl) ?_)) | go_values | go_skip | go_guarded | go_step | go_upon | (simp only [Int.not_lt, Int.not_le] at *; go_simp))
    refine (HR.out _).mono ?_
    rintro e u1 ⟨rfl, hb⟩
    replace hM := hM.call hb
    repeat' (first | (go_big_may; first | (refine v_get rfl rfl (by first | exact lod_int | exact lod_str | exact lod_fcs | exact lod_err) rfl hM.at0 rfl ?_) | (refine v_load rfl rfl row_greeting rfl hM.at0 (Nat.le_refl _) (cut_all rfl) ?_)) | go_values | go_skip | go_guarded | go_step | go_upon | (simp only [Int.not_lt, Int.not_le] at *; go_simp))
    refine (HK.out _).mono ?_
    rintro e u2 ⟨rfl, hb⟩
    replace hM := hM.call hb
    repeat' (first | go_values | go_skip | go_guarded | go_step | go_upon | (simp only [Int.not_lt, Int.not_le] at *; go_simp))
    refine (HW.out _).mono ?_
    rintro e u3 ⟨rfl, hb⟩
    replace hM := hM.call hb
    repeat' (first | go_values | go_skip | go_guarded | go_step | go_upon | (simp only [Int.not_lt, Int.not_le] at *; go_simp))
    go_ret2
    exact ⟨rfl, hM.below⟩
set_option maxHeartbeats 1000000 in
theorem new_any (a : Int) (w : World) : Calls Try.prog 8 #[.int .i64 a] w fun e w' => e = .returned (.tuple #[grV (if adB a = true then nwG a else noGr) nilS, .int .i64 (if adB a = true then 0 else 1)]) ∧ Below w.heap.size w w' := by
  have HA : Hid (∀ w, Calls Try.prog 22 #[.int .i64 a] w fun e w' => e = .returned (.bool (adB a)) ∧ w = w') := fun w => isAddr_any _ w
  have hM := Mm.nil w
  cases h : adB a
  all_goals
    rw [h] at HA
    go_enter Try.func8, Try.ntmps8
    repeat' (first | (go_big_may; first | (refine v_alloc rfl zer_greeting rfl ?_; intro u zg hN; replace hM := hM.new hN; clear hN)) | go_values | go_skip | go_guarded | go_step | go_upon | (simp only [Int.not_lt, Int.not_le] at *; go_simp))
    refine (HA.out _).mono ?_
    rintro e u1 ⟨rfl, rfl⟩
    repeat' (first | (go_big_may; first | (refine v_build rfl rfl (bld_gr0) ?hbv ?_; (case hbv => simp [Act.eval, Act.put])) | (refine v_build rfl rfl (bld_grn a) ?hbv ?_; (case hbv => simp [Act.eval, Act.put])) | (refine v_fill rfl rfl row_greeting rfl rfl hM.at0 (grl_vs _ rfl) rfl ?_; intro u hv hc; replace hM := hM.put0 hc hv; clear hv hc)) | go_values | go_skip | go_guarded | go_step | go_upon | (simp only [Int.not_lt, Int.not_le] at *; go_simp))
    exact bodyPost_ret (ret_2 rfl rfl (ld_var row_greeting hM.at0 rfl) rfl) rfl ⟨rfl, hM.below⟩
end Go.Proofs.Ytonheibhbilhhaa.greet
