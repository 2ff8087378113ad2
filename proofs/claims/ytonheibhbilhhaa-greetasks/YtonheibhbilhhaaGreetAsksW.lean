/- GreetAsks: the walk. -/
import Derived.Test.YtonheibhbilhhaaGreRa
import Derived.Test.YtonheibhbilhhaaGreBn
import Derived.Test.YtonheibhbilhhaaGreO
namespace Go.Proofs.Ytonheibhbilhhaa.greetAsks
open Go Go.RowKit Go.PlainAid Go.Proofs.Ytonheibhbilhhaa.desc Go.Proofs.Ytonheibhbilhhaa.greet
open Go.Proofs.Ytonheibhbilhhaa.setup (inS)
set_option linter.unusedVariables false
set_option linter.unusedSimpArgs false
set_option maxRecDepth 100000

set_option maxHeartbeats 8000000 in
theorem walk (a : Int) (g : Gr) (c : Value) (L : FL) (wa : (Lit.int .i64 a).wf = true) (w : World) (hp : Rg w g c L) :
    Calls Try.prog 3 #[.int .i64 a, grV g c] w fun e w' => e = .returned (.bool true) ∧ Below w.heap.size w w' := by
  have HN : Hid (∀ u, Calls Try.prog 8 #[.int .i64 a] u fun e w' => e = .returned (.tuple #[grV (if adB a = true then nwG a else noGr) nilS, .int .i64 (if adB a = true then 0 else 1)]) ∧ Below u.heap.size u w') := fun u => new_any a u
  have HB : Hid (∀ u, Calls Try.prog 9 #[.int .i64 a, .int .i64 1, .int .i64 127] u fun e w' => e = .returned (.bool (adB a)) ∧ u = w') := fun u => rbetween_any a 1 127 u
  have HX : Hid (∀ u, Calls Try.prog 10 #[grV g c] u fun e w' => e = .returned (.tuple #[.string (nxT g), .int .i64 (nxE g)]) ∧ Below u.heap.size u w') := fun u => next_any g c u
  have HG : Hid (∀ u, Calls Try.prog 11 #[grV g c] u fun e w' => e = .returned (.bool (okG g)) ∧ Below u.heap.size u w') := fun u => rGreeting_any g c u
  have HA : Hid (okG g = true → ∀ u, Calls Try.prog 12 #[grV g c] u fun e w' => e = .returned (.tuple #[.string (nxT g), .bool (decide (g.st < 8))]) ∧ Below u.heap.size u w') := fun h u => rAskAt_any g c u h
  have HS : Hid (∀ (k : Gr) u, k.c = noC → Calls Try.prog 13 #[grV k nilS, grV k nilS] u fun e w' => e = .returned (.bool true) ∧ Below u.heap.size u w') := fun k u hk => sameGr_any k nilS nilS [] [] u (by rw [hk]; exact rc_nil u) (by rw [hk]; exact rc_nil u)
  have HE : Hid (okG g = false → nxT g = ⟨#[]⟩ ∧ nxE g = 1) := fun h => by unfold nxT nxE; rw [if_pos h, if_pos h]; exact ⟨rfl, rfl⟩
  have HE2 : Hid (okG g = true → g.st < 8 → nxE g = 0) := fun h h8 => by unfold nxE; rw [if_neg (by rw [h]; decide), if_neg (by omega)]
  have HE3 : Hid (okG g = true → ¬ g.st < 8 → nxE g = 12) := fun h h8 => by unfold nxE; rw [if_neg (by rw [h]; decide), if_pos (by omega)]
  have hM := Mm.nil w
  clear hp wa
  cases hz : adB a
  all_goals
    rw [hz] at HN HB
    simp only [Bool.false_eq_true, if_false, if_true] at HN
    go_enter Try.func3, Try.ntmps3
    repeat' (first | (go_big_may; first | (refine v_box rfl rfl rfl ?_; intro u zg hN; replace hM := hM.new hN; clear hN)) | go_values | go_skip | go_guarded | go_step | go_upon | (simp only [Int.not_lt, Int.not_le] at *; go_simp))
    refine (HN.out _).mono ?_
    rintro e u1 ⟨rfl, hb⟩
    replace hM := hM.call hb
    clear hb
    repeat' (first | (go_big_may; first | (refine v_alloc rfl zer_greeting rfl ?_; intro u za hN; replace hM := hM.new hN; clear hN) | (refine v_fill rfl rfl row_greeting rfl rfl hM.at0 (grl_vs _ rfl) rfl ?_; intro u hv hc; replace hM := hM.put0 hc hv; clear hv hc) | (refine v_build rfl rfl bld_gr0 ?hbv ?_; (case hbv => simp [Act.eval, Act.put]))) | go_values | go_skip | go_guarded | go_step | go_upon | (simp only [Int.not_lt, Int.not_le] at *; go_simp))
    refine (HB.out _).mono ?_
    rintro e u2 ⟨rfl, rfl⟩
    repeat' (first | (go_big_may; first | (refine v_build rfl rfl (bld_grn a) ?hbv ?_; (case hbv => simp [Act.eval, Act.put])) | (refine v_fill rfl rfl row_greeting rfl rfl hM.at0 (grl_vs _ rfl) rfl ?_; intro u hv hc; replace hM := hM.put0 hc hv; clear hv hc) | (refine v_load rfl rfl row_greeting rfl hM.at2 (Nat.le_refl _) (cut_all rfl) ?_)) | go_values | go_skip | go_guarded | go_step | go_upon | (simp only [Int.not_lt, Int.not_le] at *; go_simp))
    refine (HX.out _).mono ?_
    rintro e u3 ⟨rfl, hb⟩
    replace hM := hM.call hb
    clear hb
    repeat' (first | (go_big_may; first | (refine v_load rfl rfl row_greeting rfl hM.at2 (Nat.le_refl _) (cut_all rfl) ?_)) | go_values | go_skip | go_guarded | go_step | go_upon | (simp only [Int.not_lt, Int.not_le] at *; go_simp))
    refine (HG.out _).mono ?_
    rintro e u4 ⟨rfl, hb⟩
    replace hM := hM.call hb
    clear hb
    cases ho : okG g
    · have h1 := HE.out ho
      obtain ⟨h1, h2⟩ := h1
      rw [h1, h2]
      clear h1 h2 ho
      repeat' (first | (go_big_may; first | (refine v_load rfl rfl row_greeting rfl hM.at1 (Nat.le_refl _) (cut_all rfl) ?_) | (refine v_load rfl rfl row_greeting rfl hM.at0 (Nat.le_refl _) (cut_all rfl) ?_)) | go_values | go_skip | go_guarded | go_step | go_upon | (simp only [Int.not_lt, Int.not_le] at *; go_simp))
      refine (HS.out _ _ rfl).mono ?_
      rintro e u5 ⟨rfl, hb⟩
      replace hM := hM.call hb
      clear hb
      repeat' (first | (go_big_may; first | (refine v_get rfl rfl (by first | exact lod_int | exact lod_str | exact lod_fcs | exact lod_err) rfl hM.at0 rfl ?_)) | go_values | go_skip | go_guarded | go_step | go_upon | (simp only [Int.not_lt, Int.not_le] at *; go_simp))
      go_ret
      exact ⟨rfl, hM.below⟩
    · have HA2 : Hid (∀ u, Calls Try.prog 12 #[grV g c] u fun e w' => e = .returned (.tuple #[.string (nxT g), .bool (decide (g.st < 8))]) ∧ Below u.heap.size u w') := HA.out ho
      by_cases h8 : g.st < 8
      · have h2 := HE2.out ho h8
        rw [decide_eq_true h8] at HA2
        rw [h2]
        clear h2 ho h8
        repeat' (first | (go_big_may; first | (refine v_load rfl rfl row_greeting rfl hM.at2 (Nat.le_refl _) (cut_all rfl) ?_)) | go_values | go_skip | go_guarded | go_step | go_upon | (simp only [Int.not_lt, Int.not_le] at *; go_simp))
        refine (HA2.out _).mono ?_
        rintro e u5 ⟨rfl, hb⟩
        replace hM := hM.call hb
        clear hb
        repeat' (first | (go_big_may; first | (refine v_load rfl rfl row_greeting rfl hM.at1 (Nat.le_refl _) (cut_all rfl) ?_) | (refine v_load rfl rfl row_greeting rfl hM.at0 (Nat.le_refl _) (cut_all rfl) ?_)) | go_values | go_skip | go_guarded | go_step | go_upon | (simp only [Int.not_lt, Int.not_le] at *; go_simp))
        refine (HS.out _ _ rfl).mono ?_
        rintro e u6 ⟨rfl, hb⟩
        replace hM := hM.call hb
        clear hb
        repeat' (first | (go_big_may; first | (refine v_get rfl rfl (by first | exact lod_int | exact lod_str | exact lod_fcs | exact lod_err) rfl hM.at0 rfl ?_)) | go_values | go_skip | go_guarded | go_step | go_upon | (simp only [Int.not_lt, Int.not_le] at *; go_simp))
        go_ret
        exact ⟨rfl, hM.below⟩
      · have h2 := HE3.out ho (by omega)
        rw [decide_eq_false h8] at HA2
        rw [h2]
        clear h2 ho h8
        repeat' (first | (go_big_may; first | (refine v_load rfl rfl row_greeting rfl hM.at2 (Nat.le_refl _) (cut_all rfl) ?_)) | go_values | go_skip | go_guarded | go_step | go_upon | (simp only [Int.not_lt, Int.not_le] at *; go_simp))
        refine (HA2.out _).mono ?_
        rintro e u5 ⟨rfl, hb⟩
        replace hM := hM.call hb
        clear hb
        repeat' (first | (go_big_may; first | (refine v_load rfl rfl row_greeting rfl hM.at1 (Nat.le_refl _) (cut_all rfl) ?_) | (refine v_load rfl rfl row_greeting rfl hM.at0 (Nat.le_refl _) (cut_all rfl) ?_)) | go_values | go_skip | go_guarded | go_step | go_upon | (simp only [Int.not_lt, Int.not_le] at *; go_simp))
        refine (HS.out _ _ rfl).mono ?_
        rintro e u6 ⟨rfl, hb⟩
        replace hM := hM.call hb
        clear hb
        repeat' (first | (go_big_may; first | (refine v_get rfl rfl (by first | exact lod_int | exact lod_str | exact lod_fcs | exact lod_err) rfl hM.at0 rfl ?_)) | go_values | go_skip | go_guarded | go_step | go_upon | (simp only [Int.not_lt, Int.not_le] at *; go_simp))
        go_ret
        exact ⟨rfl, hM.below⟩
end Go.Proofs.Ytonheibhbilhhaa.greetAsks
