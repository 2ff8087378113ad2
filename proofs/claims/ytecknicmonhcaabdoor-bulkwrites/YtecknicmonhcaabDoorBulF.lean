/- bulk: what Judge answers. (Written by tools/genbulf.py.) -/
import Derived.Test.YtecknicmonhcaabDoorBulB
namespace Go.Proofs.YtecknicmonhcaabDoor.bulk
open Go Go.RowKit Go.PlainAid Go.Proofs.YtecknicmonhcaabDoor.lane Go.Proofs.YtecknicmonhcaabDoor.pipe Go.Proofs.YtecknicmonhcaabDoor.strike
set_option linter.unusedVariables false
set_option linter.unusedSimpArgs false
set_option maxRecDepth 100000

theorem ivs_vs (l : List Int) : Vs (ivs l) l.length := ⟨by simp [ivs], fun v hv => by obtain ⟨x, _, rfl⟩ := List.mem_map.1 hv; rfl⟩
theorem row_tab : Row 88 9 := ⟨⟨_, Tryd.underlying88, rfl, by kernel_rfl⟩⟩
theorem zer_tab : Zer 88 (ivs [0, 0, 0, 0, 0, 0, 0, 0, 0]) := ⟨by kernel_rfl⟩
theorem bld_one (a b c : Int) (w : World) : (Instr.build 87 #[(0, .int .i64 a), (1, .int .i64 b), (2, .int .i64 c)]).run Tryd.prog w = .ok (ag (ivs [a, b, c])) w := by kernel_rfl
theorem bld_tab (w : World) : (Instr.build 88 #[(0, ag (ivs [1, 2, 3])), (1, ag (ivs [4, 6, 8])), (2, ag (ivs [9, 10, 12]))]).run Tryd.prog w = .ok (ag (ivs [1, 2, 3, 4, 6, 8, 9, 10, 12])) w := by kernel_rfl
theorem nan_any (x : Int) (w : World) : Calls Tryd.prog 60 #[.int .i64 x] w fun e w' => e = .returned (.bool false) ∧ w = w' := by
  go_enter Tryd.func60, Tryd.ntmps60
  go_wp2
  go_ret
  exact ⟨rfl, rfl⟩
set_option maxHeartbeats 2000000 in
theorem cmp_any (x y : Int) (w : World) : Calls Tryd.prog 42 #[.int .i64 x, .int .i64 y] w fun e w' => e = .returned (.int .i64 (cmpI x y)) ∧ w = w' := by
  have H : Hid (∀ z u, Calls Tryd.prog 60 #[.int .i64 z] u fun e w' => e = .returned (.bool false) ∧ u = w') := fun z u => nan_any z u
  unfold cmpI
  by_cases h1 : x < y
  · rw [if_pos h1]
    go_enter Tryd.func42, Tryd.ntmps42
    go_wp2_with fail
    refine (H.out _ _).mono ?_
    rintro e u ⟨rfl, rfl⟩
    go_wp2_with fail
    refine (H.out _ _).mono ?_
    rintro e u ⟨rfl, rfl⟩
    clear H
    go_wp2
    go_ret
    exact ⟨rfl, rfl⟩
  rw [if_neg h1]
  by_cases h2 : y < x
  · rw [if_pos h2]
    go_enter Tryd.func42, Tryd.ntmps42
    go_wp2_with fail
    refine (H.out _ _).mono ?_
    rintro e u ⟨rfl, rfl⟩
    go_wp2_with fail
    refine (H.out _ _).mono ?_
    rintro e u ⟨rfl, rfl⟩
    clear H
    go_wp2
    go_ret
    exact ⟨rfl, rfl⟩
  rw [if_neg h2]
  go_enter Tryd.func42, Tryd.ntmps42
  go_wp2_with fail
  refine (H.out _ _).mono ?_
  rintro e u ⟨rfl, rfl⟩
  go_wp2_with fail
  refine (H.out _ _).mono ?_
  rintro e u ⟨rfl, rfl⟩
  clear H
  go_wp2
  go_ret
  exact ⟨rfl, rfl⟩
theorem isMove_any (m : Mv) (w : World) : Calls Tryd.prog 27 #[ag (mvl m)] w fun e w' => e = .returned (.bool (mvB m)) ∧ Below w.heap.size w w' := by
  have HL : Hid (∀ u, Calls Tryd.prog 13 #[.int .i64 m.len] u fun e w' => e = .returned (.bool (lgB m.len)) ∧ u = w') := fun u => isLong_any m.len u
  have hM := Mm.nil w
  obtain ⟨d, n⟩ := m
  by_cases h0 : d = 0
  · subst h0
    have HE : Hid (mvB ⟨0, n⟩ = (n == 0)) := by show _ = _; unfold mvB; by_cases q : n = 0 <;> simp [q]
    rw [HE.out]
    go_enter Tryd.func27, Tryd.ntmps27
    repeat' (first | (go_big_may; first | (refine v_box rfl rfl rfl ?_; intro u zm hN; replace hM := hM.new hN; clear hN) | (refine v_get rfl rfl (by first | exact lod_int | exact lod_str | exact lod_fcs | exact lod_err | exact lod_bool | exact lod_txs) rfl hM.at0 rfl ?_)) | go_values | go_skip | go_guarded | go_step | go_upon | (simp only [Int.not_lt, Int.not_le] at *; go_simp))
    go_ret
    exact ⟨rfl, hM.below⟩
  have e0 : (d == 0) = false := by simpa using h0
  by_cases h12 : d = 1 ∨ d = 2
  · have HE : Hid (mvB ⟨d, n⟩ = (!(n == 0) && lgB n)) := by
      show _ = _
      unfold mvB lgB
      have : (decide (d = 1) || decide (d = 2)) = true := by simpa using h12
      show ((decide (d = 0) && decide (n = 0)) || ((decide (d = 1) || decide (d = 2)) && (decide (1 ≤ n) && decide (n ≤ 4294967295)))) = _
      rw [this, decide_eq_false h0, Bool.false_and, Bool.false_or, Bool.true_and]
      have e3 : decide (1 ≤ n) = (!(n == 0) && decide (0 ≤ n)) := by
        by_cases q : n = 0
        · simp [q]
        · rw [show (n == 0) = false by simpa using q, Bool.not_false, Bool.true_and]
          exact decide_eq_decide.2 (by omega)
      rw [e3, Bool.and_assoc]
    rw [HE.out]
    rcases h12 with rfl | rfl
    all_goals
      by_cases q : n = 0
      · subst q
        clear HL
        go_enter Tryd.func27, Tryd.ntmps27
        repeat' (first | (go_big_may; first | (refine v_box rfl rfl rfl ?_; intro u zm hN; replace hM := hM.new hN; clear hN) | (refine v_get rfl rfl (by first | exact lod_int | exact lod_str | exact lod_fcs | exact lod_err | exact lod_bool | exact lod_txs) rfl hM.at0 rfl ?_)) | go_values | go_skip | go_guarded | go_step | go_upon | (simp only [Int.not_lt, Int.not_le] at *; go_simp))
        go_ret
        exact ⟨rfl, hM.below⟩
      · have e1 : (n == 0) = false := by simpa using q
        have e2 : (n != 0) = true := by simpa using q
        rw [e1]
        clear q
        go_enter Tryd.func27, Tryd.ntmps27
        repeat' (first | (go_big_may; first | (refine v_box rfl rfl rfl ?_; intro u zm hN; replace hM := hM.new hN; clear hN) | (refine v_get rfl rfl (by first | exact lod_int | exact lod_str | exact lod_fcs | exact lod_err | exact lod_bool | exact lod_txs) rfl hM.at0 rfl ?_)) | go_values | go_skip | go_guarded | go_step | go_upon | (simp only [Int.not_lt, Int.not_le] at *; go_simp))
        refine (HL.out _).mono ?_
        rintro e u1 ⟨rfl, rfl⟩
        clear HL
        repeat' (first | go_values | go_skip | go_guarded | go_step | go_upon | (simp only [Int.not_lt, Int.not_le] at *; go_simp))
        go_ret
        exact ⟨rfl, hM.below⟩
  · have HE : Hid (mvB ⟨d, n⟩ = false) := by
      show _ = _
      unfold mvB
      have : (decide (d = 1) || decide (d = 2)) = false := by simpa using h12
      simp [h0, this]
    rw [HE.out]
    have e1 : (d == 1) = false := by simp; omega
    have e2 : (d == 2) = false := by simp; omega
    clear h0 h12 HL
    go_enter Tryd.func27, Tryd.ntmps27
    repeat' (first | (go_big_may; first | (refine v_box rfl rfl rfl ?_; intro u zm hN; replace hM := hM.new hN; clear hN) | (refine v_get rfl rfl (by first | exact lod_int | exact lod_str | exact lod_fcs | exact lod_err | exact lod_bool | exact lod_txs) rfl hM.at0 rfl ?_)) | go_values | go_skip | go_guarded | go_step | go_upon | (simp only [Int.not_lt, Int.not_le] at *; go_simp))
    go_ret
    exact ⟨rfl, hM.below⟩
set_option maxHeartbeats 2000000 in
theorem case_00 (w : World) : Calls Tryd.prog 28 #[ag (mvl ⟨0, 0⟩), ag (mvl ⟨0, 0⟩)] w fun e w' => e = .returned (.int .i64 (1 + cmpI 0 0)) ∧ Below w.heap.size w w' := by
  have hM := Mm.nil w
  have hq := cmp_val 0 0
  have HC : Hid (∀ u, Calls Tryd.prog 42 #[.int .i64 0, .int .i64 0] u fun e w' => e = .returned (.int .i64 (cmpI 0 0)) ∧ u = w') := fun u => cmp_any 0 0 u
  generalize cmpI 0 0 = q at *
  have hq1 : -1 ≤ q := by omega
  have hq2 : q ≤ 1 := by omega
  clear hq
  go_enter Tryd.func28, Tryd.ntmps28
  repeat' (first | (go_big_may; first | (refine v_box rfl rfl rfl ?_; intro u za hN; replace hM := Mm.new (L := []) hM hN; clear hN) | (refine v_box rfl rfl rfl ?_; intro u zb hN; replace hM := hM.new hN; clear hN) | (refine v_build rfl rfl (bld_one 1 2 3) ?hbv ?_; (case hbv => simp [Act.eval, Act.put])) | (refine v_build rfl rfl (bld_one 4 6 8) ?hbv ?_; (case hbv => simp [Act.eval, Act.put])) | (refine v_build rfl rfl (bld_one 9 10 12) ?hbv ?_; (case hbv => simp [Act.eval, Act.put])) | (refine v_build rfl rfl bld_tab ?hbv ?_; (case hbv => simp [Act.eval, Act.put])) | (refine v_alloc rfl zer_tab rfl ?_; intro u zt hN; replace hM := hM.new hN; clear hN) | (refine v_fill rfl rfl row_tab rfl rfl hM.at0 (ivs_vs [1, 2, 3, 4, 6, 8, 9, 10, 12]) rfl ?_; intro u hv hc; replace hM := hM.put0 hc hv; clear hv hc)) | go_values | go_skip | go_guarded | go_step | go_upon | (simp only [Int.not_lt, Int.not_le] at *; go_simp))
  refine reg.wp_abs (fun a0 => a0.tmps.size = 31 ∧ (∀ h, a0.tmps[2]'h = .pointer (some ⟨za, 0, none⟩)) ∧ (∀ h, a0.tmps[3]'h = .pointer (some ⟨zb, 0, none⟩)) ∧ (∀ h, a0.tmps[5]'h = .pointer (some ⟨zt, 0, none⟩))) ⟨rfl, fun _ => rfl, fun _ => rfl, fun _ => rfl⟩ ?_
  rintro a0 ⟨hsz, s2, s3, s5⟩ ha0
  refine reg.wp_region_E (S := fun W => Ls W [(zt, 88, (ivs [1, 2, 3, 4, 6, 8, 9, 10, 12])), (zb, 48, (mvl ⟨0, 0⟩)), (za, 48, (mvl ⟨0, 0⟩))]) (E := fun _ => false) (by kernel_rfl) ?_
  replace hM := hM.drew
  refine reg.e_take (i := 0) (.pointer (some ⟨za, 0, none⟩)) rfl (by kernel_rfl) (by kernel_rfl) (by kernel_rfl) (by kernel_rfl) (fun _ _ _ h => h) (reg.wanted_none rfl) (hM.ls (by simp)) (fun W hW => by simp [execOp, go_sem, Act.put, hsz, s2, s3, s5]) ?_
  refine reg.e_take (i := 1) (.int .i64 0) rfl (by kernel_rfl) (by kernel_rfl) (by kernel_rfl) (by kernel_rfl) (fun _ _ _ h => h) (reg.wanted_none rfl) (hM.ls (by simp)) (fun W hW => ex_get rfl (by simp [go_sem, Act.put, hsz, s2, s3, s5]) hW.at2 (show (mvl ⟨0, 0⟩)[0]? = some _ from rfl)) ?_
  refine reg.e_take (i := 2) (.pointer (some ⟨zb, 0, none⟩)) rfl (by kernel_rfl) (by kernel_rfl) (by kernel_rfl) (by kernel_rfl) (fun _ _ _ h => h) (reg.wanted_none rfl) (hM.ls (by simp)) (fun W hW => by simp [execOp, go_sem, Act.put, hsz, s2, s3, s5]) ?_
  refine reg.e_take (i := 3) (.int .i64 0) rfl (by kernel_rfl) (by kernel_rfl) (by kernel_rfl) (by kernel_rfl) (fun _ _ _ h => h) (reg.wanted_none rfl) (hM.ls (by simp)) (fun W hW => ex_get rfl (by simp [go_sem, Act.put, hsz, s2, s3, s5]) hW.at1 (show (mvl ⟨0, 0⟩)[0]? = some _ from rfl)) ?_
  refine reg.e_take (i := 4) (.pointer (some ⟨zt, 0, none⟩)) rfl (by kernel_rfl) (by kernel_rfl) (by kernel_rfl) (by kernel_rfl) (fun _ _ _ h => h) (reg.wanted_none rfl) (hM.ls (by simp)) (fun W hW => by simp [execOp, go_sem, Act.put, hsz, s2, s3, s5]) ?_
  refine reg.e_take (i := 5) (.pointer (some ⟨zt, 0, none⟩)) rfl (by kernel_rfl) (by kernel_rfl) (by kernel_rfl) (by kernel_rfl) (fun _ _ _ h => h) (reg.wanted_none rfl) (hM.ls (by simp)) (fun W hW => by simp [execOp, go_sem, Act.put, hsz, s2, s3, s5]) ?_
  refine reg.e_take (i := 6) (.int .i64 1) rfl (by kernel_rfl) (by kernel_rfl) (by kernel_rfl) (by kernel_rfl) (fun _ _ _ h => h) (reg.wanted_none rfl) (hM.ls (by simp)) (fun W hW => ex_get rfl (by simp [go_sem, Act.put, hsz, s2, s3, s5]) hW.at0 (show (ivs [1, 2, 3, 4, 6, 8, 9, 10, 12])[0]? = some _ from rfl)) ?_
  refine reg.e_take (i := 7) (.int .i64 1) rfl (by kernel_rfl) (by kernel_rfl) (by kernel_rfl) (by kernel_rfl) (fun _ _ _ h => h) (reg.wanted_none rfl) (hM.ls (by simp)) (fun W hW => by simp [execOp, go_sem, Act.put, hsz, s2, s3, s5]) ?_
  refine reg.e_done (by kernel_rfl) ?_ _
  subst ha0
  clear hsz s2 s3 s5
  go_simp
  repeat' (first | (go_big_may; first | (refine v_get rfl rfl (by first | exact lod_int | exact lod_str | exact lod_fcs | exact lod_err | exact lod_bool | exact lod_txs) rfl hM.at2 rfl ?_) | (refine v_get rfl rfl (by first | exact lod_int | exact lod_str | exact lod_fcs | exact lod_err | exact lod_bool | exact lod_txs) rfl hM.at1 rfl ?_)) | go_values | go_skip | go_guarded | go_step | go_upon | (simp only [Int.not_lt, Int.not_le] at *; go_simp))
  refine (HC.out _).mono ?_
  rintro e u1 ⟨rfl, rfl⟩
  clear HC
  repeat' (first | go_values | go_skip | go_guarded | go_step | go_upon | (simp only [Int.not_lt, Int.not_le] at *; go_simp))
  go_ret
  exact ⟨rfl, hM.below⟩
set_option maxHeartbeats 2000000 in
theorem case_01 (dl : Int) (w : World) : Calls Tryd.prog 28 #[ag (mvl ⟨0, 0⟩), ag (mvl ⟨1, dl⟩)] w fun e w' => e = .returned (.int .i64 2) ∧ Below w.heap.size w w' := by
  have hM := Mm.nil w
  go_enter Tryd.func28, Tryd.ntmps28
  repeat' (first | (go_big_may; first | (refine v_box rfl rfl rfl ?_; intro u za hN; replace hM := Mm.new (L := []) hM hN; clear hN) | (refine v_box rfl rfl rfl ?_; intro u zb hN; replace hM := hM.new hN; clear hN) | (refine v_build rfl rfl (bld_one 1 2 3) ?hbv ?_; (case hbv => simp [Act.eval, Act.put])) | (refine v_build rfl rfl (bld_one 4 6 8) ?hbv ?_; (case hbv => simp [Act.eval, Act.put])) | (refine v_build rfl rfl (bld_one 9 10 12) ?hbv ?_; (case hbv => simp [Act.eval, Act.put])) | (refine v_build rfl rfl bld_tab ?hbv ?_; (case hbv => simp [Act.eval, Act.put])) | (refine v_alloc rfl zer_tab rfl ?_; intro u zt hN; replace hM := hM.new hN; clear hN) | (refine v_fill rfl rfl row_tab rfl rfl hM.at0 (ivs_vs [1, 2, 3, 4, 6, 8, 9, 10, 12]) rfl ?_; intro u hv hc; replace hM := hM.put0 hc hv; clear hv hc)) | go_values | go_skip | go_guarded | go_step | go_upon | (simp only [Int.not_lt, Int.not_le] at *; go_simp))
  refine reg.wp_abs (fun a0 => a0.tmps.size = 31 ∧ (∀ h, a0.tmps[2]'h = .pointer (some ⟨za, 0, none⟩)) ∧ (∀ h, a0.tmps[3]'h = .pointer (some ⟨zb, 0, none⟩)) ∧ (∀ h, a0.tmps[5]'h = .pointer (some ⟨zt, 0, none⟩))) ⟨rfl, fun _ => rfl, fun _ => rfl, fun _ => rfl⟩ ?_
  rintro a0 ⟨hsz, s2, s3, s5⟩ ha0
  refine reg.wp_region_E (S := fun W => Ls W [(zt, 88, (ivs [1, 2, 3, 4, 6, 8, 9, 10, 12])), (zb, 48, (mvl ⟨1, dl⟩)), (za, 48, (mvl ⟨0, 0⟩))]) (E := fun _ => false) (by kernel_rfl) ?_
  replace hM := hM.drew
  refine reg.e_take (i := 0) (.pointer (some ⟨za, 0, none⟩)) rfl (by kernel_rfl) (by kernel_rfl) (by kernel_rfl) (by kernel_rfl) (fun _ _ _ h => h) (reg.wanted_none rfl) (hM.ls (by simp)) (fun W hW => by simp [execOp, go_sem, Act.put, hsz, s2, s3, s5]) ?_
  refine reg.e_take (i := 1) (.int .i64 0) rfl (by kernel_rfl) (by kernel_rfl) (by kernel_rfl) (by kernel_rfl) (fun _ _ _ h => h) (reg.wanted_none rfl) (hM.ls (by simp)) (fun W hW => ex_get rfl (by simp [go_sem, Act.put, hsz, s2, s3, s5]) hW.at2 (show (mvl ⟨0, 0⟩)[0]? = some _ from rfl)) ?_
  refine reg.e_take (i := 2) (.pointer (some ⟨zb, 0, none⟩)) rfl (by kernel_rfl) (by kernel_rfl) (by kernel_rfl) (by kernel_rfl) (fun _ _ _ h => h) (reg.wanted_none rfl) (hM.ls (by simp)) (fun W hW => by simp [execOp, go_sem, Act.put, hsz, s2, s3, s5]) ?_
  refine reg.e_take (i := 3) (.int .i64 1) rfl (by kernel_rfl) (by kernel_rfl) (by kernel_rfl) (by kernel_rfl) (fun _ _ _ h => h) (reg.wanted_none rfl) (hM.ls (by simp)) (fun W hW => ex_get rfl (by simp [go_sem, Act.put, hsz, s2, s3, s5]) hW.at1 (show (mvl ⟨1, dl⟩)[0]? = some _ from rfl)) ?_
  refine reg.e_take (i := 4) (.pointer (some ⟨zt, 0, none⟩)) rfl (by kernel_rfl) (by kernel_rfl) (by kernel_rfl) (by kernel_rfl) (fun _ _ _ h => h) (reg.wanted_none rfl) (hM.ls (by simp)) (fun W hW => by simp [execOp, go_sem, Act.put, hsz, s2, s3, s5]) ?_
  refine reg.e_take (i := 5) (.pointer (some ⟨zt, 1, none⟩)) rfl (by kernel_rfl) (by kernel_rfl) (by kernel_rfl) (by kernel_rfl) (fun _ _ _ h => h) (reg.wanted_none rfl) (hM.ls (by simp)) (fun W hW => by simp [execOp, go_sem, Act.put, hsz, s2, s3, s5]) ?_
  refine reg.e_take (i := 6) (.int .i64 2) rfl (by kernel_rfl) (by kernel_rfl) (by kernel_rfl) (by kernel_rfl) (fun _ _ _ h => h) (reg.wanted_none rfl) (hM.ls (by simp)) (fun W hW => ex_get rfl (by simp [go_sem, Act.put, hsz, s2, s3, s5]) hW.at0 (show (ivs [1, 2, 3, 4, 6, 8, 9, 10, 12])[1]? = some _ from rfl)) ?_
  refine reg.e_take (i := 7) (.int .i64 2) rfl (by kernel_rfl) (by kernel_rfl) (by kernel_rfl) (by kernel_rfl) (fun _ _ _ h => h) (reg.wanted_none rfl) (hM.ls (by simp)) (fun W hW => by simp [execOp, go_sem, Act.put, hsz, s2, s3, s5]) ?_
  refine reg.e_done (by kernel_rfl) ?_ _
  subst ha0
  clear hsz s2 s3 s5
  go_simp
  repeat' (first | (go_big_may; first | (refine v_get rfl rfl (by first | exact lod_int | exact lod_str | exact lod_fcs | exact lod_err | exact lod_bool | exact lod_txs) rfl hM.at2 rfl ?_) | (refine v_get rfl rfl (by first | exact lod_int | exact lod_str | exact lod_fcs | exact lod_err | exact lod_bool | exact lod_txs) rfl hM.at1 rfl ?_)) | go_values | go_skip | go_guarded | go_step | go_upon | (simp only [Int.not_lt, Int.not_le] at *; go_simp))
  go_ret
  exact ⟨rfl, hM.below⟩
set_option maxHeartbeats 2000000 in
theorem case_02 (dl : Int) (w : World) : Calls Tryd.prog 28 #[ag (mvl ⟨0, 0⟩), ag (mvl ⟨2, dl⟩)] w fun e w' => e = .returned (.int .i64 3) ∧ Below w.heap.size w w' := by
  have hM := Mm.nil w
  go_enter Tryd.func28, Tryd.ntmps28
  repeat' (first | (go_big_may; first | (refine v_box rfl rfl rfl ?_; intro u za hN; replace hM := Mm.new (L := []) hM hN; clear hN) | (refine v_box rfl rfl rfl ?_; intro u zb hN; replace hM := hM.new hN; clear hN) | (refine v_build rfl rfl (bld_one 1 2 3) ?hbv ?_; (case hbv => simp [Act.eval, Act.put])) | (refine v_build rfl rfl (bld_one 4 6 8) ?hbv ?_; (case hbv => simp [Act.eval, Act.put])) | (refine v_build rfl rfl (bld_one 9 10 12) ?hbv ?_; (case hbv => simp [Act.eval, Act.put])) | (refine v_build rfl rfl bld_tab ?hbv ?_; (case hbv => simp [Act.eval, Act.put])) | (refine v_alloc rfl zer_tab rfl ?_; intro u zt hN; replace hM := hM.new hN; clear hN) | (refine v_fill rfl rfl row_tab rfl rfl hM.at0 (ivs_vs [1, 2, 3, 4, 6, 8, 9, 10, 12]) rfl ?_; intro u hv hc; replace hM := hM.put0 hc hv; clear hv hc)) | go_values | go_skip | go_guarded | go_step | go_upon | (simp only [Int.not_lt, Int.not_le] at *; go_simp))
  refine reg.wp_abs (fun a0 => a0.tmps.size = 31 ∧ (∀ h, a0.tmps[2]'h = .pointer (some ⟨za, 0, none⟩)) ∧ (∀ h, a0.tmps[3]'h = .pointer (some ⟨zb, 0, none⟩)) ∧ (∀ h, a0.tmps[5]'h = .pointer (some ⟨zt, 0, none⟩))) ⟨rfl, fun _ => rfl, fun _ => rfl, fun _ => rfl⟩ ?_
  rintro a0 ⟨hsz, s2, s3, s5⟩ ha0
  refine reg.wp_region_E (S := fun W => Ls W [(zt, 88, (ivs [1, 2, 3, 4, 6, 8, 9, 10, 12])), (zb, 48, (mvl ⟨2, dl⟩)), (za, 48, (mvl ⟨0, 0⟩))]) (E := fun _ => false) (by kernel_rfl) ?_
  replace hM := hM.drew
  refine reg.e_take (i := 0) (.pointer (some ⟨za, 0, none⟩)) rfl (by kernel_rfl) (by kernel_rfl) (by kernel_rfl) (by kernel_rfl) (fun _ _ _ h => h) (reg.wanted_none rfl) (hM.ls (by simp)) (fun W hW => by simp [execOp, go_sem, Act.put, hsz, s2, s3, s5]) ?_
  refine reg.e_take (i := 1) (.int .i64 0) rfl (by kernel_rfl) (by kernel_rfl) (by kernel_rfl) (by kernel_rfl) (fun _ _ _ h => h) (reg.wanted_none rfl) (hM.ls (by simp)) (fun W hW => ex_get rfl (by simp [go_sem, Act.put, hsz, s2, s3, s5]) hW.at2 (show (mvl ⟨0, 0⟩)[0]? = some _ from rfl)) ?_
  refine reg.e_take (i := 2) (.pointer (some ⟨zb, 0, none⟩)) rfl (by kernel_rfl) (by kernel_rfl) (by kernel_rfl) (by kernel_rfl) (fun _ _ _ h => h) (reg.wanted_none rfl) (hM.ls (by simp)) (fun W hW => by simp [execOp, go_sem, Act.put, hsz, s2, s3, s5]) ?_
  refine reg.e_take (i := 3) (.int .i64 2) rfl (by kernel_rfl) (by kernel_rfl) (by kernel_rfl) (by kernel_rfl) (fun _ _ _ h => h) (reg.wanted_none rfl) (hM.ls (by simp)) (fun W hW => ex_get rfl (by simp [go_sem, Act.put, hsz, s2, s3, s5]) hW.at1 (show (mvl ⟨2, dl⟩)[0]? = some _ from rfl)) ?_
  refine reg.e_take (i := 4) (.pointer (some ⟨zt, 0, none⟩)) rfl (by kernel_rfl) (by kernel_rfl) (by kernel_rfl) (by kernel_rfl) (fun _ _ _ h => h) (reg.wanted_none rfl) (hM.ls (by simp)) (fun W hW => by simp [execOp, go_sem, Act.put, hsz, s2, s3, s5]) ?_
  refine reg.e_take (i := 5) (.pointer (some ⟨zt, 2, none⟩)) rfl (by kernel_rfl) (by kernel_rfl) (by kernel_rfl) (by kernel_rfl) (fun _ _ _ h => h) (reg.wanted_none rfl) (hM.ls (by simp)) (fun W hW => by simp [execOp, go_sem, Act.put, hsz, s2, s3, s5]) ?_
  refine reg.e_take (i := 6) (.int .i64 3) rfl (by kernel_rfl) (by kernel_rfl) (by kernel_rfl) (by kernel_rfl) (fun _ _ _ h => h) (reg.wanted_none rfl) (hM.ls (by simp)) (fun W hW => ex_get rfl (by simp [go_sem, Act.put, hsz, s2, s3, s5]) hW.at0 (show (ivs [1, 2, 3, 4, 6, 8, 9, 10, 12])[2]? = some _ from rfl)) ?_
  refine reg.e_take (i := 7) (.int .i64 3) rfl (by kernel_rfl) (by kernel_rfl) (by kernel_rfl) (by kernel_rfl) (fun _ _ _ h => h) (reg.wanted_none rfl) (hM.ls (by simp)) (fun W hW => by simp [execOp, go_sem, Act.put, hsz, s2, s3, s5]) ?_
  refine reg.e_done (by kernel_rfl) ?_ _
  subst ha0
  clear hsz s2 s3 s5
  go_simp
  repeat' (first | (go_big_may; first | (refine v_get rfl rfl (by first | exact lod_int | exact lod_str | exact lod_fcs | exact lod_err | exact lod_bool | exact lod_txs) rfl hM.at2 rfl ?_) | (refine v_get rfl rfl (by first | exact lod_int | exact lod_str | exact lod_fcs | exact lod_err | exact lod_bool | exact lod_txs) rfl hM.at1 rfl ?_)) | go_values | go_skip | go_guarded | go_step | go_upon | (simp only [Int.not_lt, Int.not_le] at *; go_simp))
  go_ret
  exact ⟨rfl, hM.below⟩
set_option maxHeartbeats 2000000 in
theorem case_10 (hl : Int) (w : World) : Calls Tryd.prog 28 #[ag (mvl ⟨1, hl⟩), ag (mvl ⟨0, 0⟩)] w fun e w' => e = .returned (.int .i64 4) ∧ Below w.heap.size w w' := by
  have hM := Mm.nil w
  go_enter Tryd.func28, Tryd.ntmps28
  repeat' (first | (go_big_may; first | (refine v_box rfl rfl rfl ?_; intro u za hN; replace hM := Mm.new (L := []) hM hN; clear hN) | (refine v_box rfl rfl rfl ?_; intro u zb hN; replace hM := hM.new hN; clear hN) | (refine v_build rfl rfl (bld_one 1 2 3) ?hbv ?_; (case hbv => simp [Act.eval, Act.put])) | (refine v_build rfl rfl (bld_one 4 6 8) ?hbv ?_; (case hbv => simp [Act.eval, Act.put])) | (refine v_build rfl rfl (bld_one 9 10 12) ?hbv ?_; (case hbv => simp [Act.eval, Act.put])) | (refine v_build rfl rfl bld_tab ?hbv ?_; (case hbv => simp [Act.eval, Act.put])) | (refine v_alloc rfl zer_tab rfl ?_; intro u zt hN; replace hM := hM.new hN; clear hN) | (refine v_fill rfl rfl row_tab rfl rfl hM.at0 (ivs_vs [1, 2, 3, 4, 6, 8, 9, 10, 12]) rfl ?_; intro u hv hc; replace hM := hM.put0 hc hv; clear hv hc)) | go_values | go_skip | go_guarded | go_step | go_upon | (simp only [Int.not_lt, Int.not_le] at *; go_simp))
  refine reg.wp_abs (fun a0 => a0.tmps.size = 31 ∧ (∀ h, a0.tmps[2]'h = .pointer (some ⟨za, 0, none⟩)) ∧ (∀ h, a0.tmps[3]'h = .pointer (some ⟨zb, 0, none⟩)) ∧ (∀ h, a0.tmps[5]'h = .pointer (some ⟨zt, 0, none⟩))) ⟨rfl, fun _ => rfl, fun _ => rfl, fun _ => rfl⟩ ?_
  rintro a0 ⟨hsz, s2, s3, s5⟩ ha0
  refine reg.wp_region_E (S := fun W => Ls W [(zt, 88, (ivs [1, 2, 3, 4, 6, 8, 9, 10, 12])), (zb, 48, (mvl ⟨0, 0⟩)), (za, 48, (mvl ⟨1, hl⟩))]) (E := fun _ => false) (by kernel_rfl) ?_
  replace hM := hM.drew
  refine reg.e_take (i := 0) (.pointer (some ⟨za, 0, none⟩)) rfl (by kernel_rfl) (by kernel_rfl) (by kernel_rfl) (by kernel_rfl) (fun _ _ _ h => h) (reg.wanted_none rfl) (hM.ls (by simp)) (fun W hW => by simp [execOp, go_sem, Act.put, hsz, s2, s3, s5]) ?_
  refine reg.e_take (i := 1) (.int .i64 1) rfl (by kernel_rfl) (by kernel_rfl) (by kernel_rfl) (by kernel_rfl) (fun _ _ _ h => h) (reg.wanted_none rfl) (hM.ls (by simp)) (fun W hW => ex_get rfl (by simp [go_sem, Act.put, hsz, s2, s3, s5]) hW.at2 (show (mvl ⟨1, hl⟩)[0]? = some _ from rfl)) ?_
  refine reg.e_take (i := 2) (.pointer (some ⟨zb, 0, none⟩)) rfl (by kernel_rfl) (by kernel_rfl) (by kernel_rfl) (by kernel_rfl) (fun _ _ _ h => h) (reg.wanted_none rfl) (hM.ls (by simp)) (fun W hW => by simp [execOp, go_sem, Act.put, hsz, s2, s3, s5]) ?_
  refine reg.e_take (i := 3) (.int .i64 0) rfl (by kernel_rfl) (by kernel_rfl) (by kernel_rfl) (by kernel_rfl) (fun _ _ _ h => h) (reg.wanted_none rfl) (hM.ls (by simp)) (fun W hW => ex_get rfl (by simp [go_sem, Act.put, hsz, s2, s3, s5]) hW.at1 (show (mvl ⟨0, 0⟩)[0]? = some _ from rfl)) ?_
  refine reg.e_take (i := 4) (.pointer (some ⟨zt, 3, none⟩)) rfl (by kernel_rfl) (by kernel_rfl) (by kernel_rfl) (by kernel_rfl) (fun _ _ _ h => h) (reg.wanted_none rfl) (hM.ls (by simp)) (fun W hW => by simp [execOp, go_sem, Act.put, hsz, s2, s3, s5]) ?_
  refine reg.e_take (i := 5) (.pointer (some ⟨zt, 3, none⟩)) rfl (by kernel_rfl) (by kernel_rfl) (by kernel_rfl) (by kernel_rfl) (fun _ _ _ h => h) (reg.wanted_none rfl) (hM.ls (by simp)) (fun W hW => by simp [execOp, go_sem, Act.put, hsz, s2, s3, s5]) ?_
  refine reg.e_take (i := 6) (.int .i64 4) rfl (by kernel_rfl) (by kernel_rfl) (by kernel_rfl) (by kernel_rfl) (fun _ _ _ h => h) (reg.wanted_none rfl) (hM.ls (by simp)) (fun W hW => ex_get rfl (by simp [go_sem, Act.put, hsz, s2, s3, s5]) hW.at0 (show (ivs [1, 2, 3, 4, 6, 8, 9, 10, 12])[3]? = some _ from rfl)) ?_
  refine reg.e_take (i := 7) (.int .i64 4) rfl (by kernel_rfl) (by kernel_rfl) (by kernel_rfl) (by kernel_rfl) (fun _ _ _ h => h) (reg.wanted_none rfl) (hM.ls (by simp)) (fun W hW => by simp [execOp, go_sem, Act.put, hsz, s2, s3, s5]) ?_
  refine reg.e_done (by kernel_rfl) ?_ _
  subst ha0
  clear hsz s2 s3 s5
  go_simp
  repeat' (first | (go_big_may; first | (refine v_get rfl rfl (by first | exact lod_int | exact lod_str | exact lod_fcs | exact lod_err | exact lod_bool | exact lod_txs) rfl hM.at2 rfl ?_) | (refine v_get rfl rfl (by first | exact lod_int | exact lod_str | exact lod_fcs | exact lod_err | exact lod_bool | exact lod_txs) rfl hM.at1 rfl ?_)) | go_values | go_skip | go_guarded | go_step | go_upon | (simp only [Int.not_lt, Int.not_le] at *; go_simp))
  go_ret
  exact ⟨rfl, hM.below⟩
set_option maxHeartbeats 2000000 in
theorem case_11 (hl : Int) (dl : Int) (w : World) : Calls Tryd.prog 28 #[ag (mvl ⟨1, hl⟩), ag (mvl ⟨1, dl⟩)] w fun e w' => e = .returned (.int .i64 (6 + cmpI dl hl)) ∧ Below w.heap.size w w' := by
  have hM := Mm.nil w
  have hq := cmp_val dl hl
  have HC : Hid (∀ u, Calls Tryd.prog 42 #[.int .i64 dl, .int .i64 hl] u fun e w' => e = .returned (.int .i64 (cmpI dl hl)) ∧ u = w') := fun u => cmp_any dl hl u
  generalize cmpI dl hl = q at *
  have hq1 : -1 ≤ q := by omega
  have hq2 : q ≤ 1 := by omega
  clear hq
  go_enter Tryd.func28, Tryd.ntmps28
  repeat' (first | (go_big_may; first | (refine v_box rfl rfl rfl ?_; intro u za hN; replace hM := Mm.new (L := []) hM hN; clear hN) | (refine v_box rfl rfl rfl ?_; intro u zb hN; replace hM := hM.new hN; clear hN) | (refine v_build rfl rfl (bld_one 1 2 3) ?hbv ?_; (case hbv => simp [Act.eval, Act.put])) | (refine v_build rfl rfl (bld_one 4 6 8) ?hbv ?_; (case hbv => simp [Act.eval, Act.put])) | (refine v_build rfl rfl (bld_one 9 10 12) ?hbv ?_; (case hbv => simp [Act.eval, Act.put])) | (refine v_build rfl rfl bld_tab ?hbv ?_; (case hbv => simp [Act.eval, Act.put])) | (refine v_alloc rfl zer_tab rfl ?_; intro u zt hN; replace hM := hM.new hN; clear hN) | (refine v_fill rfl rfl row_tab rfl rfl hM.at0 (ivs_vs [1, 2, 3, 4, 6, 8, 9, 10, 12]) rfl ?_; intro u hv hc; replace hM := hM.put0 hc hv; clear hv hc)) | go_values | go_skip | go_guarded | go_step | go_upon | (simp only [Int.not_lt, Int.not_le] at *; go_simp))
  refine reg.wp_abs (fun a0 => a0.tmps.size = 31 ∧ (∀ h, a0.tmps[2]'h = .pointer (some ⟨za, 0, none⟩)) ∧ (∀ h, a0.tmps[3]'h = .pointer (some ⟨zb, 0, none⟩)) ∧ (∀ h, a0.tmps[5]'h = .pointer (some ⟨zt, 0, none⟩))) ⟨rfl, fun _ => rfl, fun _ => rfl, fun _ => rfl⟩ ?_
  rintro a0 ⟨hsz, s2, s3, s5⟩ ha0
  refine reg.wp_region_E (S := fun W => Ls W [(zt, 88, (ivs [1, 2, 3, 4, 6, 8, 9, 10, 12])), (zb, 48, (mvl ⟨1, dl⟩)), (za, 48, (mvl ⟨1, hl⟩))]) (E := fun _ => false) (by kernel_rfl) ?_
  replace hM := hM.drew
  refine reg.e_take (i := 0) (.pointer (some ⟨za, 0, none⟩)) rfl (by kernel_rfl) (by kernel_rfl) (by kernel_rfl) (by kernel_rfl) (fun _ _ _ h => h) (reg.wanted_none rfl) (hM.ls (by simp)) (fun W hW => by simp [execOp, go_sem, Act.put, hsz, s2, s3, s5]) ?_
  refine reg.e_take (i := 1) (.int .i64 1) rfl (by kernel_rfl) (by kernel_rfl) (by kernel_rfl) (by kernel_rfl) (fun _ _ _ h => h) (reg.wanted_none rfl) (hM.ls (by simp)) (fun W hW => ex_get rfl (by simp [go_sem, Act.put, hsz, s2, s3, s5]) hW.at2 (show (mvl ⟨1, hl⟩)[0]? = some _ from rfl)) ?_
  refine reg.e_take (i := 2) (.pointer (some ⟨zb, 0, none⟩)) rfl (by kernel_rfl) (by kernel_rfl) (by kernel_rfl) (by kernel_rfl) (fun _ _ _ h => h) (reg.wanted_none rfl) (hM.ls (by simp)) (fun W hW => by simp [execOp, go_sem, Act.put, hsz, s2, s3, s5]) ?_
  refine reg.e_take (i := 3) (.int .i64 1) rfl (by kernel_rfl) (by kernel_rfl) (by kernel_rfl) (by kernel_rfl) (fun _ _ _ h => h) (reg.wanted_none rfl) (hM.ls (by simp)) (fun W hW => ex_get rfl (by simp [go_sem, Act.put, hsz, s2, s3, s5]) hW.at1 (show (mvl ⟨1, dl⟩)[0]? = some _ from rfl)) ?_
  refine reg.e_take (i := 4) (.pointer (some ⟨zt, 3, none⟩)) rfl (by kernel_rfl) (by kernel_rfl) (by kernel_rfl) (by kernel_rfl) (fun _ _ _ h => h) (reg.wanted_none rfl) (hM.ls (by simp)) (fun W hW => by simp [execOp, go_sem, Act.put, hsz, s2, s3, s5]) ?_
  refine reg.e_take (i := 5) (.pointer (some ⟨zt, 4, none⟩)) rfl (by kernel_rfl) (by kernel_rfl) (by kernel_rfl) (by kernel_rfl) (fun _ _ _ h => h) (reg.wanted_none rfl) (hM.ls (by simp)) (fun W hW => by simp [execOp, go_sem, Act.put, hsz, s2, s3, s5]) ?_
  refine reg.e_take (i := 6) (.int .i64 6) rfl (by kernel_rfl) (by kernel_rfl) (by kernel_rfl) (by kernel_rfl) (fun _ _ _ h => h) (reg.wanted_none rfl) (hM.ls (by simp)) (fun W hW => ex_get rfl (by simp [go_sem, Act.put, hsz, s2, s3, s5]) hW.at0 (show (ivs [1, 2, 3, 4, 6, 8, 9, 10, 12])[4]? = some _ from rfl)) ?_
  refine reg.e_take (i := 7) (.int .i64 6) rfl (by kernel_rfl) (by kernel_rfl) (by kernel_rfl) (by kernel_rfl) (fun _ _ _ h => h) (reg.wanted_none rfl) (hM.ls (by simp)) (fun W hW => by simp [execOp, go_sem, Act.put, hsz, s2, s3, s5]) ?_
  refine reg.e_done (by kernel_rfl) ?_ _
  subst ha0
  clear hsz s2 s3 s5
  go_simp
  repeat' (first | (go_big_may; first | (refine v_get rfl rfl (by first | exact lod_int | exact lod_str | exact lod_fcs | exact lod_err | exact lod_bool | exact lod_txs) rfl hM.at2 rfl ?_) | (refine v_get rfl rfl (by first | exact lod_int | exact lod_str | exact lod_fcs | exact lod_err | exact lod_bool | exact lod_txs) rfl hM.at1 rfl ?_)) | go_values | go_skip | go_guarded | go_step | go_upon | (simp only [Int.not_lt, Int.not_le] at *; go_simp))
  refine (HC.out _).mono ?_
  rintro e u1 ⟨rfl, rfl⟩
  clear HC
  repeat' (first | go_values | go_skip | go_guarded | go_step | go_upon | (simp only [Int.not_lt, Int.not_le] at *; go_simp))
  go_ret
  exact ⟨rfl, hM.below⟩
set_option maxHeartbeats 2000000 in
theorem case_12 (hl : Int) (dl : Int) (w : World) : Calls Tryd.prog 28 #[ag (mvl ⟨1, hl⟩), ag (mvl ⟨2, dl⟩)] w fun e w' => e = .returned (.int .i64 8) ∧ Below w.heap.size w w' := by
  have hM := Mm.nil w
  go_enter Tryd.func28, Tryd.ntmps28
  repeat' (first | (go_big_may; first | (refine v_box rfl rfl rfl ?_; intro u za hN; replace hM := Mm.new (L := []) hM hN; clear hN) | (refine v_box rfl rfl rfl ?_; intro u zb hN; replace hM := hM.new hN; clear hN) | (refine v_build rfl rfl (bld_one 1 2 3) ?hbv ?_; (case hbv => simp [Act.eval, Act.put])) | (refine v_build rfl rfl (bld_one 4 6 8) ?hbv ?_; (case hbv => simp [Act.eval, Act.put])) | (refine v_build rfl rfl (bld_one 9 10 12) ?hbv ?_; (case hbv => simp [Act.eval, Act.put])) | (refine v_build rfl rfl bld_tab ?hbv ?_; (case hbv => simp [Act.eval, Act.put])) | (refine v_alloc rfl zer_tab rfl ?_; intro u zt hN; replace hM := hM.new hN; clear hN) | (refine v_fill rfl rfl row_tab rfl rfl hM.at0 (ivs_vs [1, 2, 3, 4, 6, 8, 9, 10, 12]) rfl ?_; intro u hv hc; replace hM := hM.put0 hc hv; clear hv hc)) | go_values | go_skip | go_guarded | go_step | go_upon | (simp only [Int.not_lt, Int.not_le] at *; go_simp))
  refine reg.wp_abs (fun a0 => a0.tmps.size = 31 ∧ (∀ h, a0.tmps[2]'h = .pointer (some ⟨za, 0, none⟩)) ∧ (∀ h, a0.tmps[3]'h = .pointer (some ⟨zb, 0, none⟩)) ∧ (∀ h, a0.tmps[5]'h = .pointer (some ⟨zt, 0, none⟩))) ⟨rfl, fun _ => rfl, fun _ => rfl, fun _ => rfl⟩ ?_
  rintro a0 ⟨hsz, s2, s3, s5⟩ ha0
  refine reg.wp_region_E (S := fun W => Ls W [(zt, 88, (ivs [1, 2, 3, 4, 6, 8, 9, 10, 12])), (zb, 48, (mvl ⟨2, dl⟩)), (za, 48, (mvl ⟨1, hl⟩))]) (E := fun _ => false) (by kernel_rfl) ?_
  replace hM := hM.drew
  refine reg.e_take (i := 0) (.pointer (some ⟨za, 0, none⟩)) rfl (by kernel_rfl) (by kernel_rfl) (by kernel_rfl) (by kernel_rfl) (fun _ _ _ h => h) (reg.wanted_none rfl) (hM.ls (by simp)) (fun W hW => by simp [execOp, go_sem, Act.put, hsz, s2, s3, s5]) ?_
  refine reg.e_take (i := 1) (.int .i64 1) rfl (by kernel_rfl) (by kernel_rfl) (by kernel_rfl) (by kernel_rfl) (fun _ _ _ h => h) (reg.wanted_none rfl) (hM.ls (by simp)) (fun W hW => ex_get rfl (by simp [go_sem, Act.put, hsz, s2, s3, s5]) hW.at2 (show (mvl ⟨1, hl⟩)[0]? = some _ from rfl)) ?_
  refine reg.e_take (i := 2) (.pointer (some ⟨zb, 0, none⟩)) rfl (by kernel_rfl) (by kernel_rfl) (by kernel_rfl) (by kernel_rfl) (fun _ _ _ h => h) (reg.wanted_none rfl) (hM.ls (by simp)) (fun W hW => by simp [execOp, go_sem, Act.put, hsz, s2, s3, s5]) ?_
  refine reg.e_take (i := 3) (.int .i64 2) rfl (by kernel_rfl) (by kernel_rfl) (by kernel_rfl) (by kernel_rfl) (fun _ _ _ h => h) (reg.wanted_none rfl) (hM.ls (by simp)) (fun W hW => ex_get rfl (by simp [go_sem, Act.put, hsz, s2, s3, s5]) hW.at1 (show (mvl ⟨2, dl⟩)[0]? = some _ from rfl)) ?_
  refine reg.e_take (i := 4) (.pointer (some ⟨zt, 3, none⟩)) rfl (by kernel_rfl) (by kernel_rfl) (by kernel_rfl) (by kernel_rfl) (fun _ _ _ h => h) (reg.wanted_none rfl) (hM.ls (by simp)) (fun W hW => by simp [execOp, go_sem, Act.put, hsz, s2, s3, s5]) ?_
  refine reg.e_take (i := 5) (.pointer (some ⟨zt, 5, none⟩)) rfl (by kernel_rfl) (by kernel_rfl) (by kernel_rfl) (by kernel_rfl) (fun _ _ _ h => h) (reg.wanted_none rfl) (hM.ls (by simp)) (fun W hW => by simp [execOp, go_sem, Act.put, hsz, s2, s3, s5]) ?_
  refine reg.e_take (i := 6) (.int .i64 8) rfl (by kernel_rfl) (by kernel_rfl) (by kernel_rfl) (by kernel_rfl) (fun _ _ _ h => h) (reg.wanted_none rfl) (hM.ls (by simp)) (fun W hW => ex_get rfl (by simp [go_sem, Act.put, hsz, s2, s3, s5]) hW.at0 (show (ivs [1, 2, 3, 4, 6, 8, 9, 10, 12])[5]? = some _ from rfl)) ?_
  refine reg.e_take (i := 7) (.int .i64 8) rfl (by kernel_rfl) (by kernel_rfl) (by kernel_rfl) (by kernel_rfl) (fun _ _ _ h => h) (reg.wanted_none rfl) (hM.ls (by simp)) (fun W hW => by simp [execOp, go_sem, Act.put, hsz, s2, s3, s5]) ?_
  refine reg.e_done (by kernel_rfl) ?_ _
  subst ha0
  clear hsz s2 s3 s5
  go_simp
  repeat' (first | (go_big_may; first | (refine v_get rfl rfl (by first | exact lod_int | exact lod_str | exact lod_fcs | exact lod_err | exact lod_bool | exact lod_txs) rfl hM.at2 rfl ?_) | (refine v_get rfl rfl (by first | exact lod_int | exact lod_str | exact lod_fcs | exact lod_err | exact lod_bool | exact lod_txs) rfl hM.at1 rfl ?_)) | go_values | go_skip | go_guarded | go_step | go_upon | (simp only [Int.not_lt, Int.not_le] at *; go_simp))
  go_ret
  exact ⟨rfl, hM.below⟩
set_option maxHeartbeats 2000000 in
theorem case_20 (hl : Int) (w : World) : Calls Tryd.prog 28 #[ag (mvl ⟨2, hl⟩), ag (mvl ⟨0, 0⟩)] w fun e w' => e = .returned (.int .i64 9) ∧ Below w.heap.size w w' := by
  have hM := Mm.nil w
  go_enter Tryd.func28, Tryd.ntmps28
  repeat' (first | (go_big_may; first | (refine v_box rfl rfl rfl ?_; intro u za hN; replace hM := Mm.new (L := []) hM hN; clear hN) | (refine v_box rfl rfl rfl ?_; intro u zb hN; replace hM := hM.new hN; clear hN) | (refine v_build rfl rfl (bld_one 1 2 3) ?hbv ?_; (case hbv => simp [Act.eval, Act.put])) | (refine v_build rfl rfl (bld_one 4 6 8) ?hbv ?_; (case hbv => simp [Act.eval, Act.put])) | (refine v_build rfl rfl (bld_one 9 10 12) ?hbv ?_; (case hbv => simp [Act.eval, Act.put])) | (refine v_build rfl rfl bld_tab ?hbv ?_; (case hbv => simp [Act.eval, Act.put])) | (refine v_alloc rfl zer_tab rfl ?_; intro u zt hN; replace hM := hM.new hN; clear hN) | (refine v_fill rfl rfl row_tab rfl rfl hM.at0 (ivs_vs [1, 2, 3, 4, 6, 8, 9, 10, 12]) rfl ?_; intro u hv hc; replace hM := hM.put0 hc hv; clear hv hc)) | go_values | go_skip | go_guarded | go_step | go_upon | (simp only [Int.not_lt, Int.not_le] at *; go_simp))
  refine reg.wp_abs (fun a0 => a0.tmps.size = 31 ∧ (∀ h, a0.tmps[2]'h = .pointer (some ⟨za, 0, none⟩)) ∧ (∀ h, a0.tmps[3]'h = .pointer (some ⟨zb, 0, none⟩)) ∧ (∀ h, a0.tmps[5]'h = .pointer (some ⟨zt, 0, none⟩))) ⟨rfl, fun _ => rfl, fun _ => rfl, fun _ => rfl⟩ ?_
  rintro a0 ⟨hsz, s2, s3, s5⟩ ha0
  refine reg.wp_region_E (S := fun W => Ls W [(zt, 88, (ivs [1, 2, 3, 4, 6, 8, 9, 10, 12])), (zb, 48, (mvl ⟨0, 0⟩)), (za, 48, (mvl ⟨2, hl⟩))]) (E := fun _ => false) (by kernel_rfl) ?_
  replace hM := hM.drew
  refine reg.e_take (i := 0) (.pointer (some ⟨za, 0, none⟩)) rfl (by kernel_rfl) (by kernel_rfl) (by kernel_rfl) (by kernel_rfl) (fun _ _ _ h => h) (reg.wanted_none rfl) (hM.ls (by simp)) (fun W hW => by simp [execOp, go_sem, Act.put, hsz, s2, s3, s5]) ?_
  refine reg.e_take (i := 1) (.int .i64 2) rfl (by kernel_rfl) (by kernel_rfl) (by kernel_rfl) (by kernel_rfl) (fun _ _ _ h => h) (reg.wanted_none rfl) (hM.ls (by simp)) (fun W hW => ex_get rfl (by simp [go_sem, Act.put, hsz, s2, s3, s5]) hW.at2 (show (mvl ⟨2, hl⟩)[0]? = some _ from rfl)) ?_
  refine reg.e_take (i := 2) (.pointer (some ⟨zb, 0, none⟩)) rfl (by kernel_rfl) (by kernel_rfl) (by kernel_rfl) (by kernel_rfl) (fun _ _ _ h => h) (reg.wanted_none rfl) (hM.ls (by simp)) (fun W hW => by simp [execOp, go_sem, Act.put, hsz, s2, s3, s5]) ?_
  refine reg.e_take (i := 3) (.int .i64 0) rfl (by kernel_rfl) (by kernel_rfl) (by kernel_rfl) (by kernel_rfl) (fun _ _ _ h => h) (reg.wanted_none rfl) (hM.ls (by simp)) (fun W hW => ex_get rfl (by simp [go_sem, Act.put, hsz, s2, s3, s5]) hW.at1 (show (mvl ⟨0, 0⟩)[0]? = some _ from rfl)) ?_
  refine reg.e_take (i := 4) (.pointer (some ⟨zt, 6, none⟩)) rfl (by kernel_rfl) (by kernel_rfl) (by kernel_rfl) (by kernel_rfl) (fun _ _ _ h => h) (reg.wanted_none rfl) (hM.ls (by simp)) (fun W hW => by simp [execOp, go_sem, Act.put, hsz, s2, s3, s5]) ?_
  refine reg.e_take (i := 5) (.pointer (some ⟨zt, 6, none⟩)) rfl (by kernel_rfl) (by kernel_rfl) (by kernel_rfl) (by kernel_rfl) (fun _ _ _ h => h) (reg.wanted_none rfl) (hM.ls (by simp)) (fun W hW => by simp [execOp, go_sem, Act.put, hsz, s2, s3, s5]) ?_
  refine reg.e_take (i := 6) (.int .i64 9) rfl (by kernel_rfl) (by kernel_rfl) (by kernel_rfl) (by kernel_rfl) (fun _ _ _ h => h) (reg.wanted_none rfl) (hM.ls (by simp)) (fun W hW => ex_get rfl (by simp [go_sem, Act.put, hsz, s2, s3, s5]) hW.at0 (show (ivs [1, 2, 3, 4, 6, 8, 9, 10, 12])[6]? = some _ from rfl)) ?_
  refine reg.e_take (i := 7) (.int .i64 9) rfl (by kernel_rfl) (by kernel_rfl) (by kernel_rfl) (by kernel_rfl) (fun _ _ _ h => h) (reg.wanted_none rfl) (hM.ls (by simp)) (fun W hW => by simp [execOp, go_sem, Act.put, hsz, s2, s3, s5]) ?_
  refine reg.e_done (by kernel_rfl) ?_ _
  subst ha0
  clear hsz s2 s3 s5
  go_simp
  repeat' (first | (go_big_may; first | (refine v_get rfl rfl (by first | exact lod_int | exact lod_str | exact lod_fcs | exact lod_err | exact lod_bool | exact lod_txs) rfl hM.at2 rfl ?_) | (refine v_get rfl rfl (by first | exact lod_int | exact lod_str | exact lod_fcs | exact lod_err | exact lod_bool | exact lod_txs) rfl hM.at1 rfl ?_)) | go_values | go_skip | go_guarded | go_step | go_upon | (simp only [Int.not_lt, Int.not_le] at *; go_simp))
  go_ret
  exact ⟨rfl, hM.below⟩
set_option maxHeartbeats 2000000 in
theorem case_21 (hl : Int) (dl : Int) (w : World) : Calls Tryd.prog 28 #[ag (mvl ⟨2, hl⟩), ag (mvl ⟨1, dl⟩)] w fun e w' => e = .returned (.int .i64 10) ∧ Below w.heap.size w w' := by
  have hM := Mm.nil w
  go_enter Tryd.func28, Tryd.ntmps28
  repeat' (first | (go_big_may; first | (refine v_box rfl rfl rfl ?_; intro u za hN; replace hM := Mm.new (L := []) hM hN; clear hN) | (refine v_box rfl rfl rfl ?_; intro u zb hN; replace hM := hM.new hN; clear hN) | (refine v_build rfl rfl (bld_one 1 2 3) ?hbv ?_; (case hbv => simp [Act.eval, Act.put])) | (refine v_build rfl rfl (bld_one 4 6 8) ?hbv ?_; (case hbv => simp [Act.eval, Act.put])) | (refine v_build rfl rfl (bld_one 9 10 12) ?hbv ?_; (case hbv => simp [Act.eval, Act.put])) | (refine v_build rfl rfl bld_tab ?hbv ?_; (case hbv => simp [Act.eval, Act.put])) | (refine v_alloc rfl zer_tab rfl ?_; intro u zt hN; replace hM := hM.new hN; clear hN) | (refine v_fill rfl rfl row_tab rfl rfl hM.at0 (ivs_vs [1, 2, 3, 4, 6, 8, 9, 10, 12]) rfl ?_; intro u hv hc; replace hM := hM.put0 hc hv; clear hv hc)) | go_values | go_skip | go_guarded | go_step | go_upon | (simp only [Int.not_lt, Int.not_le] at *; go_simp))
  refine reg.wp_abs (fun a0 => a0.tmps.size = 31 ∧ (∀ h, a0.tmps[2]'h = .pointer (some ⟨za, 0, none⟩)) ∧ (∀ h, a0.tmps[3]'h = .pointer (some ⟨zb, 0, none⟩)) ∧ (∀ h, a0.tmps[5]'h = .pointer (some ⟨zt, 0, none⟩))) ⟨rfl, fun _ => rfl, fun _ => rfl, fun _ => rfl⟩ ?_
  rintro a0 ⟨hsz, s2, s3, s5⟩ ha0
  refine reg.wp_region_E (S := fun W => Ls W [(zt, 88, (ivs [1, 2, 3, 4, 6, 8, 9, 10, 12])), (zb, 48, (mvl ⟨1, dl⟩)), (za, 48, (mvl ⟨2, hl⟩))]) (E := fun _ => false) (by kernel_rfl) ?_
  replace hM := hM.drew
  refine reg.e_take (i := 0) (.pointer (some ⟨za, 0, none⟩)) rfl (by kernel_rfl) (by kernel_rfl) (by kernel_rfl) (by kernel_rfl) (fun _ _ _ h => h) (reg.wanted_none rfl) (hM.ls (by simp)) (fun W hW => by simp [execOp, go_sem, Act.put, hsz, s2, s3, s5]) ?_
  refine reg.e_take (i := 1) (.int .i64 2) rfl (by kernel_rfl) (by kernel_rfl) (by kernel_rfl) (by kernel_rfl) (fun _ _ _ h => h) (reg.wanted_none rfl) (hM.ls (by simp)) (fun W hW => ex_get rfl (by simp [go_sem, Act.put, hsz, s2, s3, s5]) hW.at2 (show (mvl ⟨2, hl⟩)[0]? = some _ from rfl)) ?_
  refine reg.e_take (i := 2) (.pointer (some ⟨zb, 0, none⟩)) rfl (by kernel_rfl) (by kernel_rfl) (by kernel_rfl) (by kernel_rfl) (fun _ _ _ h => h) (reg.wanted_none rfl) (hM.ls (by simp)) (fun W hW => by simp [execOp, go_sem, Act.put, hsz, s2, s3, s5]) ?_
  refine reg.e_take (i := 3) (.int .i64 1) rfl (by kernel_rfl) (by kernel_rfl) (by kernel_rfl) (by kernel_rfl) (fun _ _ _ h => h) (reg.wanted_none rfl) (hM.ls (by simp)) (fun W hW => ex_get rfl (by simp [go_sem, Act.put, hsz, s2, s3, s5]) hW.at1 (show (mvl ⟨1, dl⟩)[0]? = some _ from rfl)) ?_
  refine reg.e_take (i := 4) (.pointer (some ⟨zt, 6, none⟩)) rfl (by kernel_rfl) (by kernel_rfl) (by kernel_rfl) (by kernel_rfl) (fun _ _ _ h => h) (reg.wanted_none rfl) (hM.ls (by simp)) (fun W hW => by simp [execOp, go_sem, Act.put, hsz, s2, s3, s5]) ?_
  refine reg.e_take (i := 5) (.pointer (some ⟨zt, 7, none⟩)) rfl (by kernel_rfl) (by kernel_rfl) (by kernel_rfl) (by kernel_rfl) (fun _ _ _ h => h) (reg.wanted_none rfl) (hM.ls (by simp)) (fun W hW => by simp [execOp, go_sem, Act.put, hsz, s2, s3, s5]) ?_
  refine reg.e_take (i := 6) (.int .i64 10) rfl (by kernel_rfl) (by kernel_rfl) (by kernel_rfl) (by kernel_rfl) (fun _ _ _ h => h) (reg.wanted_none rfl) (hM.ls (by simp)) (fun W hW => ex_get rfl (by simp [go_sem, Act.put, hsz, s2, s3, s5]) hW.at0 (show (ivs [1, 2, 3, 4, 6, 8, 9, 10, 12])[7]? = some _ from rfl)) ?_
  refine reg.e_take (i := 7) (.int .i64 10) rfl (by kernel_rfl) (by kernel_rfl) (by kernel_rfl) (by kernel_rfl) (fun _ _ _ h => h) (reg.wanted_none rfl) (hM.ls (by simp)) (fun W hW => by simp [execOp, go_sem, Act.put, hsz, s2, s3, s5]) ?_
  refine reg.e_done (by kernel_rfl) ?_ _
  subst ha0
  clear hsz s2 s3 s5
  go_simp
  repeat' (first | (go_big_may; first | (refine v_get rfl rfl (by first | exact lod_int | exact lod_str | exact lod_fcs | exact lod_err | exact lod_bool | exact lod_txs) rfl hM.at2 rfl ?_) | (refine v_get rfl rfl (by first | exact lod_int | exact lod_str | exact lod_fcs | exact lod_err | exact lod_bool | exact lod_txs) rfl hM.at1 rfl ?_)) | go_values | go_skip | go_guarded | go_step | go_upon | (simp only [Int.not_lt, Int.not_le] at *; go_simp))
  go_ret
  exact ⟨rfl, hM.below⟩
set_option maxHeartbeats 2000000 in
theorem case_22 (hl : Int) (dl : Int) (w : World) : Calls Tryd.prog 28 #[ag (mvl ⟨2, hl⟩), ag (mvl ⟨2, dl⟩)] w fun e w' => e = .returned (.int .i64 (12 + cmpI dl hl)) ∧ Below w.heap.size w w' := by
  have hM := Mm.nil w
  have hq := cmp_val dl hl
  have HC : Hid (∀ u, Calls Tryd.prog 42 #[.int .i64 dl, .int .i64 hl] u fun e w' => e = .returned (.int .i64 (cmpI dl hl)) ∧ u = w') := fun u => cmp_any dl hl u
  generalize cmpI dl hl = q at *
  have hq1 : -1 ≤ q := by omega
  have hq2 : q ≤ 1 := by omega
  clear hq
  go_enter Tryd.func28, Tryd.ntmps28
  repeat' (first | (go_big_may; first | (refine v_box rfl rfl rfl ?_; intro u za hN; replace hM := Mm.new (L := []) hM hN; clear hN) | (refine v_box rfl rfl rfl ?_; intro u zb hN; replace hM := hM.new hN; clear hN) | (refine v_build rfl rfl (bld_one 1 2 3) ?hbv ?_; (case hbv => simp [Act.eval, Act.put])) | (refine v_build rfl rfl (bld_one 4 6 8) ?hbv ?_; (case hbv => simp [Act.eval, Act.put])) | (refine v_build rfl rfl (bld_one 9 10 12) ?hbv ?_; (case hbv => simp [Act.eval, Act.put])) | (refine v_build rfl rfl bld_tab ?hbv ?_; (case hbv => simp [Act.eval, Act.put])) | (refine v_alloc rfl zer_tab rfl ?_; intro u zt hN; replace hM := hM.new hN; clear hN) | (refine v_fill rfl rfl row_tab rfl rfl hM.at0 (ivs_vs [1, 2, 3, 4, 6, 8, 9, 10, 12]) rfl ?_; intro u hv hc; replace hM := hM.put0 hc hv; clear hv hc)) | go_values | go_skip | go_guarded | go_step | go_upon | (simp only [Int.not_lt, Int.not_le] at *; go_simp))
  refine reg.wp_abs (fun a0 => a0.tmps.size = 31 ∧ (∀ h, a0.tmps[2]'h = .pointer (some ⟨za, 0, none⟩)) ∧ (∀ h, a0.tmps[3]'h = .pointer (some ⟨zb, 0, none⟩)) ∧ (∀ h, a0.tmps[5]'h = .pointer (some ⟨zt, 0, none⟩))) ⟨rfl, fun _ => rfl, fun _ => rfl, fun _ => rfl⟩ ?_
  rintro a0 ⟨hsz, s2, s3, s5⟩ ha0
  refine reg.wp_region_E (S := fun W => Ls W [(zt, 88, (ivs [1, 2, 3, 4, 6, 8, 9, 10, 12])), (zb, 48, (mvl ⟨2, dl⟩)), (za, 48, (mvl ⟨2, hl⟩))]) (E := fun _ => false) (by kernel_rfl) ?_
  replace hM := hM.drew
  refine reg.e_take (i := 0) (.pointer (some ⟨za, 0, none⟩)) rfl (by kernel_rfl) (by kernel_rfl) (by kernel_rfl) (by kernel_rfl) (fun _ _ _ h => h) (reg.wanted_none rfl) (hM.ls (by simp)) (fun W hW => by simp [execOp, go_sem, Act.put, hsz, s2, s3, s5]) ?_
  refine reg.e_take (i := 1) (.int .i64 2) rfl (by kernel_rfl) (by kernel_rfl) (by kernel_rfl) (by kernel_rfl) (fun _ _ _ h => h) (reg.wanted_none rfl) (hM.ls (by simp)) (fun W hW => ex_get rfl (by simp [go_sem, Act.put, hsz, s2, s3, s5]) hW.at2 (show (mvl ⟨2, hl⟩)[0]? = some _ from rfl)) ?_
  refine reg.e_take (i := 2) (.pointer (some ⟨zb, 0, none⟩)) rfl (by kernel_rfl) (by kernel_rfl) (by kernel_rfl) (by kernel_rfl) (fun _ _ _ h => h) (reg.wanted_none rfl) (hM.ls (by simp)) (fun W hW => by simp [execOp, go_sem, Act.put, hsz, s2, s3, s5]) ?_
  refine reg.e_take (i := 3) (.int .i64 2) rfl (by kernel_rfl) (by kernel_rfl) (by kernel_rfl) (by kernel_rfl) (fun _ _ _ h => h) (reg.wanted_none rfl) (hM.ls (by simp)) (fun W hW => ex_get rfl (by simp [go_sem, Act.put, hsz, s2, s3, s5]) hW.at1 (show (mvl ⟨2, dl⟩)[0]? = some _ from rfl)) ?_
  refine reg.e_take (i := 4) (.pointer (some ⟨zt, 6, none⟩)) rfl (by kernel_rfl) (by kernel_rfl) (by kernel_rfl) (by kernel_rfl) (fun _ _ _ h => h) (reg.wanted_none rfl) (hM.ls (by simp)) (fun W hW => by simp [execOp, go_sem, Act.put, hsz, s2, s3, s5]) ?_
  refine reg.e_take (i := 5) (.pointer (some ⟨zt, 8, none⟩)) rfl (by kernel_rfl) (by kernel_rfl) (by kernel_rfl) (by kernel_rfl) (fun _ _ _ h => h) (reg.wanted_none rfl) (hM.ls (by simp)) (fun W hW => by simp [execOp, go_sem, Act.put, hsz, s2, s3, s5]) ?_
  refine reg.e_take (i := 6) (.int .i64 12) rfl (by kernel_rfl) (by kernel_rfl) (by kernel_rfl) (by kernel_rfl) (fun _ _ _ h => h) (reg.wanted_none rfl) (hM.ls (by simp)) (fun W hW => ex_get rfl (by simp [go_sem, Act.put, hsz, s2, s3, s5]) hW.at0 (show (ivs [1, 2, 3, 4, 6, 8, 9, 10, 12])[8]? = some _ from rfl)) ?_
  refine reg.e_take (i := 7) (.int .i64 12) rfl (by kernel_rfl) (by kernel_rfl) (by kernel_rfl) (by kernel_rfl) (fun _ _ _ h => h) (reg.wanted_none rfl) (hM.ls (by simp)) (fun W hW => by simp [execOp, go_sem, Act.put, hsz, s2, s3, s5]) ?_
  refine reg.e_done (by kernel_rfl) ?_ _
  subst ha0
  clear hsz s2 s3 s5
  go_simp
  repeat' (first | (go_big_may; first | (refine v_get rfl rfl (by first | exact lod_int | exact lod_str | exact lod_fcs | exact lod_err | exact lod_bool | exact lod_txs) rfl hM.at2 rfl ?_) | (refine v_get rfl rfl (by first | exact lod_int | exact lod_str | exact lod_fcs | exact lod_err | exact lod_bool | exact lod_txs) rfl hM.at1 rfl ?_)) | go_values | go_skip | go_guarded | go_step | go_upon | (simp only [Int.not_lt, Int.not_le] at *; go_simp))
  refine (HC.out _).mono ?_
  rintro e u1 ⟨rfl, rfl⟩
  clear HC
  repeat' (first | go_values | go_skip | go_guarded | go_step | go_upon | (simp only [Int.not_lt, Int.not_le] at *; go_simp))
  go_ret
  exact ⟨rfl, hM.below⟩
theorem caseOf_any (h d : Mv) (h1 : mvB h = true) (h2 : mvB d = true) (w : World) : Calls Tryd.prog 28 #[ag (mvl h), ag (mvl d)] w fun e w' => e = .returned (.int .i64 (csV h d)) ∧ Below w.heap.size w w' := by
  have a1 := (mv_iff h).1 h1
  have a2 := (mv_iff d).1 h2
  obtain ⟨hd, hl⟩ := h
  obtain ⟨dd, dl⟩ := d
  rcases a1 with ⟨rfl, rfl⟩ | ⟨rfl | rfl, _⟩ <;> rcases a2 with ⟨rfl, rfl⟩ | ⟨rfl | rfl, _⟩
  · exact case_00 w
  · exact case_01 dl w
  · exact case_02 dl w
  · exact case_10 hl w
  · exact case_11 hl dl w
  · exact case_12 hl dl w
  · exact case_20 hl w
  · exact case_21 hl dl w
  · exact case_22 hl dl w
set_option maxHeartbeats 4000000 in
theorem judge_any (h d : Mv) (w : World) : Calls Tryd.prog 12 #[ag (mvl h), ag (mvl d)] w fun e w' => e = .returned (.tuple #[ag (vdl (jdV h d)), .int .i64 (jdC h d)]) ∧ Below w.heap.size w w' := by
  have HI : Hid (∀ m u, Calls Tryd.prog 27 #[ag (mvl m)] u fun e w' => e = .returned (.bool (mvB m)) ∧ Below u.heap.size u w') := fun m u => isMove_any m u
  have hM := Mm.nil w
  cases h1 : mvB h
  case false =>
    have e := jd_no (h := h) (d := d) (by rw [h1]; simp)
    rw [e.1, e.2]
    clear e
    go_enter Tryd.func12, Tryd.ntmps12
    repeat' (first | (go_big_may; first | (refine v_box rfl rfl rfl ?_; intro u za hN; replace hM := Mm.new (L := []) hM hN; clear hN) | (refine v_box rfl rfl rfl ?_; intro u zb hN; replace hM := hM.new hN; clear hN) | (refine v_alloc rfl zer_verdict rfl ?_; intro u zr hN; replace hM := hM.new hN; clear hN) | (refine v_load rfl rfl row_move rfl hM.at2 (Nat.le_refl _) (cut_all rfl) ?_)) | go_values | go_skip | go_guarded | go_step | go_upon | (simp only [Int.not_lt, Int.not_le] at *; go_simp))
    refine (HI.out _ _).mono ?_
    rintro e u1 ⟨rfl, hb⟩
    replace hM := hM.call hb
    rw [h1]
    clear hb
    repeat' (first | (go_big_may; first | (refine v_build rfl rfl bld_verdict0 ?hbv ?_; (case hbv => simp [Act.eval, Act.put])) | (refine v_fill rfl rfl row_verdict rfl rfl hM.at0 (vdl_vs _) rfl ?_; intro u hv hc; replace hM := hM.put0 hc hv; clear hv hc)) | go_values | go_skip | go_guarded | go_step | go_upon | (simp only [Int.not_lt, Int.not_le] at *; go_simp))
    exact bodyPost_ret (ret_2 rfl rfl (ld_var row_verdict hM.at0 rfl) rfl) rfl ⟨rfl, hM.below⟩
  cases h2 : mvB d
  case false =>
    have e := jd_no (h := h) (d := d) (by rw [h2]; simp)
    rw [e.1, e.2]
    clear e
    go_enter Tryd.func12, Tryd.ntmps12
    repeat' (first | (go_big_may; first | (refine v_box rfl rfl rfl ?_; intro u za hN; replace hM := Mm.new (L := []) hM hN; clear hN) | (refine v_box rfl rfl rfl ?_; intro u zb hN; replace hM := hM.new hN; clear hN) | (refine v_alloc rfl zer_verdict rfl ?_; intro u zr hN; replace hM := hM.new hN; clear hN) | (refine v_load rfl rfl row_move rfl hM.at2 (Nat.le_refl _) (cut_all rfl) ?_)) | go_values | go_skip | go_guarded | go_step | go_upon | (simp only [Int.not_lt, Int.not_le] at *; go_simp))
    refine (HI.out _ _).mono ?_
    rintro e u1 ⟨rfl, hb⟩
    replace hM := hM.call hb
    rw [h1]
    clear hb
    repeat' (first | (go_big_may; first | (refine v_load rfl rfl row_move rfl hM.at1 (Nat.le_refl _) (cut_all rfl) ?_)) | go_values | go_skip | go_guarded | go_step | go_upon | (simp only [Int.not_lt, Int.not_le] at *; go_simp))
    refine (HI.out _ _).mono ?_
    rintro e u1 ⟨rfl, hb⟩
    replace hM := hM.call hb
    rw [h2]
    clear hb
    repeat' (first | (go_big_may; first | (refine v_build rfl rfl bld_verdict0 ?hbv ?_; (case hbv => simp [Act.eval, Act.put])) | (refine v_fill rfl rfl row_verdict rfl rfl hM.at0 (vdl_vs _) rfl ?_; intro u hv hc; replace hM := hM.put0 hc hv; clear hv hc)) | go_values | go_skip | go_guarded | go_step | go_upon | (simp only [Int.not_lt, Int.not_le] at *; go_simp))
    exact bodyPost_ret (ret_2 rfl rfl (ld_var row_verdict hM.at0 rfl) rfl) rfl ⟨rfl, hM.below⟩
  have e := jd_ok h1 h2
  have HCS : Hid (∀ u, Calls Tryd.prog 28 #[ag (mvl h), ag (mvl d)] u fun e w' => e = .returned (.int .i64 (csV h d)) ∧ Below u.heap.size u w') := fun u => caseOf_any h d h1 h2 u
  have a1 := (mv_iff h).1 h1
  have a2 := (mv_iff d).1 h2
  rw [e.1, e.2]
  obtain ⟨c, hc⟩ : ∃ c, csV h d = c := ⟨_, rfl⟩
  rw [hc] at HCS ⊢
  have HMK : Hid (∀ u, Calls Tryd.prog 29 #[.int .i64 c] u fun e w' => e = .returned (.bool (mkd c)) ∧ u = w') := fun u => isMarked_any c u
  obtain ⟨m, hm⟩ : ∃ m, min h.len d.len = m := ⟨_, rfl⟩
  have hif : (if d.len < h.len then d.len else h.len) = m := by rw [← hm]; split <;> omega
  have hm0 : 0 ≤ m := by omega
  have hm1 : m ≤ h.len := by omega
  have hm2 : h.len ≤ 4294967295 := by omega
  rw [hm]
  clear e hc a1 a2
  have HB : Hid (mvB h = true ∧ mvB d = true) := ⟨h1, h2⟩
  clear h1 h2
  go_enter Tryd.func12, Tryd.ntmps12
  repeat' (first | (go_big_may; first | (refine v_box rfl rfl rfl ?_; intro u za hN; replace hM := Mm.new (L := []) hM hN; clear hN) | (refine v_box rfl rfl rfl ?_; intro u zb hN; replace hM := hM.new hN; clear hN) | (refine v_alloc rfl zer_verdict rfl ?_; intro u zr hN; replace hM := hM.new hN; clear hN) | (refine v_load rfl rfl row_move rfl hM.at2 (Nat.le_refl _) (cut_all rfl) ?_)) | go_values | go_skip | go_guarded | go_step | go_upon | (simp only [Int.not_lt, Int.not_le] at *; go_simp))
  refine (HI.out _ _).mono ?_
  rintro e u1 ⟨rfl, hb⟩
  replace hM := hM.call hb
  rw [HB.out.1]
  clear hb
  repeat' (first | (go_big_may; first | (refine v_load rfl rfl row_move rfl hM.at1 (Nat.le_refl _) (cut_all rfl) ?_)) | go_values | go_skip | go_guarded | go_step | go_upon | (simp only [Int.not_lt, Int.not_le] at *; go_simp))
  refine (HI.out _ _).mono ?_
  rintro e u1 ⟨rfl, hb⟩
  replace hM := hM.call hb
  rw [HB.out.2]
  clear hb HI HB
  repeat' (first | go_values | go_skip | go_guarded | go_step | go_upon | (simp only [Int.not_lt, Int.not_le] at *; go_simp))
  go_cut [6] from 16 to 22 (fun pv wx => ∃ zt : Nat, pv = .pointer (some ⟨zt, 0, none⟩) ∧ Hid (Mm w wx [(zt, 44, vdl ⟨c, 0, h.len, 0⟩), (zr, 44, vdl vd0), (zb, 48, mvl d), (za, 48, mvl h)]))
  case first =>
    refine reg.wp_abs (fun a0 => a0.tmps.size = 40 ∧ (∀ h, a0.tmps[2]'h = .pointer (some ⟨za, 0, none⟩)) ∧ (∀ h, a0.tmps[3]'h = .pointer (some ⟨zb, 0, none⟩))) ⟨rfl, fun _ => rfl, fun _ => rfl⟩ ?_
    rintro a0 ⟨hsz, s2, s3⟩ ha0
    refine reg.wp_region_E (S := fun W => Ls W [(zb, 48, (mvl d)), (za, 48, (mvl h))]) (E := fun _ => false) (by kernel_rfl) ?_
    replace hM := hM.drew
    refine reg.e_take (i := 0) (ag ((mvl h))) rfl (by kernel_rfl) (by kernel_rfl) (by kernel_rfl) (by kernel_rfl) (fun _ _ _ h => h) (reg.wanted_none rfl) (hM.ls (by simp)) (fun W hW => ex_load rfl row_move (by simp [go_sem, Act.put, hsz, s2, s3]) hW.at1 (Nat.le_refl 2) (cut_all rfl)) ?_
    refine reg.e_take (i := 1) (ag ((mvl d))) rfl (by kernel_rfl) (by kernel_rfl) (by kernel_rfl) (by kernel_rfl) (fun _ _ _ h => h) (reg.wanted_none rfl) (hM.ls (by simp)) (fun W hW => ex_load rfl row_move (by simp [go_sem, Act.put, hsz, s2, s3]) hW.at0 (Nat.le_refl 2) (cut_all rfl)) ?_
    refine reg.e_take (i := 3) (.pointer (some ⟨za, 1, none⟩)) rfl (by kernel_rfl) (by kernel_rfl) (by kernel_rfl) (by kernel_rfl) (fun _ _ _ h => h) (reg.wanted_none rfl) (hM.ls (by simp)) (fun W hW => by simp [execOp, go_sem, Act.put, hsz, s2, s3]) ?_
    refine reg.e_take (i := 4) (.int .i64 h.len) rfl (by kernel_rfl) (by kernel_rfl) (by kernel_rfl) (by kernel_rfl) (fun _ _ _ h => h) (reg.wanted_none rfl) (hM.ls (by simp)) (fun W hW => ex_get rfl (by simp [go_sem, Act.put, hsz, s2, s3]) hW.at1 (show (mvl h)[1]? = some _ from rfl)) ?_
    refine reg.e_two 2 6 (by kernel_rfl) rfl rfl ?_ ?_
    · refine reg.r_call (i := 2) 28 #[ag ((mvl h)), ag ((mvl d))] rfl (reg.wanted_none rfl) (by simp [execOp, go_sem, Act.put, hsz, s2, s3]) ((HCS.out _).mono ?_)
      rintro re ru1 ⟨rfl, rhv⟩
      replace hM := hM.call rhv
      clear rhv
      refine ⟨_, rfl, hM.ls (by simp), ?_⟩
      refine reg.e_take (i := 5) (ag (vdl ⟨c, 0, h.len, 0⟩)) rfl (by kernel_rfl) (by kernel_rfl) (by kernel_rfl) (by kernel_rfl) (fun _ _ _ h => h) (reg.wanted_none rfl) (hM.ls (by simp)) (fun W hW => by simp [execOp, go_sem, Act.put, hsz, s2, s3, vdl, ag]) ?_
      refine reg.e_one 6 (by kernel_rfl) rfl ?_
      refine r_alloc (i := 6) rfl (reg.wanted_none rfl) rfl zer_verdict ?_
      intro ru2 zt rhn
      replace hM := hM.new rhn
      clear rhn
      refine ⟨hM.ls (by simp), ?_⟩
      refine reg.e_one 7 (by kernel_rfl) rfl ?_
      refine r_fill (i := 7) rfl (reg.wanted_none rfl) rfl row_verdict (by simp [go_sem, Act.put, hsz, s2, s3]) (by simp [go_sem, Act.put, hsz, s2, s3]) hM.at0 (vdl_vs ⟨c, 0, h.len, 0⟩) rfl ?_
      intro ru3 rhv rhc
      replace hM := hM.put0 rhc rhv
      clear rhc rhv
      refine ⟨hM.ls (by simp), ?_⟩
      refine reg.e_done (by kernel_rfl) ?_ _
      subst ha0
      clear hsz s2 s3
      go_simp
      repeat' (first | go_values | go_skip | go_guarded | go_step | go_upon | (simp only [Int.not_lt, Int.not_le] at *; go_simp))
      go_meet
      case rel => exact ⟨zt, rfl, hM⟩
    · refine r_alloc (i := 6) rfl (reg.wanted_none rfl) rfl zer_verdict ?_
      intro ru4 zt rhn
      replace hM := hM.new rhn
      clear rhn
      refine ⟨hM.ls (by simp), ?_⟩
      refine reg.e_one 2 (by kernel_rfl) rfl ?_
      refine reg.r_call (i := 2) 28 #[ag ((mvl h)), ag ((mvl d))] rfl (reg.wanted_none rfl) (by simp [execOp, go_sem, Act.put, hsz, s2, s3]) ((HCS.out _).mono ?_)
      rintro re ru5 ⟨rfl, rhv⟩
      replace hM := hM.call rhv
      clear rhv
      refine ⟨_, rfl, hM.ls (by simp), ?_⟩
      refine reg.e_take (i := 5) (ag (vdl ⟨c, 0, h.len, 0⟩)) rfl (by kernel_rfl) (by kernel_rfl) (by kernel_rfl) (by kernel_rfl) (fun _ _ _ h => h) (reg.wanted_none rfl) (hM.ls (by simp)) (fun W hW => by simp [execOp, go_sem, Act.put, hsz, s2, s3, vdl, ag]) ?_
      refine reg.e_one 7 (by kernel_rfl) rfl ?_
      refine r_fill (i := 7) rfl (reg.wanted_none rfl) rfl row_verdict (by simp [go_sem, Act.put, hsz, s2, s3]) (by simp [go_sem, Act.put, hsz, s2, s3]) hM.at0 (vdl_vs ⟨c, 0, h.len, 0⟩) rfl ?_
      intro ru6 rhv rhc
      replace hM := hM.put0 rhc rhv
      clear rhc rhv
      refine ⟨hM.ls (by simp), ?_⟩
      refine reg.e_done (by kernel_rfl) ?_ _
      subst ha0
      clear hsz s2 s3
      go_simp
      repeat' (first | go_values | go_skip | go_guarded | go_step | go_upon | (simp only [Int.not_lt, Int.not_le] at *; go_simp))
      go_meet
      case rel => exact ⟨zt, rfl, hM⟩
  case rest =>
  clear hM HCS
  obtain ⟨zt, rfl, HX⟩ := hcut
  rename World => u4
  have hM := HX.out
  clear HX
  repeat' (first | (go_big_may; first | (refine v_get rfl rfl (by first | exact lod_int | exact lod_str | exact lod_fcs | exact lod_err | exact lod_bool | exact lod_txs) rfl hM.at0 rfl ?_)) | go_values | go_skip | go_guarded | go_step | go_upon | (simp only [Int.not_lt, Int.not_le] at *; go_simp))
  refine (HMK.out _).mono ?_
  rintro e u5 ⟨rfl, rfl⟩
  clear HMK
  cases hk : mkd c
  · repeat' (first | (go_big_may; first | (refine v_get rfl rfl (by first | exact lod_int | exact lod_str | exact lod_fcs | exact lod_err | exact lod_bool | exact lod_txs) rfl hM.at2 rfl ?_) | (refine v_get rfl rfl (by first | exact lod_int | exact lod_str | exact lod_fcs | exact lod_err | exact lod_bool | exact lod_txs) rfl hM.at3 rfl ?_) | (refine v_get rfl rfl lod_int rfl hM.at0 rfl ?_) | (refine v_putx rfl rfl (one_int m) rfl rfl hM.at0 (of_decide_eq_true rfl) (show _ = vdl ⟨c, m, h.len, 0⟩ from rfl) ?_; intro u hv hc; replace hM := hM.put0 hc hv; clear hv hc) | (refine v_putx rfl rfl (one_int (h.len - m)) rfl rfl hM.at0 (of_decide_eq_true rfl) (show _ = vdl ⟨c, m, h.len - m, 0⟩ from rfl) ?_; intro u hv hc; replace hM := hM.put0 hc hv; clear hv hc) | (refine v_load rfl rfl row_verdict rfl hM.at0 (Nat.le_refl _) (cut_all rfl) ?_) | (refine v_fill rfl rfl row_verdict rfl rfl hM.at1 (vdl_vs ⟨c, m, h.len - m, 0⟩) rfl ?_; intro u hv hc; replace hM := hM.put1 hc hv; clear hv hc)) | go_values | go_skip | go_guarded | go_step | go_upon | (simp only [Int.not_lt, Int.not_le] at *; go_simp))
    exact bodyPost_ret (ret_2 rfl rfl (ld_var row_verdict hM.at1 rfl) rfl) rfl ⟨by rw [hk]; rfl, hM.below⟩
  · repeat' (first | (go_big_may; first | (refine v_putx rfl rfl (one_int 2) rfl rfl hM.at0 (of_decide_eq_true rfl) (show _ = vdl ⟨c, 0, h.len, 2⟩ from rfl) ?_; intro u hv hc; replace hM := hM.put0 hc hv; clear hv hc) | (refine v_load rfl rfl row_verdict rfl hM.at0 (Nat.le_refl _) (cut_all rfl) ?_) | (refine v_fill rfl rfl row_verdict rfl rfl hM.at1 (vdl_vs ⟨c, 0, h.len, 2⟩) rfl ?_; intro u hv hc; replace hM := hM.put1 hc hv; clear hv hc)) | go_values | go_skip | go_guarded | go_step | go_upon | (simp only [Int.not_lt, Int.not_le] at *; go_simp))
    exact bodyPost_ret (ret_2 rfl rfl (ld_var row_verdict hM.at1 rfl) rfl) rfl ⟨by rw [hk]; rfl, hM.below⟩
end Go.Proofs.YtecknicmonhcaabDoor.bulk
