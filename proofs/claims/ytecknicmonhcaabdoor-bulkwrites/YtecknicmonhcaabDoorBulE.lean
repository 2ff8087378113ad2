/- bulk: what ReadStatus and ReadWrap answer. -/
import Derived.Test.YtecknicmonhcaabDoorBulD
namespace Go.Proofs.YtecknicmonhcaabDoor.bulk
open Go Go.RowKit Go.PlainAid Go.Proofs.YtecknicmonhcaabDoor.lane Go.Proofs.YtecknicmonhcaabDoor.pipe Go.Proofs.YtecknicmonhcaabDoor.strike
open Go.Proofs.YtecknicmonhcaabDoor.scsi (bt_range run_part)
set_option linter.unusedVariables false
set_option linter.unusedSimpArgs false
set_option maxRecDepth 100000

theorem nums_from (s : ByteArray) (k : Nat) : nums (s.extract k s.size) = (nums s).drop k := by
  rw [nums_cut, List.take_of_length_le]
  rw [List.length_drop, nums_length]; exact Nat.le_refl _
theorem lg_from (s : ByteArray) (k : Nat) : lgL (nums (s.extract k s.size)) 0 = lgL (nums s) k := by
  rw [nums_from]
  unfold lgL
  simp [List.getD, List.getElem?_drop]
theorem long_at (s : ByteArray) (k : Nat) (hk : k + 4 ≤ s.size) (hm : s.size ≤ maxLen) (w : World) : Calls Tryd.prog 20 #[.string (s.extract k s.size)] w fun e w' => e = .returned (.int .i64 (lgL (nums s) k)) ∧ Below w.heap.size w w' := by
  refine (long_any _ w (by rw [ByteArray.size_extract]; omega) (by rw [ByteArray.size_extract]; omega)).mono ?_
  rintro e w' ⟨rfl, rfl⟩
  exact ⟨by rw [lg_from], Below.refl _ _⟩
theorem run_from (s : ByteArray) (k : Int) (h0 : 0 ≤ k) (h1 : k ≤ s.size) (W : World) : (Instr.slice 9 (.string s) (some (.int .i64 k)) none none).run Tryd.prog W = .ok (.string (s.extract k.toNat s.size)) W :=
  run_slice_string_l (P := Tryd.prog) (w := W) (t := 9) (s := s) (ht := Tryd.underlying9) .i64 k h0 h1
theorem neq_bytes (a b : ByteArray) : (!(a.toList == b.toList)) = decide (a ≠ b) := by
  rw [toList_beq]
  by_cases h : a = b <;> simp [h]
theorem beq_bytes (a b : ByteArray) : (a.toList == b.toList) = decide (a = b) := toList_beq a b
set_option maxHeartbeats 4000000 in
theorem readStatus_any (s : ByteArray) (hm : s.size ≤ maxLen) (w : World) : Calls Tryd.prog 8 #[.string s] w fun e w' => e = .returned (.tuple #[ag (spl (rsW s)), .int .i64 (rsC s)]) ∧ Below w.heap.size w w' := by
  have hM := Mm.nil w
  have hm' := hm
  unfold maxLen at hm'
  by_cases hs : s.size < 13
  · have hc : rsC s = 3 := if_pos hs
    have hw : rsW s = sp0 := if_neg (by rw [hc]; decide)
    rw [hc, hw]
    clear hc hw hm
    go_enter Tryd.func8, Tryd.ntmps8
    repeat' (first | (go_big_may; first | (refine v_alloc rfl zer_status rfl ?_; intro u za hN; replace hM := hM.new hN; clear hN) | (refine v_build rfl rfl bld_status0 ?hbv ?_; (case hbv => simp [Act.eval, Act.put])) | (refine v_fill rfl rfl row_status rfl rfl hM.at0 (spl_vs _) rfl ?_; intro u hv hc; replace hM := hM.put0 hc hv; clear hv hc)) | go_values | go_skip | go_guarded | go_step | go_upon | (simp only [Int.not_lt, Int.not_le] at *; go_simp))
    exact bodyPost_ret (ret_2 rfl rfl (ld_var row_status hM.at0 rfl) rfl) rfl ⟨rfl, hM.below⟩
  have HS : Hid (¬ s.size < 13) := hs
  have HL4 : Hid (∀ u, Calls Tryd.prog 20 #[.string (s.extract 4 s.size)] u fun e w' => e = .returned (.int .i64 (lgL (nums s) 4)) ∧ Below u.heap.size u w') := fun u => long_at s 4 (by omega) hm u
  have HL8 : Hid (∀ u, Calls Tryd.prog 20 #[.string (s.extract 8 s.size)] u fun e w' => e = .returned (.int .i64 (lgL (nums s) 8)) ∧ Below u.heap.size u w') := fun u => long_at s 8 (by omega) hm u
  have HWS : Hid (∀ x u, Calls Tryd.prog 11 #[ag (spl x)] u fun e w' => e = .returned (.tuple #[.string (stT x), .int .i64 (stC x)]) ∧ Below u.heap.size u w') := fun x u => writeStatus_any x u
  have hs4 : ∀ W, (Instr.slice 9 (.string s) (some (.int .i64 4)) none none).run Tryd.prog W = .ok (.string (s.extract 4 s.size)) W := fun W => run_from s 4 (by omega) (by omega) W
  have hs8 : ∀ W, (Instr.slice 9 (.string s) (some (.int .i64 8)) none none).run Tryd.prog W = .ok (.string (s.extract 8 s.size)) W := fun W => run_from s 8 (by omega) (by omega) W
  have h12 : ∀ W, (Instr.index 9 (.string s) (.int .i64 12)).run Tryd.prog W = .ok (.int .u8 (bt s 12)) W := fun W => run_ix s 12 (by omega) W
  obtain ⟨l0, l1⟩ := bt_range s 12
  have e12 : IntKind.i64.wrap (bt s 12) = bt s 12 := by rw [IntKind.wrap_i64]; omega
  have hb12 : bt s 12 = (nums s).getD 12 0 := bt_nums s 12 (by omega)
  have hbld : Value.agg #[.int .i64 (lgL (nums s) 4), .int .i64 (lgL (nums s) 8), .int .i64 (bt s 12)] = ag (spl (rsV s)) := by rw [hb12]; rfl
  clear hm l0 l1 hb12
  go_enter Tryd.func8, Tryd.ntmps8
  repeat' (first | (go_big_may; first | (refine v_alloc rfl zer_status rfl ?_; intro u za hN; replace hM := hM.new hN; clear hN)) | go_values | go_skip | go_guarded | go_step | go_upon | (simp only [Int.not_lt, Int.not_le] at *; go_simp))
  go_cut [4] from 11 to 21 (fun pv wx => ∃ zt : Nat, pv = .pointer (some ⟨zt, 0, none⟩) ∧ Hid (Mm w wx [(zt, 36, spl (rsV s)), (za, 36, spl sp0)]))
  case first =>
    refine reg.wp_abs (fun a0 => a0.tmps.size = 31 ∧ (∀ h, a0.tmps[0]'h = .string s)) ⟨rfl, fun _ => rfl⟩ ?_
    rintro a0 ⟨hsz, s0⟩ ha0
    refine reg.wp_region_E (S := fun W => Ls W []) (E := fun _ => false) (by kernel_rfl) ?_
    replace hM := hM.drew
    refine reg.e_take (i := 0) (.string s) rfl (by kernel_rfl) (by kernel_rfl) (by kernel_rfl) (by kernel_rfl) (fun _ _ _ h => h) (reg.wanted_none rfl) (hM.ls (by simp)) (fun W hW => by simp [execOp, go_sem, Act.put, hsz, s0]) ?_
    refine reg.e_take (i := 1) (.string (s.extract 4 s.size)) rfl (by kernel_rfl) (by kernel_rfl) (by kernel_rfl) (by kernel_rfl) (fun _ _ _ h => h) (reg.wanted_none rfl) (hM.ls (by simp)) (fun W hW => by simp [execOp, go_sem, Act.put, hsz, s0, hs4]) ?_
    refine reg.e_take (i := 3) (.string s) rfl (by kernel_rfl) (by kernel_rfl) (by kernel_rfl) (by kernel_rfl) (fun _ _ _ h => h) (reg.wanted_none rfl) (hM.ls (by simp)) (fun W hW => by simp [execOp, go_sem, Act.put, hsz, s0]) ?_
    refine reg.e_take (i := 4) (.string (s.extract 8 s.size)) rfl (by kernel_rfl) (by kernel_rfl) (by kernel_rfl) (by kernel_rfl) (fun _ _ _ h => h) (reg.wanted_none rfl) (hM.ls (by simp)) (fun W hW => by simp [execOp, go_sem, Act.put, hsz, s0, hs8]) ?_
    refine reg.e_take (i := 6) (.string s) rfl (by kernel_rfl) (by kernel_rfl) (by kernel_rfl) (by kernel_rfl) (fun _ _ _ h => h) (reg.wanted_none rfl) (hM.ls (by simp)) (fun W hW => by simp [execOp, go_sem, Act.put, hsz, s0]) ?_
    refine reg.e_take (i := 7) (.int .u8 (bt s 12)) rfl (by kernel_rfl) (by kernel_rfl) (by kernel_rfl) (by kernel_rfl) (fun _ _ _ h => h) (reg.wanted_none rfl) (hM.ls (by simp)) (fun W hW => by simp [execOp, go_sem, Act.put, hsz, s0, h12]) ?_
    refine reg.e_take (i := 8) (.int .i64 (bt s 12)) rfl (by kernel_rfl) (by kernel_rfl) (by kernel_rfl) (by kernel_rfl) (fun _ _ _ h => h) (reg.wanted_none rfl) (hM.ls (by simp)) (fun W hW => by simp [execOp, go_sem, Act.put, hsz, s0, e12]) ?_
    refine reg.e_two 2 10 (by kernel_rfl) rfl rfl ?_ ?_
    · refine reg.r_call (i := 2) 20 #[.string (s.extract 4 s.size)] rfl (reg.wanted_none rfl) (by simp [execOp, go_sem, Act.put, hsz, s0]) ((HL4.out _).mono ?_)
      rintro re ru1 ⟨rfl, rhv⟩
      replace hM := hM.call rhv
      clear rhv
      refine ⟨_, rfl, hM.ls (by simp), ?_⟩
      refine reg.e_two 5 10 (by kernel_rfl) rfl rfl ?_ ?_
      · refine reg.r_call (i := 5) 20 #[.string (s.extract 8 s.size)] rfl (reg.wanted_none rfl) (by simp [execOp, go_sem, Act.put, hsz, s0]) ((HL8.out _).mono ?_)
        rintro re ru2 ⟨rfl, rhv⟩
        replace hM := hM.call rhv
        clear rhv
        refine ⟨_, rfl, hM.ls (by simp), ?_⟩
        refine reg.e_take (i := 9) (ag (spl (rsV s))) rfl (by kernel_rfl) (by kernel_rfl) (by kernel_rfl) (by kernel_rfl) (fun _ _ _ h => h) (reg.wanted_none rfl) (hM.ls (by simp)) (fun W hW => by simp [execOp, go_sem, Act.put, hsz, s0, hbld]) ?_
        refine reg.e_one 10 (by kernel_rfl) rfl ?_
        refine r_alloc (i := 10) rfl (reg.wanted_none rfl) rfl zer_status ?_
        intro ru3 zt rhn
        replace hM := hM.new rhn
        clear rhn
        refine ⟨hM.ls (by simp), ?_⟩
        refine reg.e_one 11 (by kernel_rfl) rfl ?_
        refine r_fill (i := 11) rfl (reg.wanted_none rfl) rfl row_status (by simp [go_sem, Act.put, hsz, s0]) (by simp [go_sem, Act.put, hsz, s0]) hM.at0 (spl_vs (rsV s)) rfl ?_
        intro ru4 rhv rhc
        replace hM := hM.put0 rhc rhv
        clear rhc rhv
        refine ⟨hM.ls (by simp), ?_⟩
        refine reg.e_done (by kernel_rfl) ?_ _
        subst ha0
        clear hsz s0
        go_simp
        repeat' (first | go_values | go_skip | go_guarded | go_step | go_upon | (simp only [Int.not_lt, Int.not_le] at *; go_simp))
        go_meet
        case rel => exact ⟨zt, rfl, hM⟩
      · refine r_alloc (i := 10) rfl (reg.wanted_none rfl) rfl zer_status ?_
        intro ru5 zt rhn
        replace hM := hM.new rhn
        clear rhn
        refine ⟨hM.ls (by simp), ?_⟩
        refine reg.e_one 5 (by kernel_rfl) rfl ?_
        refine reg.r_call (i := 5) 20 #[.string (s.extract 8 s.size)] rfl (reg.wanted_none rfl) (by simp [execOp, go_sem, Act.put, hsz, s0]) ((HL8.out _).mono ?_)
        rintro re ru6 ⟨rfl, rhv⟩
        replace hM := hM.call rhv
        clear rhv
        refine ⟨_, rfl, hM.ls (by simp), ?_⟩
        refine reg.e_take (i := 9) (ag (spl (rsV s))) rfl (by kernel_rfl) (by kernel_rfl) (by kernel_rfl) (by kernel_rfl) (fun _ _ _ h => h) (reg.wanted_none rfl) (hM.ls (by simp)) (fun W hW => by simp [execOp, go_sem, Act.put, hsz, s0, hbld]) ?_
        refine reg.e_one 11 (by kernel_rfl) rfl ?_
        refine r_fill (i := 11) rfl (reg.wanted_none rfl) rfl row_status (by simp [go_sem, Act.put, hsz, s0]) (by simp [go_sem, Act.put, hsz, s0]) hM.at0 (spl_vs (rsV s)) rfl ?_
        intro ru7 rhv rhc
        replace hM := hM.put0 rhc rhv
        clear rhc rhv
        refine ⟨hM.ls (by simp), ?_⟩
        refine reg.e_done (by kernel_rfl) ?_ _
        subst ha0
        clear hsz s0
        go_simp
        repeat' (first | go_values | go_skip | go_guarded | go_step | go_upon | (simp only [Int.not_lt, Int.not_le] at *; go_simp))
        go_meet
        case rel => exact ⟨zt, rfl, hM⟩
    · refine r_alloc (i := 10) rfl (reg.wanted_none rfl) rfl zer_status ?_
      intro ru8 zt rhn
      replace hM := hM.new rhn
      clear rhn
      refine ⟨hM.ls (by simp), ?_⟩
      refine reg.e_one 2 (by kernel_rfl) rfl ?_
      refine reg.r_call (i := 2) 20 #[.string (s.extract 4 s.size)] rfl (reg.wanted_none rfl) (by simp [execOp, go_sem, Act.put, hsz, s0]) ((HL4.out _).mono ?_)
      rintro re ru9 ⟨rfl, rhv⟩
      replace hM := hM.call rhv
      clear rhv
      refine ⟨_, rfl, hM.ls (by simp), ?_⟩
      refine reg.e_one 5 (by kernel_rfl) rfl ?_
      refine reg.r_call (i := 5) 20 #[.string (s.extract 8 s.size)] rfl (reg.wanted_none rfl) (by simp [execOp, go_sem, Act.put, hsz, s0]) ((HL8.out _).mono ?_)
      rintro re ru10 ⟨rfl, rhv⟩
      replace hM := hM.call rhv
      clear rhv
      refine ⟨_, rfl, hM.ls (by simp), ?_⟩
      refine reg.e_take (i := 9) (ag (spl (rsV s))) rfl (by kernel_rfl) (by kernel_rfl) (by kernel_rfl) (by kernel_rfl) (fun _ _ _ h => h) (reg.wanted_none rfl) (hM.ls (by simp)) (fun W hW => by simp [execOp, go_sem, Act.put, hsz, s0, hbld]) ?_
      refine reg.e_one 11 (by kernel_rfl) rfl ?_
      refine r_fill (i := 11) rfl (reg.wanted_none rfl) rfl row_status (by simp [go_sem, Act.put, hsz, s0]) (by simp [go_sem, Act.put, hsz, s0]) hM.at0 (spl_vs (rsV s)) rfl ?_
      intro ru11 rhv rhc
      replace hM := hM.put0 rhc rhv
      clear rhc rhv
      refine ⟨hM.ls (by simp), ?_⟩
      refine reg.e_done (by kernel_rfl) ?_ _
      subst ha0
      clear hsz s0
      go_simp
      repeat' (first | go_values | go_skip | go_guarded | go_step | go_upon | (simp only [Int.not_lt, Int.not_le] at *; go_simp))
      go_meet
      case rel => exact ⟨zt, rfl, hM⟩
  case rest =>
  clear hM
  obtain ⟨zt, rfl, HX⟩ := hcut
  rename World => u4
  have hM := HX.out
  clear HX hs4 hs8 h12 e12 hbld HL4 HL8
  repeat' (first | (go_big_may; first | (refine v_load rfl rfl row_status rfl hM.at0 (Nat.le_refl _) (cut_all rfl) ?_)) | go_values | go_skip | go_guarded | go_step | go_upon | (simp only [Int.not_lt, Int.not_le] at *; go_simp))
  refine (HWS.out _ _).mono ?_
  rintro e u5 ⟨rfl, hb⟩
  replace hM := hM.call hb
  clear hb HWS
  by_cases hq : stT (rsV s) = s
  · have hc : rsC s = 0 := by unfold rsC; rw [if_neg HS.out, if_pos hq]
    have hw : rsW s = rsV s := if_pos hc
    have HCW : Hid (rsC s = 0 ∧ rsW s = rsV s) := ⟨hc, hw⟩
    have e1 : ((stT (rsV s)).toList == s.toList) = true := by rw [beq_bytes]; exact decide_eq_true hq
    clear hc hw hq
    repeat' (first | (go_big_may; first | (refine v_load rfl rfl row_status rfl hM.at0 (Nat.le_refl _) (cut_all rfl) ?_) | (refine v_fill rfl rfl row_status rfl rfl hM.at1 (spl_vs _) rfl ?_; intro u hv hc; replace hM := hM.put1 hc hv; clear hv hc)) | go_values | go_skip | go_guarded | go_step | go_upon | (simp only [Int.not_lt, Int.not_le] at *; go_simp))
    exact bodyPost_ret (ret_2 rfl rfl (ld_var row_status hM.at1 rfl) rfl) rfl ⟨by rw [HCW.out.1, HCW.out.2]; rfl, hM.below⟩
  · have hc : rsC s = 4 := by unfold rsC; rw [if_neg HS.out, if_neg hq]
    have hw : rsW s = sp0 := if_neg (by rw [hc]; decide)
    have HCW : Hid (rsC s = 4 ∧ rsW s = sp0) := ⟨hc, hw⟩
    have e1 : ((stT (rsV s)).toList == s.toList) = false := by rw [beq_bytes]; exact decide_eq_false hq
    clear hc hw hq
    repeat' (first | (go_big_may; first | (refine v_build rfl rfl bld_status0 ?hbv ?_; (case hbv => simp [Act.eval, Act.put])) | (refine v_fill rfl rfl row_status rfl rfl hM.at1 (spl_vs _) rfl ?_; intro u hv hc; replace hM := hM.put1 hc hv; clear hv hc)) | go_values | go_skip | go_guarded | go_step | go_upon | (simp only [Int.not_lt, Int.not_le] at *; go_simp))
    exact bodyPost_ret (ret_2 rfl rfl (ld_var row_status hM.at1 rfl) rfl) rfl ⟨by rw [HCW.out.1, HCW.out.2]; rfl, hM.below⟩
set_option maxHeartbeats 4000000 in
theorem readWrap_any (s : ByteArray) (hm : s.size ≤ maxLen) (w : World) : Calls Tryd.prog 32 #[.string s] w fun e w' => e = .returned (.tuple #[ag (wpl (rdW s)), .int .i64 (rdC s)]) ∧ Below w.heap.size w w' := by
  have hM := Mm.nil w
  have hm' := hm
  unfold maxLen at hm'
  by_cases hs : s.size < 31
  · have hc : rdC s = 3 := if_pos hs
    have hw : rdW s = wp0 := if_neg (by rw [hc]; decide)
    rw [hc, hw]
    clear hc hw hm
    go_enter Tryd.func32, Tryd.ntmps32
    repeat' (first | (go_big_may; first | (refine v_alloc rfl zer_wrap rfl ?_; intro u za hN; replace hM := hM.new hN; clear hN) | (refine v_build rfl rfl bld_wrap0 ?hbv ?_; (case hbv => simp [Act.eval, Act.put])) | (refine v_fill rfl rfl row_wrap rfl rfl hM.at0 (wpl_vs _) rfl ?_; intro u hv hc; replace hM := hM.put0 hc hv; clear hv hc)) | go_values | go_skip | go_guarded | go_step | go_upon | (simp only [Int.not_lt, Int.not_le] at *; go_simp))
    exact bodyPost_ret (ret_2 rfl rfl (ld_var row_wrap hM.at0 rfl) rfl) rfl ⟨rfl, hM.below⟩
  have HS : Hid (¬ s.size < 31) := hs
  have HL4 : Hid (∀ u, Calls Tryd.prog 20 #[.string (s.extract 4 s.size)] u fun e w' => e = .returned (.int .i64 (lgL (nums s) 4)) ∧ Below u.heap.size u w') := fun u => long_at s 4 (by omega) hm u
  have HL8 : Hid (∀ u, Calls Tryd.prog 20 #[.string (s.extract 8 s.size)] u fun e w' => e = .returned (.int .i64 (lgL (nums s) 8)) ∧ Below u.heap.size u w') := fun u => long_at s 8 (by omega) hm u
  have HWS : Hid (∀ u, Calls Tryd.prog 5 #[ag (wpl (rdV s))] u fun e w' => e = .returned (.tuple #[.string (wrT (rdV s)), .int .i64 (wrC (rdV s))]) ∧ Below u.heap.size u w') := fun u => writeWrap_any (rdV s) (by show (s.extract _ _).size ≤ _; rw [ByteArray.size_extract]; unfold maxLen; omega) u
  have hs4 : ∀ W, (Instr.slice 9 (.string s) (some (.int .i64 4)) none none).run Tryd.prog W = .ok (.string (s.extract 4 s.size)) W := fun W => run_from s 4 (by omega) (by omega) W
  have hs8 : ∀ W, (Instr.slice 9 (.string s) (some (.int .i64 8)) none none).run Tryd.prog W = .ok (.string (s.extract 8 s.size)) W := fun W => run_from s 8 (by omega) (by omega) W
  have h12 : ∀ W, (Instr.index 9 (.string s) (.int .i64 12)).run Tryd.prog W = .ok (.int .u8 (bt s 12)) W := fun W => run_ix s 12 (by omega) W
  have h13 : ∀ W, (Instr.index 9 (.string s) (.int .i64 13)).run Tryd.prog W = .ok (.int .u8 (bt s 13)) W := fun W => run_ix s 13 (by omega) W
  have h14 : ∀ W, (Instr.index 9 (.string s) (.int .i64 14)).run Tryd.prog W = .ok (.int .u8 (bt s 14)) W := fun W => run_ix s 14 (by omega) W
  obtain ⟨l0, l1⟩ := bt_range s 13
  obtain ⟨m0, m1⟩ := bt_range s 14
  have e13 : IntKind.i64.wrap (bt s 13) = bt s 13 := by rw [IntKind.wrap_i64]; omega
  have e14 : IntKind.i64.wrap (bt s 14) = bt s 14 := by rw [IntKind.wrap_i64]; omega
  obtain ⟨c, hc⟩ : ∃ c, (bt s 12 == 128) = c := ⟨_, rfl⟩
  obtain ⟨n, hn⟩ : ∃ n : Nat, min (bt s 14).toNat 16 = n := ⟨_, rfl⟩
  have hmin : min (bt s 14) 16 = (n : Int) := by omega
  have hif : (if (16 : Int) < bt s 14 then (16 : Int) else bt s 14) = (n : Int) := by split <;> omega
  obtain ⟨J, hJ⟩ : ∃ J : Nat, 15 + n = J := ⟨_, rfl⟩
  have hJw : IntKind.i64.wrap (15 + (n : Int)) = (J : Int) := by rw [IntKind.wrap_i64]; omega
  have hs15 : ∀ W, (Instr.slice 9 (.string s) (some (.int .i64 15)) (some (.int .i64 (J : Int))) none).run Tryd.prog W = .ok (.string (s.extract 15 J)) W := fun W => run_part s 15 (J : Int) (by omega) (by omega) (by omega) W
  have hbld : Value.agg #[.int .i64 (lgL (nums s) 4), .int .i64 (lgL (nums s) 8), .bool c, .int .i64 (bt s 13), .string (s.extract 15 J)] = ag (wpl (rdV s)) := by
    have e1 : bt s 12 = (nums s).getD 12 0 := bt_nums s 12 (by omega)
    have e2 : bt s 13 = (nums s).getD 13 0 := bt_nums s 13 (by omega)
    have e3 : bt s 14 = (nums s).getD 14 0 := bt_nums s 14 (by omega)
    rw [← hc, ← hJ, ← hn, e1, e2, e3]
    show Value.agg #[_, _, .bool ((nums s).getD 12 0 == 128), _, _] = Value.agg #[_, _, .bool (decide ((nums s).getD 12 0 = 128)), _, _]
    congr 1
  have HC : Hid ((bt s 12 == 128) = c) := hc
  have HJ : Hid (IntKind.i64.wrap (15 + (n : Int)) = (J : Int)) := hJw
  clear hm l0 l1 hc hn hJ hJw
  go_enter Tryd.func32, Tryd.ntmps32
  repeat' (first | (go_big_may; first | (refine v_alloc rfl zer_wrap rfl ?_; intro u za hN; replace hM := hM.new hN; clear hN)) | go_values | go_skip | go_guarded | go_step | go_upon | (simp only [Int.not_lt, Int.not_le] at *; go_simp))
  clear h14 e14 hmin hif m0 m1
  go_cut [5] from 16 to 33 (fun pv wx => ∃ zt : Nat, pv = .pointer (some ⟨zt, 0, none⟩) ∧ Hid (Mm w wx [(zt, 31, wpl (rdV s)), (za, 31, wpl wp0)]))
  case first =>
    refine reg.wp_abs (fun a0 => a0.tmps.size = 43 ∧ (∀ h, a0.tmps[0]'h = .string s) ∧ (∀ h, a0.tmps[4]'h = .int .i64 (n : Int))) ⟨rfl, fun _ => rfl, fun _ => rfl⟩ ?_
    rintro a0 ⟨hsz, s0, s4⟩ ha0
    refine reg.wp_region_E (S := fun W => Ls W []) (E := fun _ => false) (by kernel_rfl) ?_
    replace hM := hM.drew
    refine reg.e_take (i := 0) (.string s) rfl (by kernel_rfl) (by kernel_rfl) (by kernel_rfl) (by kernel_rfl) (fun _ _ _ h => h) (reg.wanted_none rfl) (hM.ls (by simp)) (fun W hW => by simp [execOp, go_sem, Act.put, hsz, s0, s4]) ?_
    refine reg.e_take (i := 1) (.string (s.extract 4 s.size)) rfl (by kernel_rfl) (by kernel_rfl) (by kernel_rfl) (by kernel_rfl) (fun _ _ _ h => h) (reg.wanted_none rfl) (hM.ls (by simp)) (fun W hW => by simp [execOp, go_sem, Act.put, hsz, s0, s4, hs4]) ?_
    refine reg.e_take (i := 3) (.string s) rfl (by kernel_rfl) (by kernel_rfl) (by kernel_rfl) (by kernel_rfl) (fun _ _ _ h => h) (reg.wanted_none rfl) (hM.ls (by simp)) (fun W hW => by simp [execOp, go_sem, Act.put, hsz, s0, s4]) ?_
    refine reg.e_take (i := 4) (.string (s.extract 8 s.size)) rfl (by kernel_rfl) (by kernel_rfl) (by kernel_rfl) (by kernel_rfl) (fun _ _ _ h => h) (reg.wanted_none rfl) (hM.ls (by simp)) (fun W hW => by simp [execOp, go_sem, Act.put, hsz, s0, s4, hs8]) ?_
    refine reg.e_take (i := 6) (.string s) rfl (by kernel_rfl) (by kernel_rfl) (by kernel_rfl) (by kernel_rfl) (fun _ _ _ h => h) (reg.wanted_none rfl) (hM.ls (by simp)) (fun W hW => by simp [execOp, go_sem, Act.put, hsz, s0, s4]) ?_
    refine reg.e_take (i := 7) (.int .u8 (bt s 12)) rfl (by kernel_rfl) (by kernel_rfl) (by kernel_rfl) (by kernel_rfl) (fun _ _ _ h => h) (reg.wanted_none rfl) (hM.ls (by simp)) (fun W hW => by simp [execOp, go_sem, Act.put, hsz, s0, s4, h12]) ?_
    refine reg.e_take (i := 8) (.bool c) rfl (by kernel_rfl) (by kernel_rfl) (by kernel_rfl) (by kernel_rfl) (fun _ _ _ h => h) (reg.wanted_none rfl) (hM.ls (by simp)) (fun W hW => by simp [execOp, go_sem, Act.put, hsz, s0, s4, HC.out]) ?_
    refine reg.e_take (i := 9) (.string s) rfl (by kernel_rfl) (by kernel_rfl) (by kernel_rfl) (by kernel_rfl) (fun _ _ _ h => h) (reg.wanted_none rfl) (hM.ls (by simp)) (fun W hW => by simp [execOp, go_sem, Act.put, hsz, s0, s4]) ?_
    refine reg.e_take (i := 10) (.int .u8 (bt s 13)) rfl (by kernel_rfl) (by kernel_rfl) (by kernel_rfl) (by kernel_rfl) (fun _ _ _ h => h) (reg.wanted_none rfl) (hM.ls (by simp)) (fun W hW => by simp [execOp, go_sem, Act.put, hsz, s0, s4, h13]) ?_
    refine reg.e_take (i := 11) (.int .i64 (bt s 13)) rfl (by kernel_rfl) (by kernel_rfl) (by kernel_rfl) (by kernel_rfl) (fun _ _ _ h => h) (reg.wanted_none rfl) (hM.ls (by simp)) (fun W hW => by simp [execOp, go_sem, Act.put, hsz, s0, s4, e13]) ?_
    refine reg.e_take (i := 12) (.string s) rfl (by kernel_rfl) (by kernel_rfl) (by kernel_rfl) (by kernel_rfl) (fun _ _ _ h => h) (reg.wanted_none rfl) (hM.ls (by simp)) (fun W hW => by simp [execOp, go_sem, Act.put, hsz, s0, s4]) ?_
    refine reg.e_take (i := 13) (.int .i64 (n : Int)) rfl (by kernel_rfl) (by kernel_rfl) (by kernel_rfl) (by kernel_rfl) (fun _ _ _ h => h) (reg.wanted_none rfl) (hM.ls (by simp)) (fun W hW => by simp [execOp, go_sem, Act.put, hsz, s0, s4]) ?_
    refine reg.e_take (i := 14) (.int .i64 (J : Int)) rfl (by kernel_rfl) (by kernel_rfl) (by kernel_rfl) (by kernel_rfl) (fun _ _ _ h => h) (reg.wanted_none rfl) (hM.ls (by simp)) (fun W hW => by simp [execOp, go_sem, Act.put, hsz, s0, s4, HJ.out]) ?_
    refine reg.e_take (i := 15) (.string (s.extract 15 J)) rfl (by kernel_rfl) (by kernel_rfl) (by kernel_rfl) (by kernel_rfl) (fun _ _ _ h => h) (reg.wanted_none rfl) (hM.ls (by simp)) (fun W hW => by simp [execOp, go_sem, Act.put, hsz, s0, s4, hs15]) ?_
    refine reg.e_two 2 17 (by kernel_rfl) rfl rfl ?_ ?_
    · refine reg.r_call (i := 2) 20 #[.string (s.extract 4 s.size)] rfl (reg.wanted_none rfl) (by simp [execOp, go_sem, Act.put, hsz, s0, s4]) ((HL4.out _).mono ?_)
      rintro re ru1 ⟨rfl, rhv⟩
      replace hM := hM.call rhv
      clear rhv
      refine ⟨_, rfl, hM.ls (by simp), ?_⟩
      refine reg.e_two 5 17 (by kernel_rfl) rfl rfl ?_ ?_
      · refine reg.r_call (i := 5) 20 #[.string (s.extract 8 s.size)] rfl (reg.wanted_none rfl) (by simp [execOp, go_sem, Act.put, hsz, s0, s4]) ((HL8.out _).mono ?_)
        rintro re ru2 ⟨rfl, rhv⟩
        replace hM := hM.call rhv
        clear rhv
        refine ⟨_, rfl, hM.ls (by simp), ?_⟩
        refine reg.e_take (i := 16) (ag (wpl (rdV s))) rfl (by kernel_rfl) (by kernel_rfl) (by kernel_rfl) (by kernel_rfl) (fun _ _ _ h => h) (reg.wanted_none rfl) (hM.ls (by simp)) (fun W hW => by simp [execOp, go_sem, Act.put, hsz, s0, s4, hbld]) ?_
        refine reg.e_one 17 (by kernel_rfl) rfl ?_
        refine r_alloc (i := 17) rfl (reg.wanted_none rfl) rfl zer_wrap ?_
        intro ru3 zt rhn
        replace hM := hM.new rhn
        clear rhn
        refine ⟨hM.ls (by simp), ?_⟩
        refine reg.e_one 18 (by kernel_rfl) rfl ?_
        refine r_fill (i := 18) rfl (reg.wanted_none rfl) rfl row_wrap (by simp [go_sem, Act.put, hsz, s0, s4]) (by simp [go_sem, Act.put, hsz, s0, s4]) hM.at0 (wpl_vs (rdV s)) rfl ?_
        intro ru4 rhv rhc
        replace hM := hM.put0 rhc rhv
        clear rhc rhv
        refine ⟨hM.ls (by simp), ?_⟩
        refine reg.e_done (by kernel_rfl) ?_ _
        subst ha0
        clear hsz s0 s4
        go_simp
        repeat' (first | go_values | go_skip | go_guarded | go_step | go_upon | (simp only [Int.not_lt, Int.not_le] at *; go_simp))
        go_meet
        case rel => exact ⟨zt, rfl, hM⟩
      · refine r_alloc (i := 17) rfl (reg.wanted_none rfl) rfl zer_wrap ?_
        intro ru5 zt rhn
        replace hM := hM.new rhn
        clear rhn
        refine ⟨hM.ls (by simp), ?_⟩
        refine reg.e_one 5 (by kernel_rfl) rfl ?_
        refine reg.r_call (i := 5) 20 #[.string (s.extract 8 s.size)] rfl (reg.wanted_none rfl) (by simp [execOp, go_sem, Act.put, hsz, s0, s4]) ((HL8.out _).mono ?_)
        rintro re ru6 ⟨rfl, rhv⟩
        replace hM := hM.call rhv
        clear rhv
        refine ⟨_, rfl, hM.ls (by simp), ?_⟩
        refine reg.e_take (i := 16) (ag (wpl (rdV s))) rfl (by kernel_rfl) (by kernel_rfl) (by kernel_rfl) (by kernel_rfl) (fun _ _ _ h => h) (reg.wanted_none rfl) (hM.ls (by simp)) (fun W hW => by simp [execOp, go_sem, Act.put, hsz, s0, s4, hbld]) ?_
        refine reg.e_one 18 (by kernel_rfl) rfl ?_
        refine r_fill (i := 18) rfl (reg.wanted_none rfl) rfl row_wrap (by simp [go_sem, Act.put, hsz, s0, s4]) (by simp [go_sem, Act.put, hsz, s0, s4]) hM.at0 (wpl_vs (rdV s)) rfl ?_
        intro ru7 rhv rhc
        replace hM := hM.put0 rhc rhv
        clear rhc rhv
        refine ⟨hM.ls (by simp), ?_⟩
        refine reg.e_done (by kernel_rfl) ?_ _
        subst ha0
        clear hsz s0 s4
        go_simp
        repeat' (first | go_values | go_skip | go_guarded | go_step | go_upon | (simp only [Int.not_lt, Int.not_le] at *; go_simp))
        go_meet
        case rel => exact ⟨zt, rfl, hM⟩
    · refine r_alloc (i := 17) rfl (reg.wanted_none rfl) rfl zer_wrap ?_
      intro ru8 zt rhn
      replace hM := hM.new rhn
      clear rhn
      refine ⟨hM.ls (by simp), ?_⟩
      refine reg.e_one 2 (by kernel_rfl) rfl ?_
      refine reg.r_call (i := 2) 20 #[.string (s.extract 4 s.size)] rfl (reg.wanted_none rfl) (by simp [execOp, go_sem, Act.put, hsz, s0, s4]) ((HL4.out _).mono ?_)
      rintro re ru9 ⟨rfl, rhv⟩
      replace hM := hM.call rhv
      clear rhv
      refine ⟨_, rfl, hM.ls (by simp), ?_⟩
      refine reg.e_one 5 (by kernel_rfl) rfl ?_
      refine reg.r_call (i := 5) 20 #[.string (s.extract 8 s.size)] rfl (reg.wanted_none rfl) (by simp [execOp, go_sem, Act.put, hsz, s0, s4]) ((HL8.out _).mono ?_)
      rintro re ru10 ⟨rfl, rhv⟩
      replace hM := hM.call rhv
      clear rhv
      refine ⟨_, rfl, hM.ls (by simp), ?_⟩
      refine reg.e_take (i := 16) (ag (wpl (rdV s))) rfl (by kernel_rfl) (by kernel_rfl) (by kernel_rfl) (by kernel_rfl) (fun _ _ _ h => h) (reg.wanted_none rfl) (hM.ls (by simp)) (fun W hW => by simp [execOp, go_sem, Act.put, hsz, s0, s4, hbld]) ?_
      refine reg.e_one 18 (by kernel_rfl) rfl ?_
      refine r_fill (i := 18) rfl (reg.wanted_none rfl) rfl row_wrap (by simp [go_sem, Act.put, hsz, s0, s4]) (by simp [go_sem, Act.put, hsz, s0, s4]) hM.at0 (wpl_vs (rdV s)) rfl ?_
      intro ru11 rhv rhc
      replace hM := hM.put0 rhc rhv
      clear rhc rhv
      refine ⟨hM.ls (by simp), ?_⟩
      refine reg.e_done (by kernel_rfl) ?_ _
      subst ha0
      clear hsz s0 s4
      go_simp
      repeat' (first | go_values | go_skip | go_guarded | go_step | go_upon | (simp only [Int.not_lt, Int.not_le] at *; go_simp))
      go_meet
      case rel => exact ⟨zt, rfl, hM⟩
  case rest =>
  clear hM
  obtain ⟨zt, rfl, HX⟩ := hcut
  rename World => u4
  have hM := HX.out
  clear HX hs4 hs8 h12 h13 e13 hs15 hbld HL4 HL8 HC HJ
  repeat' (first | (go_big_may; first | (refine v_load rfl rfl row_wrap rfl hM.at0 (Nat.le_refl _) (cut_all rfl) ?_)) | go_values | go_skip | go_guarded | go_step | go_upon | (simp only [Int.not_lt, Int.not_le] at *; go_simp))
  refine (HWS.out _).mono ?_
  rintro e u5 ⟨rfl, hb⟩
  replace hM := hM.call hb
  clear hb HWS
  by_cases hq : wrT (rdV s) = s
  · have hc : rdC s = 0 := by unfold rdC; rw [if_neg HS.out, if_pos hq]
    have hw : rdW s = rdV s := if_pos hc
    have HCW : Hid (rdC s = 0 ∧ rdW s = rdV s) := ⟨hc, hw⟩
    have e1 : ((wrT (rdV s)).toList == s.toList) = true := by rw [beq_bytes]; exact decide_eq_true hq
    clear hc hw hq
    repeat' (first | (go_big_may; first | (refine v_load rfl rfl row_wrap rfl hM.at0 (Nat.le_refl _) (cut_all rfl) ?_) | (refine v_fill rfl rfl row_wrap rfl rfl hM.at1 (wpl_vs _) rfl ?_; intro u hv hc; replace hM := hM.put1 hc hv; clear hv hc)) | go_values | go_skip | go_guarded | go_step | go_upon | (simp only [Int.not_lt, Int.not_le] at *; go_simp))
    exact bodyPost_ret (ret_2 rfl rfl (ld_var row_wrap hM.at1 rfl) rfl) rfl ⟨by rw [HCW.out.1, HCW.out.2]; rfl, hM.below⟩
  · have hc : rdC s = 4 := by unfold rdC; rw [if_neg HS.out, if_neg hq]
    have hw : rdW s = wp0 := if_neg (by rw [hc]; decide)
    have HCW : Hid (rdC s = 4 ∧ rdW s = wp0) := ⟨hc, hw⟩
    have e1 : ((wrT (rdV s)).toList == s.toList) = false := by rw [beq_bytes]; exact decide_eq_false hq
    clear hc hw hq
    repeat' (first | (go_big_may; first | (refine v_build rfl rfl bld_wrap0 ?hbv ?_; (case hbv => simp [Act.eval, Act.put])) | (refine v_fill rfl rfl row_wrap rfl rfl hM.at1 (wpl_vs _) rfl ?_; intro u hv hc; replace hM := hM.put1 hc hv; clear hv hc)) | go_values | go_skip | go_guarded | go_step | go_upon | (simp only [Int.not_lt, Int.not_le] at *; go_simp))
    exact bodyPost_ret (ret_2 rfl rfl (ld_var row_wrap hM.at1 rfl) rfl) rfl ⟨by rw [HCW.out.1, HCW.out.2]; rfl, hM.below⟩
end Go.Proofs.YtecknicmonhcaabDoor.bulk
