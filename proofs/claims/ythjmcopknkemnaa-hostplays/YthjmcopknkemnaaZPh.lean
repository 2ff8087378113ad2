/- host, the document's answer: what Submitted, Worked and Reaped answer. -/
import Derived.Test.YthjmcopknkemnaaZPe
import Derived.Test.YthjmcopknkemnaaHstH
import Derived.Test.YthjmcopknkemnaaZPa
import Derived.Test.YthjmcopknkemnaaZPd
import Derived.Test.YthjmcopknkemnaaHstE
import Derived.Test.YthjmcopknkemnaaHstK
import Derived.Test.YthjmcopknkemnaaRngO
import Derived.Test.YthjmcopknkemnaaZPb
namespace Go.Proofs.Ythjmcopknkemnaa.host
open Go Go.RowKit
open Go.Proofs.Ythjmcopknkemnaa
open Go.Proofs.Ythjmcopknkemnaa.slots (Row row_board row_cmd Chg ag fl Wf bsq)
open Go.Proofs.Ythjmcopknkemnaa.ring (Ces Rcs rgV rgW Rg Ce ceV named keep below_drewN wp_abs h_take h_call h_value h_skip g_take g_pass wanted_of unwanted_of)
set_option linter.unusedVariables false
set_option linter.unusedSimpArgs false
set_option maxRecDepth 100000

/-- a cell's number is read -/
theorem v_getC {ops : Array Oper} {rest : List Oper} {o : Oper} {a : Act} {w : World} {Q : Exit → Act → World → Prop} (hgd : Region.wanted o (yielded ops a.tmps) = true) {t : TypeId} {x : Operand} (ho : o.op = .load t x) (ht : t = 3 ∨ t = 24)
    {B j : Nat} {v : Value} (hx : a.eval x = .pointer (some ⟨B, j, none⟩)) (hc : w.cell? ⟨B, j, none⟩ = some v)
    (h : wpList Try.prog ops Q rest (a.put o.dst v) w) : wpList Try.prog ops Q (o :: rest) a w := by
  refine wpList_step fun K hK' => ?_
  rw [if_pos hgd]
  have hs : (Instr.loadAt t (.pointer (some ⟨B, j, none⟩))).run Try.prog w = .ok v w := by
    rcases ht with rfl | rfl <;> simp [go_sem, hc]
  unfold Oper.wp execOp
  simp only [ho, hx, Sem.run_bind, hs, Result.andThen_ok, Sem.run_pure]
  exact hK' _ _ h
theorem ex_getc {o : Oper} {a : Act} {W : World} {t : TypeId} {x : Operand} (ho : o.op = .load t x) (ht : t = 3 ∨ t = 31) {B j : Nat} {v : Value} (hx : a.eval x = .pointer (some ⟨B, j, none⟩)) (hc : W.cell? ⟨B, j, none⟩ = some v) :
    (execOp a.eval o).run Try.prog W = .ok (.value v) W := by
  have hs : (Instr.loadAt t (.pointer (some ⟨B, j, none⟩))).run Try.prog W = .ok v W := by
    rcases ht with rfl | rfl <;> simp [go_sem, hc]
  unfold execOp
  simp only [ho, hx, Sem.run_bind, hs, Result.andThen_ok, Sem.run_pure]
abbrev mk2 (a b : Int) : List Value := ivs [a, b]
theorem mk2_vs (a b : Int) : Vs (mk2 a b) 2 := ivs_vs rfl
set_option maxHeartbeats 4000000 in
theorem submitted_no (vc ve : Value) (m : Mc) (x : Cm) (w : World) (hi : In w vc ve m) (hs : sbC m x ≠ 0) :
    Calls Try.prog 14 #[agv (mvl vc ve m), cmV x] w fun e w' => e = .returned (.tuple #[agv (mvl vc ve m), .int .i64 (sbC m x)]) ∧ Below w.heap.size w w' := by
  have hM : Mv w w [] [(false, vc, m.c.C), (false, ve, m.e.C)] := ((Mv.nil w).old hi.e).old hi.c
  have HV : Hid (Vs (mvl vc ve m) 606) := hi.vs
  have HL0 : Hid (0 + 606 ≤ (mvl vc ve m).length) := by show _ ≤ _; rw [hi.vs.len]; exact Nat.le_refl _
  have HA0 : Hid (cv (mvl vc ve m) 0 606 = mvl vc ve m) := cv_all hi.vs.len
  have HL6 : Hid (0 + 6 ≤ (mvl vc ve m).length) := by show _ ≤ _; rw [hi.vs.len]; omega
  have HA6 : Hid (cv (mvl vc ve m) 0 6 = rgl vc m.c) := cv_c _ _ _
  have HMA : Hid (∀ u, Below w.heap.size w u → Calls Try.prog 38 #[agv (mvl vc ve m)] u fun e w' => e = .returned (.bool (rtB m)) ∧ Below u.heap.size u w') := fun u hb => machine_any vc ve m u (hi.c.below hb) (hi.e.below hb) hi.B hi.wc hi.we
  have HPK : Hid (∀ u, Calls Try.prog 10 #[cmV x] u fun e w' => e = .returned (.tuple #[.int .u64 (pkV x), .int .i64 (pkC x)]) ∧ Below u.heap.size u w') := word_any x
  have HZ : Hid (zl.length = 606) := zl_vs.len
  have HZR : Hid ((rgl nilS ring.zR).length = 6) := rfl
  have HLX : Hid (0 + 4 ≤ (ivs [x.1, x.2.1, x.2.2.1, x.2.2.2]).length) := Nat.le_refl _
  have HAX : Hid (cv (ivs [x.1, x.2.1, x.2.2.1, x.2.2.2]) 0 4 = ivs [x.1, x.2.1, x.2.2.1, x.2.2.2]) := cv_all rfl
  have HPT : Hid (∀ u, Below w.heap.size w u → Calls Try.prog 39 #[agv (rgl vc m.c), .int .u64 (pkV x)] u fun e w' => ∃ v', e = .returned (.tuple #[agv (rgl v' (ring.ptV m.c (pkV x))), .int .i64 (ring.ptC m.c)]) ∧ ring.Tel u v' (ring.ptV m.c (pkV x)) w') := fun u hb => ring.refPut_any vc m.c (pkV x) u (hi.c.below hb)
  unfold cmV at HPK ⊢
  generalize ivs [x.1, x.2.1, x.2.2.1, x.2.2.2] = X at *
  unfold sbC at hs ⊢
  cases hR : rtB m
  · rw [hR] at HMA
    rw [if_pos rfl]
    clear hi hs hR
    go_enter Try.func14, Try.ntmps14
    repeat' (first | (go_big_may; first | (refine v_box rfl rfl rfl ?_; intro u xm hN; replace hM := hM.new hN (by decide); clear hN) | (refine v_box rfl rfl rfl ?_; intro u xc hN; replace hM := hM.new hN (by decide); clear hN) | (refine v_alloc rfl zer_mach rfl ?_; intro u xr hN; replace hM := hM.new hN (by decide); clear hN) | (refine v_load rfl rfl row_mach rfl hM.at2 HL0.out HA0.out ?_)) | go_values | go_skip | go_guarded | go_step | go_upon | (simp only [Int.not_lt, Int.not_le] at *; go_simp))
    refine (HMA.out _ hM.below).mono ?_
    rintro r u1 ⟨rfl, hv⟩
    replace hM := hM.call hv
    clear hv
    repeat' (first | (go_big_may; first | (refine v_load rfl rfl row_mach rfl hM.at2 HL0.out HA0.out ?_) | (refine v_fill rfl rfl row_mach rfl rfl hM.at0 HV.out HZ.out ?_; intro u hv hc; replace hM := hM.put0 hc hv; clear hv hc)) | go_values | go_skip | go_guarded | go_step | go_upon | (simp only [Int.not_lt, Int.not_le] at *; go_simp))
    exact bodyPost_ret (slots.ret_2 Try.results14 rfl (ld_var row_mach hM.at0 HV.out.len) rfl) rfl ⟨rfl, hM.below⟩
  rw [hR, if_neg (by decide)] at hs
  rw [if_neg (by decide)]
  have hk : ring.chk m.c = 0 := ring.chk_ok.2 (rt_iff.1 hR).c
  cases hP : pkB x
  · have p1 : pkC x = 1 := by unfold pkC; rw [hP]; rfl
    rw [p1] at HPK
    rw [hR] at HMA
    rw [if_pos rfl]
    clear hi hs hR hP hk p1
    go_enter Try.func14, Try.ntmps14
    repeat' (first | (go_big_may; first | (refine v_box rfl rfl rfl ?_; intro u xm hN; replace hM := hM.new hN (by decide); clear hN) | (refine v_box rfl rfl rfl ?_; intro u xc hN; replace hM := hM.new hN (by decide); clear hN) | (refine v_alloc rfl zer_mach rfl ?_; intro u xr hN; replace hM := hM.new hN (by decide); clear hN) | (refine v_load rfl rfl row_mach rfl hM.at2 HL0.out HA0.out ?_)) | go_values | go_skip | go_guarded | go_step | go_upon | (simp only [Int.not_lt, Int.not_le] at *; go_simp))
    refine (HMA.out _ hM.below).mono ?_
    rintro r u1 ⟨rfl, hv⟩
    replace hM := hM.call hv
    clear hv
    repeat' (first | (go_big_may; first | (refine v_load rfl rfl row_cmd rfl hM.at1 HLX.out HAX.out ?_)) | go_values | go_skip | go_guarded | go_step | go_upon | (simp only [Int.not_lt, Int.not_le] at *; go_simp))
    refine (HPK.out _).mono ?_
    rintro r u2 ⟨rfl, hv⟩
    replace hM := hM.call hv
    clear hv
    repeat' (first | (go_big_may; first | (refine v_load rfl rfl row_mach rfl hM.at2 HL0.out HA0.out ?_) | (refine v_fill rfl rfl row_mach rfl rfl hM.at0 HV.out HZ.out ?_; intro u hv hc; replace hM := hM.put0 hc hv; clear hv hc)) | go_values | go_skip | go_guarded | go_step | go_upon | (simp only [Int.not_lt, Int.not_le] at *; go_simp))
    exact bodyPost_ret (slots.ret_2 Try.results14 rfl (ld_var row_mach hM.at0 HV.out.len) rfl) rfl ⟨rfl, hM.below⟩
  rw [hP, if_neg (by decide)] at hs
  rw [if_neg (by decide)]
  cases hB : ring.putB m.c
  · have p1 : pkC x = 0 := by unfold pkC; rw [hP]; rfl
    have p2 : ring.ptC m.c = 11 := by unfold ring.ptC; rw [if_pos hk, hB]; rfl
    have p3 : ring.ptV m.c (pkV x) = ring.zR := by unfold ring.ptV; rw [if_pos hk, hB]; rfl
    rw [p1] at HPK
    rw [p2, p3] at HPT
    rw [hR] at HMA
    rw [if_neg (by decide)]
    generalize pkV x = pv at *
    clear hi hs hR hP hk p1 p2 p3 hB
    go_enter Try.func14, Try.ntmps14
    repeat' (first | (go_big_may; first | (refine v_box rfl rfl rfl ?_; intro u xm hN; replace hM := hM.new hN (by decide); clear hN) | (refine v_box rfl rfl rfl ?_; intro u xc hN; replace hM := hM.new hN (by decide); clear hN) | (refine v_alloc rfl zer_mach rfl ?_; intro u xr hN; replace hM := hM.new hN (by decide); clear hN) | (refine v_load rfl rfl row_mach rfl hM.at2 HL0.out HA0.out ?_)) | go_values | go_skip | go_guarded | go_step | go_upon | (simp only [Int.not_lt, Int.not_le] at *; go_simp))
    refine (HMA.out _ hM.below).mono ?_
    rintro r u1 ⟨rfl, hv⟩
    replace hM := hM.call hv
    clear hv
    repeat' (first | (go_big_may; first | (refine v_load rfl rfl row_cmd rfl hM.at1 HLX.out HAX.out ?_)) | go_values | go_skip | go_guarded | go_step | go_upon | (simp only [Int.not_lt, Int.not_le] at *; go_simp))
    refine (HPK.out _).mono ?_
    rintro r u2 ⟨rfl, hv⟩
    replace hM := hM.call hv
    clear hv
    repeat' (first | (go_big_may; first | (refine v_load rfl rfl row_ring rfl hM.at2 HL6.out HA6.out ?_)) | go_values | go_skip | go_guarded | go_step | go_upon | (simp only [Int.not_lt, Int.not_le] at *; go_simp))
    refine (HPT.out _ hM.below).mono ?_
    rintro r u3 ⟨v3, rfl, ht⟩
    have H3 : Hid (Vs (rgl v3 ring.zR) 6) := rgl_vs (rcs_one ht.1.rcs)
    replace hM := hM.tel ht.1 ht.2
    clear ht
    repeat' (first | (go_big_may; first | (refine v_alloc rfl zer_ring rfl ?_; intro u xg hN; replace hM := hM.new hN (by decide); clear hN) | (refine v_fill rfl rfl row_ring rfl rfl hM.at0 H3.out HZR.out ?_; intro u hv hc; replace hM := hM.put0 hc hv; clear hv hc) | (refine v_load rfl rfl row_mach rfl hM.at3 HL0.out HA0.out ?_) | (refine v_fill rfl rfl row_mach rfl rfl hM.at1 HV.out HZ.out ?_; intro u hv hc; replace hM := hM.put1 hc hv; clear hv hc)) | go_values | go_skip | go_guarded | go_step | go_upon | (simp only [Int.not_lt, Int.not_le] at *; go_simp))
    exact bodyPost_ret (slots.ret_2 Try.results14 rfl (ld_var row_mach hM.at1 HV.out.len) rfl) rfl ⟨rfl, hM.below⟩
  · rw [hB, if_pos rfl] at hs
    exact absurd rfl hs
set_option maxHeartbeats 4000000 in
theorem submitted_yes (vc ve : Value) (m : Mc) (x : Cm) (w : World) (hi : In w vc ve m) (hs : sbC m x = 0) :
    Calls Try.prog 14 #[agv (mvl vc ve m), cmV x] w fun e w' => ∃ v', e = .returned (.tuple #[agv (mvl v' ve (sbV m x)), .int .i64 0]) ∧ Ces w' w.heap.size v' (sbV m x).c.C ∧ Below w.heap.size w w' := by
  have hM : Mv w w [] [(false, vc, m.c.C), (false, ve, m.e.C)] := ((Mv.nil w).old hi.e).old hi.c
  have HV : Hid (Vs (mvl vc ve m) 606) := hi.vs
  have HL0 : Hid (0 + 606 ≤ (mvl vc ve m).length) := by show _ ≤ _; rw [hi.vs.len]; exact Nat.le_refl _
  have HA0 : Hid (cv (mvl vc ve m) 0 606 = mvl vc ve m) := cv_all hi.vs.len
  have HL6 : Hid (0 + 6 ≤ (mvl vc ve m).length) := by show _ ≤ _; rw [hi.vs.len]; omega
  have HA6 : Hid (cv (mvl vc ve m) 0 6 = rgl vc m.c) := cv_c _ _ _
  obtain ⟨hR, hP, hB⟩ : rtB m = true ∧ pkB x = true ∧ ring.putB m.c = true := by
    unfold sbC at hs
    split at hs
    · omega
    · rename_i h1
      split at hs
      · omega
      · rename_i h2
        split at hs
        · rename_i h3; exact ⟨by simpa using h1, by simpa using h2, h3⟩
        · omega
  have hk : ring.chk m.c = 0 := ring.chk_ok.2 (rt_iff.1 hR).c
  have HMA : Hid (∀ u, Below w.heap.size w u → Calls Try.prog 38 #[agv (mvl vc ve m)] u fun e w' => e = .returned (.bool true) ∧ Below u.heap.size u w') := fun u hb => by
    have := machine_any vc ve m u (hi.c.below hb) (hi.e.below hb) hi.B hi.wc hi.we
    rw [hR] at this
    exact this
  have HPK : Hid (∀ u, Calls Try.prog 10 #[cmV x] u fun e w' => e = .returned (.tuple #[.int .u64 (pkW x), .int .i64 0]) ∧ Below u.heap.size u w') := fun u => by
    have := word_any x u
    unfold pkV pkC at this
    rw [hP, if_pos rfl, if_pos rfl] at this
    exact this
  have HZ : Hid (zl.length = 606) := zl_vs.len
  have HZR : Hid ((rgl nilS ring.zR).length = 6) := rfl
  have HLX : Hid (0 + 4 ≤ (ivs [x.1, x.2.1, x.2.2.1, x.2.2.2]).length) := Nat.le_refl _
  have HAX : Hid (cv (ivs [x.1, x.2.1, x.2.2.1, x.2.2.2]) 0 4 = ivs [x.1, x.2.1, x.2.2.1, x.2.2.2]) := cv_all rfl
  have HPT : Hid (∀ u, Below w.heap.size w u → Calls Try.prog 39 #[agv (rgl vc m.c), .int .u64 (pkW x)] u fun e w' => ∃ v', e = .returned (.tuple #[agv (rgl v' (ring.putV m.c (pkW x))), .int .i64 0]) ∧ ring.Tel u v' (ring.putV m.c (pkW x)) w') := fun u hb => by
    have := ring.refPut_any vc m.c (pkW x) u (hi.c.below hb)
    have p2 : ring.ptC m.c = 0 := by unfold ring.ptC; rw [if_pos hk, hB]; rfl
    have p3 : ring.ptV m.c (pkW x) = ring.putV m.c (pkW x) := by unfold ring.ptV; rw [if_pos hk, hB]; rfl
    rw [p2, p3] at this
    exact this
  have hsv : sbV m x = ⟨ring.putV m.c (pkW x), m.e, m.B⟩ := by unfold sbV; rw [hR, hP, hB]; rfl
  rw [hsv]
  have HWB : Hid (Wf m.B) := hi.B
  unfold cmV at HPK ⊢
  generalize ivs [x.1, x.2.1, x.2.2.1, x.2.2.2] = X at *
  generalize pkW x = pv at *
  generalize ring.putV m.c pv = R at *
  have HOE : Hid (ve.oneCell' = true) := rcs_one hi.e
  clear hi hs hR hP hk hB hsv
  go_enter Try.func14, Try.ntmps14
  repeat' (first | (go_big_may; first | (refine v_box rfl rfl rfl ?_; intro u xm hN; replace hM := hM.new hN (by decide); clear hN) | (refine v_box rfl rfl rfl ?_; intro u xc hN; replace hM := hM.new hN (by decide); clear hN) | (refine v_alloc rfl zer_mach rfl ?_; intro u xr hN; replace hM := hM.new hN (by decide); clear hN) | (refine v_load rfl rfl row_mach rfl hM.at2 HL0.out HA0.out ?_)) | go_values | go_skip | go_guarded | go_step | go_upon | (simp only [Int.not_lt, Int.not_le] at *; go_simp))
  refine (HMA.out _ hM.below).mono ?_
  rintro r u1 ⟨rfl, hv⟩
  replace hM := hM.call hv
  clear hv
  repeat' (first | (go_big_may; first | (refine v_load rfl rfl row_cmd rfl hM.at1 HLX.out HAX.out ?_)) | go_values | go_skip | go_guarded | go_step | go_upon | (simp only [Int.not_lt, Int.not_le] at *; go_simp))
  refine (HPK.out _).mono ?_
  rintro r u2 ⟨rfl, hv⟩
  replace hM := hM.call hv
  clear hv
  repeat' (first | (go_big_may; first | (refine v_load rfl rfl row_ring rfl hM.at2 HL6.out HA6.out ?_)) | go_values | go_skip | go_guarded | go_step | go_upon | (simp only [Int.not_lt, Int.not_le] at *; go_simp))
  refine (HPT.out _ hM.below).mono ?_
  rintro r u3 ⟨v3, rfl, ht⟩
  have H3 : Hid (Vs (rgl v3 R) 6) := rgl_vs (rcs_one ht.1.rcs)
  have HL7 : Hid (0 + 6 ≤ (rgl v3 R).length) := Nat.le_refl _
  have HA7 : Hid (cv (rgl v3 R) 0 6 = rgl v3 R) := rfl
  have H4 : Hid (Vs (mvl v3 ve ⟨R, m.e, m.B⟩) 606) := mvl_vs (rcs_one ht.1.rcs) HOE.out HWB.out
  have HP4 : Hid (ptv (mvl vc ve m) 0 (rgl v3 R) = mvl v3 ve ⟨R, m.e, m.B⟩) := ptv_c _ _ _ _ _
  have HL4 : Hid (0 + 606 ≤ (mvl v3 ve ⟨R, m.e, m.B⟩).length) := by show _ ≤ _; rw [H4.out.len]; exact Nat.le_refl _
  have HA4 : Hid (cv (mvl v3 ve ⟨R, m.e, m.B⟩) 0 606 = mvl v3 ve ⟨R, m.e, m.B⟩) := cv_all H4.out.len
  replace hM := hM.tel ht.1 ht.2
  clear ht
  repeat' (first | (go_big_may; first | (refine v_alloc rfl zer_ring rfl ?_; intro u xg hN; replace hM := hM.new hN (by decide); clear hN) | (refine v_fill rfl rfl row_ring rfl rfl hM.at0 H3.out HZR.out ?_; intro u hv hc; replace hM := hM.put0 hc hv; clear hv hc) | (refine v_load rfl rfl row_ring rfl hM.at0 HL7.out HA7.out ?_) | (refine v_store rfl rfl row_ring rfl rfl hM.at3 H3.out HL6.out HP4.out ?_; intro u hv hc; replace hM := hM.put3 hc hv; clear hv hc) | (refine v_load rfl rfl row_mach rfl hM.at3 HL4.out HA4.out ?_) | (refine v_fill rfl rfl row_mach rfl rfl hM.at1 H4.out HZ.out ?_; intro u hv hc; replace hM := hM.put1 hc hv; clear hv hc)) | go_values | go_skip | go_guarded | go_step | go_upon | (simp only [Int.not_lt, Int.not_le] at *; go_simp))
  exact bodyPost_ret (slots.ret_2 Try.results14 rfl (ld_var row_mach hM.at1 H4.out.len) rfl) rfl ⟨_, rfl, hM.mine (by simp), hM.below⟩
end Go.Proofs.Ythjmcopknkemnaa.host

/- a machine as an argument, and a slice of deeds: what their cells hold, and what they weigh. -/
namespace Go.Proofs.Ythjmcopknkemnaa.host
open Go.ChangeShapes Go.WideShapes Go.ChangeAt Go.RowKit Go.Deep
open Go Go.Proofs.Ythjmcopknkemnaa
open Go.Proofs.Ythjmcopknkemnaa.slots (fl Wf ag AllI toB toB_wf fl_toB open_slots slots_cells board_cells)
open Go.Proofs.Ythjmcopknkemnaa.ring (Rcs Ce Rg ccell cell_cells cells_cells mark_cells ring_cells int_cells u64_cells bool_cells spot_of range_at open_mark Lt cells_w)
set_option linter.unusedVariables false
set_option maxRecDepth 10000

theorem laid_out : laidOutB Try.prog = true := by kernel_rfl
theorem mach_cells : Try.prog.cellsOf 43 = 606 := by kernel_rfl
theorem deed_cells : Try.prog.cellsOf 73 = 8 := by kernel_rfl
theorem u64_wf {x : Int} (h : (Lit.int .u64 x).wf = true) : 0 ≤ x ∧ x < 18446744073709551616 := by
  have := bounds_u64 h
  omega
/-- a machine that is handed in, whatever it weighs -/
structure Hd (w : World) (vc ve : Value) (m : Mc) : Prop where
  c : Rcs w vc m.c.C
  e : Rcs w ve m.e.C
  B : Wf m.B
  wc : Ws m.c.C
  we : Ws m.e.C
theorem Hd.inn {w : World} {vc ve : Value} {m : Mc} (h : Hd w vc ve m) (hk : m.c.C.length * 24 ≤ reachBytes ∧ m.e.C.length * 24 ≤ reachBytes) : In w vc ve m := ⟨h.c, h.e, h.B, h.wc, h.we, by have := hk.1; unfold reachBytes at this; omega, by have := hk.2; unfold reachBytes at this; omega⟩
section
variable {H : Type} {enc : TypeId × Value → H} {w : World} {base : Nat} {spare : Nat → Bool} {held : Bool}
theorem open_cellW {fuel : Nat} {cs : List Value} {x : DataW H × List MemPlace} (h : DataW.trod enc Try.prog w base spare held fuel 91 cs = some x) : ∃ e : Ce, cs = ccell e ∧ 0 ≤ e.1 ∧ e.1 < 18446744073709551616 := by
  obtain ⟨xs, n, _, hx, hlen, hxl, hfs⟩ := DataW.trod_struct Try.underlying91 h
  rw [cell_cells] at hlen
  match cs, hlen with
  | [c0, c1, c2], _ =>
    have g0 := hfs 0 _ rfl
    have g1 := hfs 1 _ rfl
    have g2 := hfs 2 _ rfl
    match xs, hxl with
    | [y0, y1, y2], _ =>
      simp [int_cells, u64_cells, bool_cells] at g0 g1 g2
      obtain ⟨k0, e0, _, f0⟩ := DataW.trod_int Try.underlying24 g0
      obtain ⟨k1, e1, _, f1⟩ := DataW.trod_int Try.underlying3 g1
      obtain ⟨k2, e2, _⟩ := DataW.trod_bool Try.underlying4 g2
      simp at e0 e1 e2
      subst e0 e1 e2
      exact ⟨(k0, k1, k2), rfl, (u64_wf f0).1, (u64_wf f0).2⟩
theorem open_cellsW {fuel : Nat} {v : Value} {x : DataW H × List MemPlace} (h : DataW.trod enc Try.prog w base spare held fuel 31 [v] = some x) : ∃ L, Rcs w v L ∧ Ws L := by
  rcases open_slice Try.underlying31 h with ⟨hcs, _⟩ | ⟨a, len, cap, m, n, D, Pl, hcs, _, hl, hm, hmm, _, hcell⟩
  · simp at hcs; subst hcs
    exact ⟨[], Rcs.nil w, fun x hx => absurd hx (by simp)⟩
  · simp at hcs; subst hcs
    have hlm : len ≤ m := by rw [hmm]; split <;> omega
    rw [cell_cells] at hcell
    have hE : ∀ i, i < len → ∃ e : Ce, (0 ≤ e.1 ∧ e.1 < 18446744073709551616) ∧ ∀ r y, (ccell e)[r]? = some y → w.cell? ((a.add (i * 3)).add r) = some y := by
      intro i hi
      obtain ⟨cs', h1, h2⟩ := hcell i (by omega)
      obtain ⟨e, rfl, hb1, hb2⟩ := open_cellW h2
      obtain ⟨_, _, h3⟩ := World.cells?_some h1
      refine ⟨e, ⟨hb1, hb2⟩, fun r y hy => ?_⟩
      have hr : r < 3 := (List.getElem?_eq_some_iff.1 hy).1
      rw [h3 r hr]; exact hy
    obtain ⟨E, hE⟩ := choose_lt hE
    refine ⟨(List.range len).map E, ⟨some a, cap, by simp, by simpa using hl, hm, fun hn => ?_⟩, fun x hx => ?_⟩
    · have hn : 0 < len := by simpa using hn
      have h0 := (hE 0 hn).2 0 _ rfl
      obtain ⟨g, off, rfl, hg⟩ := spot_of (a := a) (by simpa [Addr.add] using h0)
      refine ⟨g, off, rfl, hg, fun j y hy => ?_⟩
      obtain ⟨hj, rfl⟩ := range_at hy
      have h1 := (hE j hj).2 0 _ rfl
      have h2 := (hE j hj).2 1 _ rfl
      have h3 := (hE j hj).2 2 _ rfl
      rw [Addr.add_lit, Addr.add_lit] at h1 h2 h3
      exact ⟨h1, h2, h3⟩
    · obtain ⟨i, hi, rfl⟩ := List.mem_map.1 hx
      exact (hE i (by simpa using hi)).1
theorem open_ring {fuel : Nat} {cs : List Value} {x : DataW H × List MemPlace} (h : DataW.trod enc Try.prog w base spare held fuel 35 cs = some x) : ∃ (u : Value) (r : Rg), cs = rgl u r ∧ Rcs w u r.C ∧ Ws r.C ∧ (Lt 35 x.1 → r.C.length * 24 ≤ reachBytes) := by
  obtain ⟨xs, n, _, hx, hlen, hxl, hfs⟩ := DataW.trod_struct Try.underlying35 h
  rw [ring_cells] at hlen
  match cs, hlen with
  | [c0, c1, c2, c3, c4, c5], _ =>
    match xs, hxl with
    | [y0, y1, y2, y3], _ =>
      have g0 := hfs 0 _ rfl
      have g1 := hfs 1 _ rfl
      have g2 := hfs 2 _ rfl
      have g3 := hfs 3 _ rfl
      simp [int_cells, cells_cells, mark_cells] at g0 g1 g2 g3
      obtain ⟨L, hL, hW⟩ := open_cellsW g0
      obtain ⟨pa, pb, e1⟩ := open_mark g1
      obtain ⟨ga, gb, e2⟩ := open_mark g2
      obtain ⟨sn, e3, _, _⟩ := DataW.trod_int Try.underlying3 g3
      simp only [List.cons.injEq, and_true] at e1 e2 e3
      obtain ⟨rfl, rfl⟩ := e1
      obtain ⟨rfl, rfl⟩ := e2
      subst e3
      refine ⟨c0, ⟨L, pa, pb, ga, gb, sn⟩, rfl, hL, hW, fun hw => ?_⟩
      have hx1 := congrArg Prod.fst hx
      rw [hx1] at hw
      exact cells_w g0 (hw.part Try.underlying35 (j := 0) rfl rfl) hL
theorem mc_all {v : Value} {r : Reach} {b0 : Nat} {x : DataW H} {p : List MemPlace} (hv : Value.okWide Try.prog w r b0 43 v) (h : DataW.Trod enc Try.prog w base spare held 43 v x p) :
    ∃ (vc ve : Value) (m : Mc), v = agv (mvl vc ve m) ∧ Hd w vc ve m ∧ (Lt 43 x → m.c.C.length * 24 ≤ reachBytes ∧ m.e.C.length * 24 ≤ reachBytes) := by
  obtain ⟨cs, rfl, hsz⟩ := okWide_struct Try.underlying43 hv
  rw [mach_cells] at hsz
  obtain ⟨fuel, hf⟩ := h
  obtain ⟨xs, n, _, hx, hlen, hxl, hfs⟩ := DataW.trod_struct Try.underlying43 hf
  obtain ⟨l⟩ := cs
  have hl : l.length = 606 := hsz
  match xs, hxl with
  | [y0, y1, y2], _ =>
    have g0 : DataW.trod enc Try.prog w base spare held n 35 ((l.drop 0).take (Try.prog.cellsOf 35)) = some y0 := hfs 0 _ rfl
    have g1 : DataW.trod enc Try.prog w base spare held n 35 ((l.drop 6).take (Try.prog.cellsOf 35)) = some y1 := hfs 1 _ rfl
    have g2 : DataW.trod enc Try.prog w base spare held n 41 ((l.drop 12).take (Try.prog.cellsOf 41)) = some y2 := hfs 2 _ rfl
    rw [ring_cells] at g0 g1
    rw [board_cells] at g2
    obtain ⟨vc, rc, ec, hc, hwc, hkc⟩ := open_ring g0
    obtain ⟨ve, re, ee, he, hwe, hke⟩ := open_ring g1
    obtain ⟨zs, n2, _, hx2, hlen2, hxl2, hfs2⟩ := DataW.trod_struct Try.underlying41 g2
    match zs, hxl2 with
    | [z0], _ =>
      have k0 : DataW.trod enc Try.prog w base spare held n2 39 ((((l.drop 12).take 594).drop 0).take (Try.prog.cellsOf 39)) = some z0 := hfs2 0 _ rfl
      rw [slots_cells] at k0
      have a0 := open_slots k0
      have e0 : List.take 594 (List.drop 0 (List.take 594 (List.drop 12 l))) = l.drop 12 := by
        rw [List.drop_zero, List.take_take, Nat.min_self, List.take_of_length_le (by simp; omega)]
      rw [e0] at a0
      obtain ⟨mm, hmm⟩ := a0.list
      have hml : mm.length = 594 := by
        have := congrArg List.length hmm
        simp at this
        omega
      refine ⟨vc, ve, ⟨rc, re, toB mm⟩, ?_, ⟨hc, he, toB_wf hml, hwc, hwe⟩, fun hw => ?_⟩
      · show Value.agg l.toArray = Value.agg (mvl vc ve ⟨rc, re, toB mm⟩).toArray
        congr 2
        have e1 : l = l.take 6 ++ ((l.drop 6).take 6 ++ l.drop 12) := by
          have a : l.drop 6 = (l.drop 6).take 6 ++ (l.drop 6).drop 6 := (List.take_append_drop 6 _).symm
          rw [List.drop_drop] at a
          rw [← a, List.take_append_drop]
        rw [List.drop_zero] at ec
        rw [e1, ec, ee, hmm]
        unfold mvl ivs
        simp only
        rw [fl_toB hml]
      · have hx1 := congrArg Prod.fst hx
        simp only at hx1
        rw [hx1] at hw
        exact ⟨hkc (hw.part Try.underlying43 (j := 0) rfl rfl), hke (hw.part Try.underlying43 (j := 1) rfl rfl)⟩
theorem deed_open1 {fuel : Nat} {cs : List Value} {x : DataW H × List MemPlace} (h : DataW.trod enc Try.prog w base spare held fuel 73 cs = some x) : ∃ d : Dd, cs = ivs (ddL d) := by
  obtain ⟨xs, n, _, hx, hlen, hxl, hfs⟩ := DataW.trod_struct Try.underlying73 h
  rw [deed_cells] at hlen
  match cs, hlen with
  | [c0, c1, c2, c3, c4, c5, c6, c7], _ =>
    match xs, hxl with
    | [y0, y1, y2, y3, y4], _ =>
      have g0 := hfs 0 _ rfl
      have g1 := hfs 1 _ rfl
      have g2 := hfs 2 _ rfl
      have g3 := hfs 3 _ rfl
      have g4 := hfs 4 _ rfl
      simp [int_cells, slots.cmd_cells] at g0 g1 g2 g3 g4
      obtain ⟨k0, e0, _, _⟩ := DataW.trod_int Try.underlying3 g0
      obtain ⟨k, nn, e, a, e1, _⟩ := slots.open_cmd g1
      obtain ⟨k2, e2, _, _⟩ := DataW.trod_int Try.underlying3 g2
      obtain ⟨k3, e3, _, _⟩ := DataW.trod_int Try.underlying3 g3
      obtain ⟨k4, e4, _, _⟩ := DataW.trod_int Try.underlying3 g4
      simp only [List.cons.injEq, and_true] at e0 e1 e2 e3 e4
      obtain ⟨rfl, rfl, rfl, rfl⟩ := e1
      subst e0 e2 e3 e4
      exact ⟨(k0, (k, nn, e, a), k2, k3, k4), rfl⟩
theorem dds_open {r : Reach} {b0 : Nat} {v : Value} {x : DataW H} {p : List MemPlace} (hv : Value.okWide Try.prog w r b0 56 v) (h : DataW.Trod enc Try.prog w base spare held 56 v x p) : ∃ T : List Dd, Rds 8 w v (T.map ddL) := by
  obtain ⟨a0, len0, cap0, rfl⟩ := okWide_slice Try.underlying56 hv
  obtain ⟨fuel, hf⟩ := h
  rcases open_slice Try.underlying56 hf with ⟨hcs, _⟩ | ⟨a, len, cap, m, n, D, Pl, hcs, _, hl, hm, hmm, _, hcell⟩
  · simp [Value.cells] at hcs
    obtain ⟨rfl, rfl, rfl⟩ := hcs
    exact ⟨[], Rds.nil 8 w⟩
  · simp [Value.cells] at hcs
    obtain ⟨rfl, rfl, rfl⟩ := hcs
    have hlm : len0 ≤ m := by rw [hmm]; split <;> omega
    rw [deed_cells] at hcell
    have hE : ∀ i, i < len0 → ∃ e : Dd, ∀ r y, (ivs (ddL e))[r]? = some y → w.cell? ((a.add (i * 8)).add r) = some y := by
      intro i hi
      obtain ⟨cs', h1, h2⟩ := hcell i (by omega)
      obtain ⟨d, rfl⟩ := deed_open1 h2
      obtain ⟨_, _, h3⟩ := World.cells?_some h1
      refine ⟨d, fun r y hy => ?_⟩
      have hr : r < 8 := (List.getElem?_eq_some_iff.1 hy).1
      rw [h3 r hr]; exact hy
    obtain ⟨E, hE⟩ := choose_lt hE
    refine ⟨(List.range len0).map E, some a, cap0, by simp, by simpa using hl, hm, fun y hy => ?_, fun hn => ?_⟩
    · obtain ⟨d, _, rfl⟩ := List.mem_map.1 hy
      rfl
    have hn : 0 < len0 := by simpa using hn
    have h0 := hE 0 hn 0 _ rfl
    obtain ⟨g, off, rfl, hg⟩ := spot_of (a := a) (by simpa [Addr.add] using h0)
    refine ⟨g, off, rfl, hg, fun j y hy => ?_⟩
    rw [List.map_map] at hy
    obtain ⟨hj, rfl⟩ := range_at hy
    intro r z hz
    have := hE j hj r z hz
    rw [Addr.add_lit, Addr.add_lit] at this
    exact this
end
end Go.Proofs.Ythjmcopknkemnaa.host

/- host: rows that are cut in front and grow behind, beside boxes. -/
namespace Go.Proofs.Ythjmcopknkemnaa.host
open Go Go.RowKit
open Go.Proofs.Ythjmcopknkemnaa
open Go.Proofs.Ythjmcopknkemnaa.slots (Row row_board row_cmd Chg ag fl Wf bsq balloc bx_lt)
open Go.Proofs.Ythjmcopknkemnaa.ring (Ces Rcs rgV rgW Rg Ce ceV named keep)
set_option linter.unusedVariables false
set_option linter.unusedSimpArgs false
set_option maxRecDepth 100000

theorem el_cmq : El 75 23 4 := el_of (b := 32) (z := agv (ivs [0, 0, 0, 0])) Try.underlying75 (by kernel_rfl) rfl (by omega) (by omega) (by omega) (by decide)
/-- the value v owns these rows, somewhere in a block from B on -/
structure Qw (e : TypeId) (k : Nat) (w : World) (B : Nat) (v : Value) (L : List (List Int)) : Prop where
  o : (v = .slice none 0 0 ∧ L = []) ∨ ∃ g o cap cur, v = .slice (some ⟨g, o, none⟩) L.length cap ∧ B ≤ g ∧ w.heap[g]? = some (.cells cur e (0, 0)) ∧ L.length ≤ cap ∧ cap ≤ maxLen ∧ o + cap * k ≤ cur.size ∧ (cur.toList.drop o).take (L.length * k) = cls L
  l : ∀ x ∈ L, x.length = k
theorem Qw.nil (e : TypeId) (k : Nat) (w : World) (B : Nat) : Qw e k w B (.slice none 0 0) [] := ⟨.inl ⟨rfl, rfl⟩, fun x hx => absurd hx (by simp)⟩
theorem Ows.qw {e : TypeId} {k : Nat} {w : World} {B : Nat} {v : Value} {L : List (List Int)} (h : Ows e k w B v L) : Qw e k w B v L := by
  refine ⟨?_, h.l⟩
  rcases h.o.2 with ⟨rfl, h0⟩ | ⟨g, cap, cur, rfl, hB, hg, hnc, hcm, hs, ht⟩
  · exact .inl ⟨rfl, List.eq_nil_of_length_eq_zero h0⟩
  · exact .inr ⟨g, 0, cap, cur, rfl, hB, hg, hnc, hcm, by omega, by simpa using ht⟩
section
variable {e t : TypeId} {k : Nat} {w u : World} {B : Nat} {v : Value} {L : List (List Int)}
theorem Qw.lt (h : Qw e k w B v L) {X : Nat} (hX : v.ownBlock = some X) : B ≤ X ∧ X < w.heap.size := by
  rcases h.o with ⟨rfl, _⟩ | ⟨g, o, cap, cur, rfl, hB, hg, _⟩
  · simp [Value.ownBlock] at hX
  · simp [Value.ownBlock] at hX
    subst hX
    exact ⟨hB, (Array.getElem?_eq_some_iff.1 hg).1⟩
theorem Qw.kind (h : Qw e k w B v L) {X : Nat} (hX : v.ownBlock = some X) : ∃ c fz, w.heap[X]? = some (.cells c e fz) := by
  rcases h.o with ⟨rfl, _⟩ | ⟨g, o, cap, cur, rfl, hB, hg, _⟩
  · simp [Value.ownBlock] at hX
  · simp [Value.ownBlock] at hX
    subst hX
    exact ⟨cur, _, hg⟩
theorem Qw.kept (h : Qw e k w B v L) {row : Option Nat} (hg : w.grownBy u row) (hn : v.ownBlock = none ∨ v.ownBlock ≠ row) : Qw e k u B v L := by
  refine ⟨?_, h.l⟩
  rcases h.o with q | ⟨g, o, cap, cur, rfl, hB, hgg, rest⟩
  · exact .inl q
  · refine .inr ⟨g, o, cap, cur, rfl, hB, ?_, rest⟩
    rw [hg.block g (Array.getElem?_eq_some_iff.1 hgg).1 (by simpa [Value.ownBlock] using hn)]
    exact hgg
theorem Qw.below (h : Qw e k w B v L) (hb : Below w.heap.size w u) : Qw e k u B v L := by
  cases hv : v.ownBlock with
  | none => exact h.kept (ring.grown_below hb) (.inl hv)
  | some X => exact h.kept (ring.grown_below hb) (.inr (by rw [hv]; simp))
theorem Qw.chg (h : Qw e k w B v L) {X : Nat} (hX : v.ownBlock ≠ some X) (hc : Chg X w u) : Qw e k u B v L := h.kept (chg_grown hc) (.inr hX)
theorem Qw.form (h : Qw e k w B v L) : ∃ a c, v = .slice a L.length c ∧ L.length ≤ c ∧ c ≤ maxLen := by
  rcases h.o with ⟨rfl, rfl⟩ | ⟨g, o, cap, cur, rfl, hB, hg, h1, h2, _⟩
  · exact ⟨none, 0, rfl, Nat.le_refl _, Nat.zero_le _⟩
  · exact ⟨_, cap, rfl, h1, h2⟩
theorem Qw.cellAt {g o cap n : Nat} (h : Qw e k w B (.slice (some ⟨g, o, none⟩) n cap) L) (j : Nat) (hj : j < L.length * k) : w.cell? ⟨g, o + j, none⟩ = (cls L)[j]? := by
  rcases h.o with ⟨q, _⟩ | ⟨g', o', cap', cur, q, hB, hg, h1, h2, h3, h4⟩
  · injection q with q; cases q
  · injection q with q1 q2 q3
    injection q1 with q1
    injection q1 with q1 q4 _
    subst q1 q4
    rw [cell_of_row w g (o + j) cur e (0, 0) hg, ← h4, List.getElem?_take, if_pos hj, List.getElem?_drop]
    simp
theorem Qw.rds (h : Qw e k w B v L) : Rds k w v L := by
  have h' := h
  rcases h.o with ⟨rfl, rfl⟩ | ⟨g, o, cap, cur, rfl, hB, hg, h1, h2, h3, h4⟩
  · exact Rds.nil _ _
  · refine ⟨_, cap, rfl, h1, h2, h.l, fun _ => ⟨g, o, rfl, (Array.getElem?_eq_some_iff.1 hg).1, fun j y hy r z hz => ?_⟩⟩
    have hj := (List.getElem?_eq_some_iff.1 hy).1
    have hlen := h.l y (List.mem_of_getElem? hy)
    have hr : r < k := by have := (List.getElem?_eq_some_iff.1 hz).1; simp [ivs, hlen] at this; exact this
    have hb : j * k + r < L.length * k := by
      have : (j + 1) * k ≤ L.length * k := Nat.mul_le_mul_right _ hj
      rw [Nat.add_mul] at this
      omega
    rw [Nat.add_assoc, h'.cellAt (j * k + r) hb, cls_at h.l hy hr]
    exact hz
/-- the first is left out -/
theorem Qw.cut {x : List Int} {r : List (List Int)} (hE : El t e k) (h : Qw e k w B v (x :: r)) : ∃ v', (∀ W : World, (Instr.sliceAt t v (some (.int .i64 1)) none none).run Try.prog W = .ok v' W) ∧ Qw e k w B v' r ∧ v'.ownBlock = v.ownBlock := by
  obtain ⟨i, z, b, hi, hz0, hz1, hz2, hz3, hb⟩ := hE.i
  rcases h.o with ⟨_, q⟩ | ⟨g, o, cap, cur, rfl, hB, hg, h1, h2, h3, h4⟩
  · cases q
  · have hcap : 1 ≤ cap := by simp at h1; omega
    have hlx := h.l x (by simp)
    have hr : ∀ W : World, (Instr.sliceAt t (.slice (some ⟨g, o, none⟩) (x :: r).length cap) (some (.int .i64 1)) none none).run Try.prog W = .ok (.slice (some ⟨g, if cap = 1 then o else o + k, none⟩) r.length (cap - 1)) W := fun W => by
      have hnb : ¬ ((r.length : Int) + 1 < 1) := by omega
      simp [Instr.sliceAt, Instr.slice, Instr.sliceBounds, Instr.sliceBound, run_underlying hE.u, sizeOf, typeInfo, hi, asIntOf, go_sem, hz1, hnb]
      split
      · split <;> rfl
      · exfalso; omega
    refine ⟨_, hr, ⟨.inr ⟨g, _, cap - 1, cur, rfl, hB, hg, by simp at h1; omega, by omega, ?_, ?_⟩, fun y hy => h.l y (by simp [hy])⟩, rfl⟩
    · by_cases hc : cap = 1
      · rw [if_pos hc, hc]
        rw [hc] at h3
        omega
      · rw [if_neg hc]
        have : cap * k = (cap - 1) * k + k := by
          conv => lhs; rw [show cap = (cap - 1) + 1 by omega]
          rw [Nat.add_mul, Nat.one_mul]
        omega
    · by_cases hc : cap = 1
      · have : r = [] := List.eq_nil_of_length_eq_zero (by simp at h1; omega)
        subst this
        simp [cls, ivs]
      · rw [if_neg hc]
        have q := congrArg (List.drop k) h4
        have hd : (cls (x :: r)).drop k = cls r := by
          rw [show cls (x :: r) = ivs x ++ cls r by simp [cls, ivs]]
          exact List.drop_left' (by simp [ivs, hlx])
        rw [hd, List.drop_take, List.drop_drop, List.length_cons, Nat.add_mul, Nat.one_mul, Nat.add_sub_cancel] at q
        exact q
/-- one element behind the others, and where they lie then -/
theorem Qw.app (hE : El t e k) (h : Qw e k w B v L) (ad : Addr) (c : Nat) (y : List Int) (hy : y.length = k) (hx : ∀ j z, (ivs y)[j]? = some z → w.cell? (ad.add j) = some z) (hl : L.length ≤ 100000) (hB : B ≤ w.heap.size) (ty : TypeId) :
    ∃ v' w', (Builtin.append_ #[t, t] ty #[v, .slice (some ad) 1 c]).run Try.prog w = .ok v' w' ∧ Qw e k w' B v' (L ++ [y]) ∧ w.grownBy w' v.ownBlock ∧ Below B w w' ∧ (v'.ownBlock = v.ownBlock ∨ ∀ k, v'.ownBlock = some k → w.heap.size ≤ k) := by
  have h0 := h
  rcases h.o with ⟨rfl, rfl⟩ | ⟨g, o, cap, cur, rfl, hBg, hg, hnc, hcm, hcs, htake⟩
  · obtain ⟨v', w', q1, q2, q3, q4, q5⟩ := (Ows.nil e k w B).app2 hE ad c y hy hx (by simp) hB ty
    exact ⟨v', w', q1, q2.qw, q3, q4, q5⟩
  · obtain ⟨i, z, b, hi, hz0, hz1, hz2, hz3, hb⟩ := hE.i
    have h1 : ∀ u ∈ ivs y, u.oneCell' = true := fun u hu => by obtain ⟨x, _, rfl⟩ := List.mem_map.1 hu; rfl
    have hyl : (ivs y).length = k := by simp [ivs, hy]
    have hcl := cls_len h.l
    have hlL : ∀ x ∈ L ++ [y], x.length = k := fun x hx => by
      rcases List.mem_append.1 hx with q | q
      · exact h.l x q
      · rw [List.mem_singleton.1 q]; exact hy
    by_cases hroom : L.length + 1 ≤ cap
    · have hfit : o + L.length * k + (ivs y).length ≤ cur.size := by
        have : (L.length + 1) * k ≤ cap * k := Nat.mul_le_mul_right _ hroom
        rw [Nat.add_mul] at this
        omega
      have hf := run_firstCells_some (P := Try.prog) w i.size 1 ad 1 c (ivs y) (by rw [hz1, hyl]; omega) hx
      have hst := run_storeCells_at (P := Try.prog) g (o + L.length * i.size) e (ivs y) 0 cur w hg (by rw [hz1]; simpa using hfit) h1
      simp only [Nat.add_zero] at hst
      have hr : (Builtin.append_ #[t, t] ty #[.slice (some ⟨g, o, none⟩) L.length cap, .slice (some ad) 1 c]).run Try.prog w =
          .ok (.slice (some ⟨g, o, none⟩) (L.length + 1) cap) (w.setRow g (cur.toList.take (o + L.length * i.size) ++ ivs y ++ cur.toList.drop (o + L.length * i.size + (ivs y).length)).toArray) := by
        simp [Builtin.append_, run_underlying hE.u, sizeOf, typeInfo, hi, Builtin.lenOf, hroom, hf, Addr.add_lit, hst]
      rw [hz1] at hr
      have hgr : w.grownBy (w.setRow g (cur.toList.take (o + L.length * k) ++ ivs y ++ cur.toList.drop (o + L.length * k + (ivs y).length)).toArray) (some g) := ⟨rfl, rfl, rfl, by simp, fun j _ hj => setRow_other w g j _ (fun e => hj (by simp [e]))⟩
      refine ⟨_, _, hr, ⟨.inr ⟨g, o, cap, _, by simp, hBg, setRow_heap w g cur _ e _ hg, by simpa using hroom, hcm, ?_, ?_⟩, hlL⟩, hgr, (Below.refl _ _).grown hgr hB (fun k hk => by injection hk with hk; omega), .inl rfl⟩
      · simp only [List.size_toArray, List.length_append, List.length_take, List.length_drop, Array.length_toList]
        omega
      · have e1 : (cur.toList.take (o + L.length * k) ++ ivs y ++ cur.toList.drop (o + L.length * k + (ivs y).length)).toArray.toList.drop o = cls L ++ ivs y ++ cur.toList.drop (o + L.length * k + (ivs y).length) := by
          simp only [List.append_assoc]
          rw [List.drop_append_of_le_length (by simp; omega), List.drop_take, Nat.add_sub_cancel_left, htake]
        rw [e1, cls_app, show cls [y] = ivs y by simp [cls], List.length_append, List.length_singleton]
        refine List.take_left' ?_
        rw [List.length_append, hcl, hyl, Nat.add_mul, Nat.one_mul]
    · have holds : ∀ j u, (cls L)[j]? = some u → w.cell? ((⟨g, o, none⟩ : Addr).add j) = some u := fun j u hu => by
        have hj := (List.getElem?_eq_some_iff.1 hu).1
        rw [Addr.add_lit, h0.cellAt j (by omega)]
        exact hu
      have hr := run_append_grow (P := Try.prog) w t ty e i _ hE.u hi hz0 ⟨g, o, none⟩ L.length cap (cls L) (by rw [hz1, hcl]) holds ad 1 c (ivs y) (by rw [hz1]; omega) hx (by omega) (by omega) (growslice_fits (by omega) (by
        rw [hz2]
        have : (L.length + 1) * b ≤ 100001 * 1000 := Nat.mul_le_mul (by omega) hb
        omega))
      have hge := grownCap_ge w (L.length + 1) cap e
      have hgm := grownCap_le_maxLen w (L.length + 1) cap e (by unfold maxLen; omega)
      have hgr : w.grownBy (w.drew.alloc (.cells ((cls L).toArray ++ (ivs y).toArray ++ Builtin.zeroCells z.cells (grownCap w (L.length + 1) cap e - (L.length + 1))) e)) (some g) := ⟨rfl, rfl, rfl, by simp, fun k hk _ => heap_alloc_old w.drew _ hk⟩
      refine ⟨_, _, hr, ⟨.inr ⟨w.heap.size, 0, _, _, by simp, hB, heap_alloc_new w.drew _, by simpa using hge, hgm, ?_, ?_⟩, hlL⟩, hgr, (Below.refl _ _).grown hgr hB (fun k hk => by injection hk with hk; omega), .inr fun j hj => ?_⟩
      · simp only [Array.size_append, List.size_toArray, size_zeroCells, hz3, hcl, hyl]
        rw [Nat.sub_mul, Nat.add_mul, Nat.one_mul]
        have : (L.length + 1) * k ≤ grownCap w (L.length + 1) cap e * k := Nat.mul_le_mul_right _ hge
        rw [Nat.add_mul, Nat.one_mul] at this
        omega
      · simp only [Array.toList_append, List.drop_zero]
        rw [cls_app, show cls [y] = ivs y by simp [cls], List.length_append, List.length_singleton]
        refine List.take_left' ?_
        rw [List.length_append, hcl, hyl, Nat.add_mul, Nat.one_mul]
      · injection hj with hj
        simp at hj
        omega
end
/-- boxes, and rows that are cut and grow -/
structure Mq (w u : World) (L : List Bk) (O : List Ro4) : Prop where
  mv : Mv w u L []
  ow : ∀ o ∈ O, Qw o.1 o.2.1 u w.heap.size o.2.2.1 o.2.2.2
  ab : ∀ o ∈ O, ∀ x ∈ L, o.2.2.1.ownBlock ≠ some x.1
  ap : O.Pairwise (fun a b => ∀ k, a.2.2.1.ownBlock = some k → b.2.2.1.ownBlock ≠ some k)
section
variable {w u v : World} {L : List Bk} {O : List Ro4} {B : Nat} {T : TypeId} {l l' : List Value}
theorem Mq.below (h : Mq w u L O) : Below w.heap.size w u := h.mv.below
theorem Mq.call (h : Mq w u L O) (hb : Below u.heap.size u v) : Mq w v L O := ⟨h.mv.call hb, fun o ho => (h.ow o ho).below hb, h.ab, h.ap⟩
theorem Mq.drew (h : Mq w u L O) : Mq w u.drew L O := h.call (Below.refl _ _).drew
theorem Mq.new (h : Mq w u L O) (n : New u v B T l) (ht : T ≠ 91) : Mq w v ((B, T, l) :: L) O := ⟨h.mv.new n ht, fun o ho => (h.ow o ho).below n.below, fun o ho x hx => by
  rcases List.mem_cons.1 hx with rfl | q
  · intro hq
    have := ((h.ow o ho).lt hq).2
    have := n.at'
    simp only at *
    omega
  · exact h.ab o ho x q, h.ap⟩
theorem Mq.put {pre post : List Bk} (h : Mq w u (pre ++ (B, T, l) :: post) O) (hc : Chg B u v) (hl : v.heap[B]? = some (bv T l')) : Mq w v (pre ++ (B, T, l') :: post) O := ⟨h.mv.put hc hl, fun o ho => (h.ow o ho).chg (h.ab o ho (B, T, l) (by simp)) hc, fun o ho x hx => by
  rcases List.mem_append.1 hx with q | q
  · exact h.ab o ho x (List.mem_append.2 (.inl q))
  · rcases List.mem_cons.1 q with rfl | q
    · exact h.ab o ho (B, T, l) (by simp)
    · exact h.ab o ho x (List.mem_append.2 (.inr (List.mem_cons_of_mem _ q))), h.ap⟩
theorem Mq.sub {L' : List Bk} (h : Mq w u L O) (hL : L'.Sublist L) : Mq w u L' O := ⟨h.mv.sub hL (fun x hx => hx), h.ow, fun o ho x hx => h.ab o ho x (hL.subset hx), h.ap⟩
variable {a b c d f g : Bk}
theorem Mq.at0 (h : Mq w u ((B, T, l) :: L) O) : u.heap[B]? = some (bv T l) := h.mv.at0
theorem Mq.at1 (h : Mq w u (a :: (B, T, l) :: L) O) : u.heap[B]? = some (bv T l) := h.mv.at1
theorem Mq.at2 (h : Mq w u (a :: b :: (B, T, l) :: L) O) : u.heap[B]? = some (bv T l) := h.mv.at2
theorem Mq.at3 (h : Mq w u (a :: b :: c :: (B, T, l) :: L) O) : u.heap[B]? = some (bv T l) := h.mv.at3
theorem Mq.put0 (h : Mq w u ((B, T, l) :: L) O) (hc : Chg B u v) (hl : v.heap[B]? = some (bv T l')) : Mq w v ((B, T, l') :: L) O := Mq.put (pre := []) h hc hl
theorem Mq.put1 (h : Mq w u (a :: (B, T, l) :: L) O) (hc : Chg B u v) (hl : v.heap[B]? = some (bv T l')) : Mq w v (a :: (B, T, l') :: L) O := Mq.put (pre := [a]) h hc hl
theorem Mq.put2 (h : Mq w u (a :: b :: (B, T, l) :: L) O) (hc : Chg B u v) (hl : v.heap[B]? = some (bv T l')) : Mq w v (a :: b :: (B, T, l') :: L) O := Mq.put (pre := [a, b]) h hc hl
theorem Mq.put3 (h : Mq w u (a :: b :: c :: (B, T, l) :: L) O) (hc : Chg B u v) (hl : v.heap[B]? = some (bv T l')) : Mq w v (a :: b :: c :: (B, T, l') :: L) O := Mq.put (pre := [a, b, c]) h hc hl
theorem Mq.nil (w : World) : Mq w w [] [] := ⟨Mv.nil w, fun o ho => absurd ho (by simp), fun o ho => absurd ho (by simp), List.Pairwise.nil⟩
theorem Mq.row (h : Mq w u L O) (e : TypeId) (k : Nat) : Mq w u L ((e, k, .slice none 0 0, []) :: O) := ⟨h.mv, fun o ho => by
  rcases List.mem_cons.1 ho with rfl | q
  · exact Qw.nil e k u _
  · exact h.ow o q, fun o ho x hx => by
  rcases List.mem_cons.1 ho with rfl | q
  · simp [Value.ownBlock]
  · exact h.ab o q x hx, List.pairwise_cons.2 ⟨fun b _ k hk => by simp [Value.ownBlock] at hk, h.ap⟩⟩
end
/-- one of the rows is another one -/
theorem Mq.grow {w u v : World} {L : List Bk} {pre post : List Ro4} {e : TypeId} {k : Nat} {v1 v' : Value} {l l' : List (List Int)} (h : Mq w u L (pre ++ (e, k, v1, l) :: post)) (h1 : Qw e k v w.heap.size v' l') (h2 : u.grownBy v v1.ownBlock) (h3 : Below w.heap.size u v) (h4 : v'.ownBlock = v1.ownBlock ∨ ∀ k, v'.ownBlock = some k → u.heap.size ≤ k) : Mq w v L (pre ++ (e, k, v', l') :: post) := by
  have hme : (e, k, v1, l) ∈ pre ++ (e, k, v1, l) :: post := by simp
  have ho := h.ow _ hme
  have hap := h.ap
  rw [List.pairwise_append, List.pairwise_cons] at hap
  obtain ⟨hp1, ⟨hp2, hp3⟩, hp4⟩ := hap
  have old : ∀ o, o ∈ pre ∨ o ∈ post → o ∈ pre ++ (e, k, v1, l) :: post := fun o ho => by rcases ho with q | q <;> simp [q]
  have ne : ∀ o, o ∈ pre ∨ o ∈ post → o.2.2.1.ownBlock = none ∨ o.2.2.1.ownBlock ≠ v1.ownBlock := fun o hq => by
    cases hv : o.2.2.1.ownBlock with
    | none => exact .inl rfl
    | some X =>
      right
      intro hx
      rcases hq with q | q
      · exact hp4 o q (e, k, v1, l) (by simp) X hv hx.symm
      · exact hp2 o q X hx.symm hv
  have nw : ∀ o, o ∈ pre ∨ o ∈ post → ∀ X, v'.ownBlock = some X → o.2.2.1.ownBlock ≠ some X := fun o hq X hX hO => by
    rcases h4 with q | q
    · rcases ne o hq with r | r
      · rw [r] at hO; cases hO
      · exact r (by rw [hO, ← q, hX])
    · have := q X hX
      have := ((h.ow o (old o hq)).lt hO).2
      omega
  refine ⟨?_, fun o hq => ?_, fun o hq x hx => ?_, ?_⟩
  · refine ⟨fun y hy => ?_, h.mv.own, h.mv.ap, h.mv.ty, fun y hy => absurd hy (by simp), h.mv.below.trans h3⟩
    have hl := h.mv.lies y hy
    exact (h2.block y.1 (bx_lt hl) (fun q => h.ab _ hme y hy q.symm)).trans hl
  · rcases List.mem_append.1 hq with q | q
    · exact (h.ow o (old o (.inl q))).kept h2 (ne o (.inl q))
    · rcases List.mem_cons.1 q with rfl | q
      · exact h1
      · exact (h.ow o (old o (.inr q))).kept h2 (ne o (.inr q))
  · rcases List.mem_append.1 hq with q | q
    · exact h.ab o (old o (.inl q)) x hx
    · rcases List.mem_cons.1 q with rfl | q
      · intro hX
        rcases h4 with r | r
        · exact h.ab _ hme x hx (by rw [← r]; exact hX)
        · have := r x.1 hX
          have := bx_lt (h.mv.lies x hx)
          omega
      · exact h.ab o (old o (.inr q)) x hx
  · rw [List.pairwise_append, List.pairwise_cons]
    refine ⟨hp1, ⟨fun b hb X hX => nw b (.inr hb) X hX, hp3⟩, fun a ha b hb => ?_⟩
    rcases List.mem_cons.1 hb with rfl | q
    · intro X hX hX2
      exact nw a (.inl ha) X hX2 hX
    · exact hp4 a ha b (by simp [q])
theorem grown_self (w : World) (row : Option Nat) : w.grownBy w row := ⟨rfl, rfl, rfl, Nat.le_refl _, fun _ _ _ => rfl⟩
/-- one of the rows is cut -/
theorem Mq.cut {w u : World} {L : List Bk} (pre : List Ro4) {post : List Ro4} {t e : TypeId} {k : Nat} {v1 : Value} {x : List Int} {r : List (List Int)} (hE : El t e k) (h : Mq w u L (pre ++ (e, k, v1, x :: r) :: post)) :
    ∃ v', (∀ W : World, (Instr.sliceAt t v1 (some (.int .i64 1)) none none).run Try.prog W = .ok v' W) ∧ Mq w u L (pre ++ (e, k, v', r) :: post) := by
  obtain ⟨v', h1, h2, h3⟩ := (h.ow (e, k, v1, x :: r) (by simp)).cut hE
  exact ⟨v', h1, h.grow h2 (grown_self _ _) (Below.refl _ _) (.inl h3)⟩
/-- append of one element, told as what an operation does -/
theorem ex_appQ {o : Oper} {a : Act} {w0 w : World} {t e : TypeId} {k : Nat} {s x : Operand} (ho : o.op = .call { callee := .builtin .append, args := #[s, x], argTypes := #[t, t] }) (hE : El t e k)
    {v1 : Value} {L : List Bk} (pre : List Ro4) {post : List Ro4} {l : List (List Int)} {g : Nat} {y : List Int} (hs : a.eval s = v1) (hx : a.eval x = .slice (some ⟨g, 0, none⟩) 1 1) (hM : Mq w0 w L (pre ++ (e, k, v1, l) :: post)) (hc : ∀ j z, (ivs y)[j]? = some z → w.cell? ⟨g, j, none⟩ = some z) (hy : y.length = k) (hl : l.length ≤ 100000) :
    ∃ v' u, (execOp a.eval o).run Try.prog w = .ok (.value v') u ∧ Mq w0 u L (pre ++ (e, k, v', l ++ [y]) :: post) := by
  obtain ⟨v', w', hr, h1, h2, h3, h4⟩ := (hM.ow (e, k, v1, l) (by simp)).app hE ⟨g, 0, none⟩ 1 y hy (fun j z hz => by rw [Addr.add_lit, Nat.zero_add]; exact hc j z hz) hl hM.below.size o.type
  refine ⟨v', w', ?_, hM.grow h1 h2 h3 h4⟩
  unfold execOp
  simp only [ho, resolve, invoke, builtin, Sem.run_bind, Sem.run_pure, Result.andThen_ok, List.map_toArray, List.map_cons, List.map_nil, hs, hx, hr]
theorem v_appQ {ops : Array Oper} {rest : List Oper} {o : Oper} {a : Act} {w0 w : World} {Q : Exit → Act → World → Prop} (hgd : Region.wanted o (yielded ops a.tmps) = true) {t e : TypeId} {k : Nat} {s x : Operand} (ho : o.op = .call { callee := .builtin .append, args := #[s, x], argTypes := #[t, t] }) (hE : El t e k)
    {v1 : Value} {L : List Bk} (pre : List Ro4) {post : List Ro4} {l : List (List Int)} {g : Nat} {y : List Int} (hs : a.eval s = v1) (hx : a.eval x = .slice (some ⟨g, 0, none⟩) 1 1) (hM : Mq w0 w L (pre ++ (e, k, v1, l) :: post)) (hc : ∀ j z, (ivs y)[j]? = some z → w.cell? ⟨g, j, none⟩ = some z) (hy : y.length = k) (hl : l.length ≤ 100000)
    (h : ∀ u v', Mq w0 u L (pre ++ (e, k, v', l ++ [y]) :: post) → wpList Try.prog ops Q rest (a.put o.dst v') u) : wpList Try.prog ops Q (o :: rest) a w := by
  refine wpList_step fun K hK' => ?_
  rw [if_pos hgd]
  obtain ⟨v', u, hq, h1⟩ := ex_appQ (a := a) ho hE pre hs hx hM hc hy hl
  unfold Oper.wp
  rw [hq]
  exact hK' _ _ (h u v' h1)
theorem ex_bsQ {o : Oper} {a : Act} {w0 w : World} {t e : TypeId} {k : Nat} {x : Operand} (ho : o.op = .buildSlice t 1 #[(0, x)]) (hE : El t e k) {v : Value} (hx : a.eval x = v) {V : List Value} (hv : v.cells = V.toArray) (hV : V.length = k) {L : List Bk} {O : List Ro4} (hM : Mq w0 w L O) :
    ∃ g u, (execOp a.eval o).run Try.prog w = .ok (.value (.slice (some ⟨g, 0, none⟩) 1 1)) u ∧ Mq w0 u L O ∧ ∀ j z, V[j]? = some z → u.cell? ⟨g, j, none⟩ = some z := by
  refine ⟨w.heap.size, w.alloc (bv e V), ?_, hM.call (balloc _ _), fun j z hz => bv_cell (MapKept.heap_alloc w _).1 hz⟩
  unfold execOp
  simp only [ho, List.map_toArray, List.map_cons, List.map_nil, hx, Sem.run_bind, run_bs hE hv hV, Result.andThen_ok, Sem.run_pure]
theorem ex_ldR {o : Oper} {a : Act} {w : World} {t : TypeId} {x : Operand} (ho : o.op = .load t x) {B k n : Nat} (hT : Row t n) {V : List Value} (hx : a.eval x = .pointer (some ⟨B, k, none⟩)) (hB : w.rangeAt B k V) (hl : V.length = n) :
    (execOp a.eval o).run Try.prog w = .ok (.value (agv V)) w := by
  obtain ⟨d, h1, h2, h3⟩ := hT.ex
  have hr := run_loadAt_mid w B k t V d hB h1 h2 (by rw [h3, hl])
  unfold execOp
  simp only [ho, hx, Sem.run_bind, hr, Result.andThen_ok, Sem.run_pure]
  rfl
theorem ex_cutQ {o : Oper} {a : Act} {w : World} {t : TypeId} {x : Operand} (ho : o.op = .slice t x (some (.const (.int .i64 1))) none none) {v v' : Value} (hx : a.eval x = v) (h : ∀ W : World, (Instr.sliceAt t v (some (.int .i64 1)) none none).run Try.prog W = .ok v' W) :
    (execOp a.eval o).run Try.prog w = .ok (.value v') w := by
  unfold execOp
  have hc : a.eval (.const (.int .i64 1)) = .int .i64 1 := rfl
  simp only [ho, hx, Option.map, hc, Sem.run_bind, h, Result.andThen_ok, Sem.run_pure]
end Go.Proofs.Ythjmcopknkemnaa.host

/- host, the document's answer: what Played answers. -/
namespace Go.Proofs.Ythjmcopknkemnaa.host
open Go Go.RowKit
open Go.Proofs.Ythjmcopknkemnaa
open Go.Proofs.Ythjmcopknkemnaa.slots (Row row_board row_cmd Chg ag fl Wf bsq balloc bx_lt)
open Go.Proofs.Ythjmcopknkemnaa.ring (Ces Rcs rgV rgW Rg Ce ceV named keep below_drewN wp_abs h_take h_call h_value h_skip g_take g_pass g_call wanted_of unwanted_of)
set_option linter.unusedVariables false
set_option linter.unusedSimpArgs false
set_option maxRecDepth 100000

theorem ex_puti {o : Oper} {a : Act} {w : World} {x y : Operand} (ho : o.op = .store 3 x y) {B j : Nat} {T : TypeId} {l : List Value} {v : Int} (hx : a.eval x = .pointer (some ⟨B, j, none⟩)) (hy : a.eval y = .int .i64 v) (hB : w.heap[B]? = some (bv T l)) (hle : j < l.length) :
    ∃ u, (execOp a.eval o).run Try.prog w = .ok .skip u ∧ u.heap[B]? = some (bv T (l.set j (.int .i64 v))) ∧ Chg B w u := by
  have hc := bv_cell hB (List.getElem?_eq_getElem hle)
  have hf := bv_free hB j
  have hs : (Instr.storeAt 3 (.pointer (some ⟨B, j, none⟩)) (.int .i64 v)).run Try.prog w = .ok () (w.setCell ⟨B, j, none⟩ (.int .i64 v)) := by simp [go_sem, hc, hf]
  refine ⟨_, ?_, (set_bv hB).1, (set_bv hB).2⟩
  unfold execOp
  simp only [ho, hx, hy, Sem.run_bind, hs, Result.andThen_ok, Sem.run_pure]
section
variable {md : Region.Mode} {ops : Array Oper} {Q : Exit → Act → World → Prop} {S : World → Prop} {i : Nat} {o : Oper} {fuel : Nat} {L : Array Bool} {a : Act} {W : World}
theorem h_puti (hi : ops[i]? = some o) (hrd : Region.ready md ops L = [i]) (hg : o.guard = none) {x y : Operand} (ho : o.op = .store 3 x y) {B j : Nat} {T : TypeId} {l : List Value} {v : Int} (hx : a.eval x = .pointer (some ⟨B, j, none⟩)) (hy : a.eval y = .int .i64 v) (hB : W.heap[B]? = some (bv T l)) (hle : j < l.length)
    (h : ∀ u, u.heap[B]? = some (bv T (l.set j (.int .i64 v))) → Chg B W u → S u ∧ wpAnyH Try.prog md ops Q S fuel (L.setIfInBounds i true) (a.put o.dst undef) u) : wpAnyH Try.prog md ops Q S (fuel + 1) L a W := by
  obtain ⟨u, h1, h2, h3⟩ := ex_puti (a := a) ho hx hy hB hle
  exact h_skip hi hrd hg h1 (h u h2 h3).1 (h u h2 h3).2
end
theorem Qw.addr {e : TypeId} {k : Nat} {w : World} {B : Nat} {a : Option Addr} {n c : Nat} {x : List Int} {r : List (List Int)} (h : Qw e k w B (.slice a n c) (x :: r)) : ∃ g o, a = some ⟨g, o, none⟩ := by
  rcases h.o with ⟨_, q⟩ | ⟨g, o, cap, cur, q, _⟩
  · cases q
  · injection q with q
    exact ⟨g, o, q⟩
theorem Qw.rng {e : TypeId} {k : Nat} {w : World} {B g o n c : Nat} {x : List Int} {r : List (List Int)} (h : Qw e k w B (.slice (some ⟨g, o, none⟩) n c) (x :: r)) : w.rangeAt g o (ivs x) := fun j z hz => by
  have hk := h.l x (by simp)
  have hj : j < k := by have := (List.getElem?_eq_some_iff.1 hz).1; simp [ivs, hk] at this; exact this
  have q := h.cellAt j (by rw [List.length_cons, Nat.add_mul]; omega)
  have q2 := cls_at (i := 0) h.l rfl hj
  rw [Nat.zero_mul, Nat.zero_add] at q2
  exact q.trans (q2.trans hz)
section
variable {md : Region.Mode} {ops : Array Oper} {Q : Exit → Act → World → Prop} {S : World → Prop} {i : Nat} {o : Oper} {fuel : Nat} {L : Array Bool} {a : Act} {W : World}
theorem h_bsQ (hi : ops[i]? = some o) (hrd : Region.ready md ops L = [i]) (hg : o.guard = none) {t e : TypeId} {k : Nat} {x : Operand} (ho : o.op = .buildSlice t 1 #[(0, x)]) (hE : El t e k) {v : Value} (hx : a.eval x = v) {V : List Value} (hv : v.cells = V.toArray) (hV : V.length = k) {w0 : World} {L0 : List Bk} {O : List Ro4} (hM : Mq w0 W L0 O)
    (h : ∀ u g, Mq w0 u L0 O → (∀ j z, V[j]? = some z → u.cell? ⟨g, j, none⟩ = some z) → S u ∧ wpAnyH Try.prog md ops Q S fuel (L.setIfInBounds i true) (a.put o.dst (.slice (some ⟨g, 0, none⟩) 1 1)) u) : wpAnyH Try.prog md ops Q S (fuel + 1) L a W := by
  obtain ⟨g, u, h1, h2, h3⟩ := ex_bsQ (a := a) ho hE hx hv hV hM
  exact h_value _ hi hrd hg h1 (h u g h2 h3).1 (h u g h2 h3).2
theorem h_appQ (hi : ops[i]? = some o) (hrd : Region.ready md ops L = [i]) (hg : o.guard = none) {t e : TypeId} {k : Nat} {s x : Operand} (ho : o.op = .call { callee := .builtin .append, args := #[s, x], argTypes := #[t, t] }) (hE : El t e k)
    {v1 : Value} {w0 : World} {L0 : List Bk} (pre : List Ro4) {post : List Ro4} {l : List (List Int)} {g : Nat} {y : List Int} (hs : a.eval s = v1) (hx : a.eval x = .slice (some ⟨g, 0, none⟩) 1 1) (hM : Mq w0 W L0 (pre ++ (e, k, v1, l) :: post)) (hc : ∀ j z, (ivs y)[j]? = some z → W.cell? ⟨g, j, none⟩ = some z) (hy : y.length = k) (hl : l.length ≤ 100000)
    (h : ∀ u v', Mq w0 u L0 (pre ++ (e, k, v', l ++ [y]) :: post) → S u ∧ wpAnyH Try.prog md ops Q S fuel (L.setIfInBounds i true) (a.put o.dst v') u) : wpAnyH Try.prog md ops Q S (fuel + 1) L a W := by
  obtain ⟨v', u, h1, h2⟩ := ex_appQ (a := a) ho hE pre hs hx hM hc hy hl
  exact h_value _ hi hrd hg h1 (h u v' h2).1 (h u v' h2).2
end
def cmL (x : Cm) : List Int := [x.1, x.2.1, x.2.2.1, x.2.2.2]
theorem Qw.form2 {e : TypeId} {k : Nat} {w : World} {B : Nat} {v : Value} {L : List (List Int)} (h : Qw e k w B v L) : ∃ a n c, v = .slice a n c ∧ n = L.length ∧ n ≤ c ∧ c ≤ 9223372036854775807 := by
  obtain ⟨a, c, rfl, h1, h2⟩ := h.form
  exact ⟨a, _, c, rfl, rfl, h1, h2⟩
theorem bld_b0 (w : World) : (Instr.build 41 #[]).run Try.prog w = .ok (agv (ivs (fl slots.zB))) w := by rw [slots.zB_fl, ivs, List.map_replicate]; kernel_rfl
theorem bld_ea (x : Int) (w : World) : (Instr.build 52 #[(2, .int .i64 x)]).run Try.prog w = .ok (agv (ivs [0, 0, x])) w := by kernel_rfl
/-- where Played is in its rounds -/
structure Pdi (w wr : World) (xb xr : Nat) (p q : Nat) (T : List Dd) (k : Nat) (wv ov gv tv : Value) (s : Ps) (old : List Int) : Prop where
  mo : Mq w wr [(xb, 41, ivs (fl s.B)), (xr, 41, ivs (fl slots.zB))] [(23, 4, wv, (s.C.drop s.E.length).map cmL), (52, 3, ov, (s.E.drop s.g).map evL), (52, 3, gv, (rpd s).map evL), (25, 1, tv, old.map one1)]
  iv : Iv p q s
  e1 : pls p q s (T.drop k) = pls p q ps0 T
  e2 : old ++ plt p q s (T.drop k) = plt p q ps0 T
  e3 : old.length ≤ k ∧ s.g ≤ k
structure Nms (p q : Nat) (s : Ps) : Prop where
  g : s.g ≤ s.E.length
  e : s.E.length ≤ s.C.length
  c : s.C.length + 1 ≤ s.g + p
  o : s.E.length + 1 ≤ s.g + q
  p2 : 2 ≤ p
  p63 : p ≤ 63
  q2 : 2 ≤ q
  q63 : q ≤ 63
theorem Iv.nms {p q : Nat} {s : Ps} (h : Iv p q s) : Nms p q s := by
  have a1 := h.c.ga
  have a2 := h.c.room
  have a3 := h.e.ga
  have a4 := h.e.room
  rw [List.length_map] at a1 a2 a3 a4
  exact ⟨a3, a1, a2, a4, h.c.p2, h.c.p63, h.e.p2, h.e.p63⟩
/-- where Played is while its controller works -/
structure Wki (w wx : World) (xd xb xr : Nat) (p q : Nat) (s s' : Ps) (DD : List Value) (d : Int) (j : Nat) (wv ov gv tv : Value) (old : List Int) : Prop where
  mo : Mq w wx [(xd, 73, DD), (xb, 41, ivs (fl s'.B)), (xr, 41, ivs (fl slots.zB))] [(23, 4, wv, (s'.C.drop s'.E.length).map cmL), (52, 3, ov, (s'.E.drop s'.g).map evL), (52, 3, gv, (rpd s).map evL), (25, 1, tv, old.map one1)]
  iv : Iv p q s'
  t1 : d ≤ 1000 → wkS p q (d.toNat - j) s' = wrS p q s d
  t2 : 1000 < d → s' = wrS p q s d
  cg : s'.C = s.C ∧ s'.g = s.g
theorem wr_start {p q : Nat} (s : Ps) (d : Int) : (d ≤ 1000 → wkS p q (d.toNat - 0) s = wrS p q s d) ∧ (1000 < d → s = wrS p q s d) := by
  unfold wrS
  constructor
  · intro h
    by_cases h1 : 1 ≤ d
    · rw [if_pos (by simp [h, h1])]; rfl
    · rw [if_neg (by simp [h1]), show d.toNat - 0 = 0 by omega]; rfl
  · intro h
    rw [if_neg (by simp; omega)]
theorem wk_stop {p q : Nat} {s : Ps} (h : wsB q s = false) : ∀ n, wkS p q n s = s
  | 0 => rfl
  | n + 1 => by unfold wkS; rw [if_neg (by rw [h]; simp)]
theorem wk_go {p q : Nat} {s : Ps} (h : wsB q s = true) (n : Nat) : wkS p q (n + 1) s = wkS p q n (wsV p s) := by
  conv => lhs; unfold wkS
  rw [if_pos h]
set_option maxHeartbeats 16000000 in
theorem played_any (c e : Int) (v : Value) (T : List Dd) (w : World) (hv : Rds 8 w v (T.map ddL)) : Calls Try.prog 21 #[.int .i64 c, .int .i64 e, v] w fun r w' => ∃ gv tv, r = .returned (.tuple #[agv (ivs (fl (plM c e T).B)), gv, tv, .int .i64 (plC c e T)]) ∧ Below w.heap.size w w' ∧ Rds 3 w' gv ((plE c e T).map evL) ∧ Rds 1 w' tv ((plX c e T).map one1) := by
  obtain ⟨a, cc, rfl, hc1, hc2⟩ := hv.form
  rw [List.length_map] at hc1 hv ⊢
  obtain ⟨n, hn⟩ : ∃ n, T.length = n := ⟨_, rfl⟩
  have HTn : Hid (T.length = n) := hn
  have HR : Hid (Rds 8 w (.slice a T.length cc) (T.map ddL)) := hv
  rw [hn] at HR hc1 ⊢
  have hmx : n ≤ 9223372036854775807 := by unfold maxLen at hc2; omega
  have HZB : Hid ((ivs (fl slots.zB)).length = 594) := (ivs_vs slots.zB_wf.length).len
  have HZV : Hid (Vs (ivs (fl slots.zB)) 594) := ivs_vs slots.zB_wf.length
  have HB1 : Hid (∀ u, Calls Try.prog 32 #[.int .i64 c, .int .i64 3, .int .i64 64] u fun r w' => r = .returned (.bool (ring.cnB c)) ∧ u = w') := slots.between_any _ _ _
  have HB2 : Hid (∀ u, Calls Try.prog 32 #[.int .i64 e, .int .i64 3, .int .i64 64] u fun r w' => r = .returned (.bool (ring.cnB e)) ∧ u = w') := slots.between_any _ _ _
  have hb0 := bld_b0
  have hM := Mq.nil w
  clear hv hn
  cases hcb : ring.cnB c
  · have HQ : Hid (plC c e T = 1 ∧ (plM c e T).B = slots.zB ∧ plE c e T = [] ∧ plX c e T = []) := by
      have : plC c e T = 1 := by unfold plC nmB; rw [hcb]; rfl
      unfold plM plE plX
      rw [this]
      exact ⟨rfl, rfl, rfl, rfl⟩
    obtain ⟨q1, q2, q3, q4⟩ := HQ.out
    rw [q1, q2, q3, q4]
    rw [hcb] at HB1
    clear hcb HQ q1 q2 q3 q4
    go_enter Try.func21, Try.ntmps21
    repeat' (first | (go_big_may; first | (refine v_alloc rfl zer_board rfl ?_; intro u xr hN; replace hM := hM.new hN (by decide); clear hN)) | go_values | go_skip | go_guarded | go_step | go_upon | (simp only [Int.not_lt, Int.not_le] at *; go_simp))
    refine (HB1.out _).mono ?_
    rintro r u1 ⟨rfl, rfl⟩
    repeat' (first | (go_big_may; first | (refine v_build rfl rfl hb0 ?hbv ?_; (case hbv => simp [Act.eval, Act.put])) | (refine v_fill rfl rfl row_board rfl rfl hM.at0 HZV.out HZB.out ?_; intro u hv hc; replace hM := hM.put0 hc hv; clear hv hc)) | go_values | go_skip | go_guarded | go_step | go_upon | (simp only [Int.not_lt, Int.not_le] at *; go_simp))
    exact bodyPost_ret (ret_c3 Try.results21 rfl (ld_var row_board hM.at0 HZB.out) rfl rfl rfl) rfl ⟨_, _, rfl, hM.below, Rds.nil _ _, Rds.nil _ _⟩
  rw [hcb] at HB1
  cases heb : ring.cnB e
  · have HQ : Hid (plC c e T = 1 ∧ (plM c e T).B = slots.zB ∧ plE c e T = [] ∧ plX c e T = []) := by
      have : plC c e T = 1 := by unfold plC nmB; rw [hcb, heb]; rfl
      unfold plM plE plX
      rw [this]
      exact ⟨rfl, rfl, rfl, rfl⟩
    obtain ⟨q1, q2, q3, q4⟩ := HQ.out
    rw [q1, q2, q3, q4]
    rw [heb] at HB2
    clear hcb heb HQ q1 q2 q3 q4
    go_enter Try.func21, Try.ntmps21
    repeat' (first | (go_big_may; first | (refine v_alloc rfl zer_board rfl ?_; intro u xr hN; replace hM := hM.new hN (by decide); clear hN)) | go_values | go_skip | go_guarded | go_step | go_upon | (simp only [Int.not_lt, Int.not_le] at *; go_simp))
    refine (HB1.out _).mono ?_
    rintro r u1 ⟨rfl, rfl⟩
    repeat' (first | go_values | go_skip | go_guarded | go_step | go_upon | (simp only [Int.not_lt, Int.not_le] at *; go_simp))
    refine (HB2.out _).mono ?_
    rintro r u1 ⟨rfl, rfl⟩
    repeat' (first | (go_big_may; first | (refine v_build rfl rfl hb0 ?hbv ?_; (case hbv => simp [Act.eval, Act.put])) | (refine v_fill rfl rfl row_board rfl rfl hM.at0 HZV.out HZB.out ?_; intro u hv hc; replace hM := hM.put0 hc hv; clear hv hc)) | go_values | go_skip | go_guarded | go_step | go_upon | (simp only [Int.not_lt, Int.not_le] at *; go_simp))
    exact bodyPost_ret (ret_c3 Try.results21 rfl (ld_var row_board hM.at0 HZB.out) rfl rfl rfl) rfl ⟨_, _, rfl, hM.below, Rds.nil _ _, Rds.nil _ _⟩
  rw [heb] at HB2
  have hb : nmB c e = true := by unfold nmB; rw [hcb, heb]; rfl
  obtain ⟨p, hp⟩ : ∃ p, c.toNat - 1 = p := ⟨_, rfl⟩
  obtain ⟨q, hq⟩ : ∃ q, e.toNat - 1 = q := ⟨_, rfl⟩
  have hb2 := hb
  unfold nmB at hb2
  rw [Bool.and_eq_true, ring.cn_iff, ring.cn_iff] at hb2
  have HI0 : Hid (Iv p q ps0) := Iv.zero (by omega) (by omega) (by omega) (by omega)
  by_cases hlong : 200 < n
  · have HQ : Hid (plC c e T = 2 ∧ (plM c e T).B = slots.zB ∧ plE c e T = [] ∧ plX c e T = []) := by
      have : plC c e T = 2 := by unfold plC; rw [hb, if_neg (by decide), if_pos (by have := HTn.out; omega)]
      unfold plM plE plX
      rw [this]
      exact ⟨rfl, rfl, rfl, rfl⟩
    obtain ⟨q1, q2, q3, q4⟩ := HQ.out
    rw [q1, q2, q3, q4]
    clear hcb heb hb HQ q1 q2 q3 q4 hb2 hp hq
    go_enter Try.func21, Try.ntmps21
    repeat' (first | (go_big_may; first | (refine v_alloc rfl zer_board rfl ?_; intro u xr hN; replace hM := hM.new hN (by decide); clear hN)) | go_values | go_skip | go_guarded | go_step | go_upon | (simp only [Int.not_lt, Int.not_le] at *; go_simp))
    refine (HB1.out _).mono ?_
    rintro r u1 ⟨rfl, rfl⟩
    repeat' (first | go_values | go_skip | go_guarded | go_step | go_upon | (simp only [Int.not_lt, Int.not_le] at *; go_simp))
    refine (HB2.out _).mono ?_
    rintro r u1 ⟨rfl, rfl⟩
    repeat' (first | (go_big_may; first | (refine v_build rfl rfl hb0 ?hbv ?_; (case hbv => simp [Act.eval, Act.put])) | (refine v_fill rfl rfl row_board rfl rfl hM.at0 HZV.out HZB.out ?_; intro u hv hc; replace hM := hM.put0 hc hv; clear hv hc)) | go_values | go_skip | go_guarded | go_step | go_upon | (simp only [Int.not_lt, Int.not_le] at *; go_simp))
    exact bodyPost_ret (ret_c3 Try.results21 rfl (ld_var row_board hM.at0 HZB.out) rfl rfl rfl) rfl ⟨_, _, rfl, hM.below, Rds.nil _ _, Rds.nil _ _⟩
  have hshort : n ≤ 200 := by omega
  have HQ : Hid (plC c e T = 0 ∧ (plM c e T).B = (pls p q ps0 T).B ∧ plE c e T = rpd (pls p q ps0 T) ∧ plX c e T = plt p q ps0 T) := by
    have : plC c e T = 0 := by unfold plC; rw [hb, if_neg (by decide), if_neg (by have := HTn.out; omega)]
    unfold plM plE plX ply
    rw [this, hp, hq]
    exact ⟨rfl, rfl, rfl, rfl⟩
  obtain ⟨q1, q2, q3, q4⟩ := HQ.out
  rw [q1, q2, q3, q4]
  have hc3 : 3 ≤ c := hb2.1.1
  have hc64 : c ≤ 64 := hb2.1.2
  have he3' : 3 ≤ e := hb2.2.1
  have he64 : e ≤ 64 := hb2.2.2
  have hpc : c = (p : Int) + 1 := by omega
  have hqe : e = (q : Int) + 1 := by omega
  have HPC : Hid (c = (p : Int) + 1 ∧ e = (q : Int) + 1) := ⟨hpc, hqe⟩
  have HWD : Hid (∀ (x : Cm) u, Calls Try.prog 10 #[agv (ivs (cmL x))] u fun e w' => e = .returned (.tuple #[.int .u64 (pkV x), .int .i64 (pkC x)]) ∧ Below u.heap.size u w') := fun x u => word_any x u
  have HDN : Hid (∀ (B : slots.Bd) (x : Cm) u, Wf B → Calls Try.prog 42 #[agv (ivs (fl B)), agv (ivs (cmL x))] u fun r w' => r = .returned (.tuple #[agv (ivs (fl (slots.doB B x.1 x.2.1 x.2.2.1 x.2.2.2).B)), .int .i64 (slots.doB B x.1 x.2.1 x.2.2.1 x.2.2.2).c, .int .i64 (slots.doB B x.1 x.2.1 x.2.2.1 x.2.2.2).n]) ∧ Below u.heap.size u w') := fun B x u hB => slots.done_any B x.1 x.2.1 x.2.2.1 x.2.2.2 u hB
  clear hcb heb hb HQ q1 q2 q3 q4 hb2 hp hq hlong hpc hqe
  go_enter Try.func21, Try.ntmps21
  repeat' (first | (go_big_may; first | (refine v_alloc rfl zer_board rfl ?_; intro u xr hN; replace hM := hM.new hN (by decide); clear hN)) | go_values | go_skip | go_guarded | go_step | go_upon | (simp only [Int.not_lt, Int.not_le] at *; go_simp))
  refine (HB1.out _).mono ?_
  rintro r u1 ⟨rfl, rfl⟩
  repeat' (first | go_values | go_skip | go_guarded | go_step | go_upon | (simp only [Int.not_lt, Int.not_le] at *; go_simp))
  refine (HB2.out _).mono ?_
  rintro r u1 ⟨rfl, rfl⟩
  repeat' (first | (go_big_may; first | (refine v_alloc rfl zer_board rfl ?_; intro u xb hN; replace hM := hM.new hN (by decide); clear hN)) | go_values | go_skip | go_guarded | go_step | go_upon | (simp only [Int.not_lt, Int.not_le] at *; go_simp))
  replace hM := (((hM.row 25 1).row 52 3).row 52 3).row 23 4
  rename World => u2
  have HP0 : Hid (Pdi w u2 xb xr p q T 0 (.slice none 0 0) (.slice none 0 0) (.slice none 0 0) (.slice none 0 0) ps0 []) := ⟨hM, HI0.out, rfl, rfl, by simp [ps0]⟩
  clear hM
  go_loopw [11, 12, 13, 14, 15, 16, 37] (fun wv ov gv tv pn dn i wr => ∃ k : Nat, k ≤ n ∧ i = .int .i64 (k : Int) ∧ Hid (∃ s old, pn = .int .i64 (s.C.length : Int) ∧ dn = .int .i64 (s.E.length : Int) ∧ Pdi w wr xb xr p q T k wv ov gv tv s old)) (fun _ _ _ _ _ _ i _ => n - (intOf i).toNat)
  case atStart => exact ⟨0, Nat.zero_le _, rfl, ps0, [], rfl, rfl, HP0.out⟩
  case round =>
    obtain ⟨k, hk, rfl, HA⟩ := hrel
    obtain ⟨s, old, rfl, rfl, hP⟩ := HA.out
    obtain ⟨hM, hI, he1, he2, he3⟩ := hP
    have HI : Hid (Iv p q s) := hI
    have HBL : Hid (0 + 594 ≤ (ivs (fl s.B)).length) := by show _ ≤ _; rw [(ivs_vs hI.w.length).len]; exact Nat.le_refl _
    have HBA : Hid (cv (ivs (fl s.B)) 0 594 = ivs (fl s.B)) := cv_all (ivs_vs hI.w.length).len
    have HBV : Hid (Vs (ivs (fl s.B)) 594) := ivs_vs hI.w.length
    have HNM : Hid (Nms p q s) := hI.nms
    obtain ⟨aw, nw, cw, rfl, hnw, hw1, hw2⟩ := (hM.ow (23, 4, u11, (s.C.drop s.E.length).map cmL) (by simp)).form2
    obtain ⟨ao, no, co, rfl, hno, ho1, ho2⟩ := (hM.ow (52, 3, u12, (s.E.drop s.g).map evL) (by simp)).form2
    obtain ⟨ag', ng, cg, rfl, hng, hg1, hg2⟩ := (hM.ow (52, 3, u13, (rpd s).map evL) (by simp)).form2
    simp only at hnw hno hng
    rw [List.length_map, List.length_drop] at hnw hno
    rw [List.length_map, show (rpd s).length = s.g by have := HNM.out.g; unfold rpd; simp; omega] at hng
    have HNW : Hid (nw = s.C.length - s.E.length ∧ no = s.E.length - s.g ∧ ng = s.g) := ⟨hnw, hno, hng⟩
    have hcl : s.C.length ≤ 300 := by have := HNM.out.c; have := HNM.out.p63; have := he3.2; omega
    have hel : s.E.length ≤ 300 := by have := HNM.out.e; omega
    have hnl : ng ≤ 300 := by have := HNM.out.g; omega
    have hol : no ≤ 300 := by omega
    have hwl : nw ≤ 300 := by omega
    clear hnw hno hng
    by_cases hkn : k = n
    · subst hkn
      rw [List.drop_of_length_le (by have := HTn.out; omega)] at he1 he2
      have HX : Hid (s = pls p q ps0 T ∧ old = plt p q ps0 T) := ⟨he1, by rw [show plt p q s [] = [] from rfl, List.append_nil] at he2; exact he2⟩
      clear he1 he2 he3 HA HP0 hI
      repeat' (first | (go_big_may; first | (refine v_load rfl rfl row_board rfl hM.at0 HBL.out HBA.out ?_) | (refine v_fill rfl rfl row_board rfl rfl hM.at1 HBV.out HZB.out ?_; intro u hv hc; replace hM := hM.put1 hc hv; clear hv hc)) | go_values | go_skip | go_guarded | go_step | go_upon | (simp only [Int.not_lt, Int.not_le] at *; go_simp))
      refine bodyPost_ret (ret_c3 Try.results21 rfl (ld_var row_board hM.at1 HBV.out.len) rfl rfl rfl) rfl ⟨.slice ag' ng cg, u14, ?_, hM.below, ?_, ?_⟩
      · rw [← HX.out.1]; rfl
      · rw [← HX.out.1]; exact (hM.ow (52, 3, .slice ag' ng cg, (rpd s).map evL) (by simp)).rds
      · rw [← HX.out.2]; exact (hM.ow (25, 1, u14, old.map one1) (by simp)).rds
    have hlt : k < n := by omega
    obtain ⟨x, hx⟩ : ∃ x, T[k]? = some x := ⟨T[k]'(by have := HTn.out; omega), List.getElem?_eq_getElem (by have := HTn.out; omega)⟩
    obtain ⟨g, off, rfl, hrg⟩ := HR.out.at k (ddL x) (by rw [List.getElem?_map, hx]; rfl)
    rw [pls_at hx] at he1
    rw [plt_at hx] at he2
    have HE1 : Hid (pls p q (stp p q s x) (T.drop (k + 1)) = pls p q ps0 T) := he1
    have HE2 : Hid (old ++ (tld p s x ++ plt p q (stp p q s x) (T.drop (k + 1))) = plt p q ps0 T) := he2
    have HE3 : Hid (old.length ≤ k ∧ s.g ≤ k) := he3
    have HOL : Hid ((old.map one1).length ≤ 100000) := by show _ ≤ _; rw [List.length_map]; omega
    have HRG : Hid (wr.rangeAt g (off + k * 8) (ivs (ddL x))) := hrg wr hM.below
    have HIS : Hid (Iv p q (stp p q s x)) := hI.stp x
    have HDL : Hid ((ivs (ddL x)).length = 8) := rfl
    have HDV : Hid (Vs (ivs (ddL x)) 8) := ivs_vs rfl
    have HD0 : Hid ((ivs [0, 0, 0, 0, 0, 0, 0, 0]).length = 8) := rfl
    have Q0 : Hid ((ivs (ddL x))[0]? = some (.int .i64 x.1)) := rfl
    have Q5 : Hid ((ivs (ddL x))[5]? = some (.int .i64 x.2.2.1)) := rfl
    have Q6 : Hid ((ivs (ddL x))[6]? = some (.int .i64 x.2.2.2.1)) := rfl
    have Q7 : Hid ((ivs (ddL x))[7]? = some (.int .i64 x.2.2.2.2)) := rfl
    have HLC : Hid (1 + 4 ≤ (ivs (ddL x)).length) := by show 1 + 4 ≤ 8; omega
    have HAC : Hid (cv (ivs (ddL x)) 1 4 = ivs (cmL x.2.1)) := rfl
    have HS : Hid (stp p q s x = if x.1 = 1 then sbS p s x.2.1 else if x.1 = 2 then wrS p q s x.2.2.1 else if x.1 = 3 then rsV s else if x.1 = 4 then hlS s x.2.2.2.1 x.2.2.2.2 else s) := rfl
    have HT : Hid (tld p s x = if x.1 = 1 then [sbT p s x.2.1] else []) := rfl
    clear he1 he2 he3 hx hrg hI HP0 HA
    generalize hdd : ivs (ddL x) = DD at *
    clear hdd
    obtain ⟨kd, cm, dn', ds, de⟩ := x
    simp only at Q0 Q5 Q6 Q7 HAC HS HT
    by_cases c1 : kd = 1
    · subst c1
      have e1 : ((1 : Int) == 1) = true := rfl
      have HS1 : Hid (stp p q s (1, cm, dn', ds, de) = sbS p s cm) := HS.out
      have HT1 : Hid (tld p s (1, cm, dn', ds, de) = [sbT p s cm]) := HT.out
      have HC : Hid (∀ u, Calls Try.prog 10 #[agv (ivs (cmL cm))] u fun e w' => e = .returned (.tuple #[.int .u64 (pkV cm), .int .i64 (pkC cm)]) ∧ Below u.heap.size u w') := HWD.out cm
      have HCM : Hid ((ivs (cmL cm)).length = 4 ∧ (agv (ivs (cmL cm))).cells = (ivs (cmL cm)).toArray ∧ (cmL cm).length = 4) := ⟨rfl, rfl, rfl⟩
      have HRD : Hid (rpd (sbS p s cm) = rpd s) := rpd_sb p s cm
      have HG1 : Hid ((sbS p s cm).g = s.g) := sb_g s cm
      clear HS HT
      cases hpk : pkB cm
      · have k1 : pkC cm = 1 := by unfold pkC; rw [hpk]; rfl
        have HSS : Hid (sbS p s cm = s ∧ sbT p s cm = 1) := by unfold sbS sbT; rw [hpk]; exact ⟨rfl, rfl⟩
        rw [k1] at HC
        rw [HSS.out.1] at HS1
        rw [HSS.out.2] at HT1
        have HOV : Hid ((Value.int .i64 1).cells = (ivs [1]).toArray) := rfl
        have HOW : Hid ((ivs [1]).length = 1) := rfl
        clear k1 HSS hpk
        generalize ivs (cmL cm) = CM at *
        repeat' (first | (go_big_may; first | (refine v_ldR rfl rfl row_deed rfl HRG.out HDL.out ?_) | (refine v_alloc rfl zer_deed rfl ?_; intro u xd hN; replace hM := hM.new hN (by decide); clear hN) | (refine v_fill rfl rfl row_deed rfl rfl hM.at0 HDV.out HD0.out ?_; intro u hv hc; replace hM := hM.put0 hc hv; clear hv hc) | (refine v_get rfl rfl (.inl rfl) rfl hM.at0 Q0.out ?_) | (refine v_load rfl rfl row_cmd rfl hM.at0 HLC.out HAC.out ?_)) | go_values | go_skip | go_guarded | go_step | go_upon | (simp only [Int.not_lt, Int.not_le] at *; go_simp))
        refine (HC.out _).mono ?_
        rintro r u3 ⟨rfl, ht⟩
        replace hM := hM.call ht
        clear ht
        repeat' (first | (go_big_may; first | (refine v_bs rfl rfl el_errno rfl HOV.out HOW.out ?_; intro u4 g4 hb4 hc4; replace hM := hM.call hb4; clear hb4) | (refine v_appQ rfl rfl el_errno [_, _, _] rfl rfl hM hc4 rfl HOL.out ?_; intro u5 tv2 hM2; replace hM := hM2; clear hM2 hc4)) | go_values | go_skip | go_guarded | go_step | go_upon | (simp only [Int.not_lt, Int.not_le] at *; go_simp))
        go_roundw
        case rel =>
          refine ⟨k + 1, by omega, by go_num, s, old ++ [1], rfl, rfl, ?_, HI.out, by rw [← HE1.out, HS1.out], ?_, ?_⟩
          · rw [List.map_append]
            exact hM.sub (.cons _ (List.Sublist.refl _))
          · have := HE2.out
            rw [HT1.out, HS1.out] at this
            rw [List.append_assoc]
            exact this
          · have := HE3.out
            rw [List.length_append, List.length_singleton]
            omega
        case measure => simp [intOf]; omega
      have k1 : pkC cm = 0 := by unfold pkC; rw [hpk]; rfl
      rw [k1] at HC
      cases hrm : rmB p s
      · have HSS : Hid (sbS p s cm = s ∧ sbT p s cm = 11) := by unfold sbS sbT; rw [hpk, hrm]; exact ⟨rfl, rfl⟩
        have hful : decide (c - 2 ≤ (s.C.length : Int) - (ng : Int)) = true := by
          have h1 := of_decide_eq_false hrm
          have h2 := HPC.out.1
          have h3 := HNW.out.2.2
          exact decide_eq_true (by omega)
        rw [HSS.out.1] at HS1
        rw [HSS.out.2] at HT1
        have HOV : Hid ((Value.int .i64 11).cells = (ivs [11]).toArray) := rfl
        have HOW : Hid ((ivs [11]).length = 1) := rfl
        clear k1 HSS hpk hrm
        generalize ivs (cmL cm) = CM at *
        repeat' (first | (go_big_may; first | (refine v_ldR rfl rfl row_deed rfl HRG.out HDL.out ?_) | (refine v_alloc rfl zer_deed rfl ?_; intro u xd hN; replace hM := hM.new hN (by decide); clear hN) | (refine v_fill rfl rfl row_deed rfl rfl hM.at0 HDV.out HD0.out ?_; intro u hv hc; replace hM := hM.put0 hc hv; clear hv hc) | (refine v_get rfl rfl (.inl rfl) rfl hM.at0 Q0.out ?_) | (refine v_load rfl rfl row_cmd rfl hM.at0 HLC.out HAC.out ?_)) | go_values | go_skip | go_guarded | go_step | go_upon | (simp only [Int.not_lt, Int.not_le] at *; go_simp))
        refine (HC.out _).mono ?_
        rintro r u3 ⟨rfl, ht⟩
        replace hM := hM.call ht
        clear ht
        repeat' (first | (go_big_may; first | (refine v_bs rfl rfl el_errno rfl HOV.out HOW.out ?_; intro u4 g4 hb4 hc4; replace hM := hM.call hb4; clear hb4) | (refine v_appQ rfl rfl el_errno [_, _, _] rfl rfl hM hc4 rfl HOL.out ?_; intro u5 tv2 hM2; replace hM := hM2; clear hM2 hc4)) | go_values | go_skip | go_guarded | go_step | go_upon | (simp only [Int.not_lt, Int.not_le] at *; go_simp))
        go_roundw
        case rel =>
          refine ⟨k + 1, by omega, by go_num, s, old ++ [11], rfl, rfl, ?_, HI.out, by rw [← HE1.out, HS1.out], ?_, ?_⟩
          · rw [List.map_append]
            exact hM.sub (.cons _ (List.Sublist.refl _))
          · have := HE2.out
            rw [HT1.out, HS1.out] at this
            rw [List.append_assoc]
            exact this
          · have := HE3.out
            rw [List.length_append, List.length_singleton]
            omega
        case measure => simp [intOf]; omega
      · have HSS : Hid (sbS p s cm = ⟨s.C ++ [cm], s.E, s.g, s.B⟩ ∧ sbT p s cm = 0) := by unfold sbS sbT; rw [hpk, hrm]; exact ⟨rfl, rfl⟩
        have hful : decide (c - 2 ≤ (s.C.length : Int) - (ng : Int)) = false := by
          have h1 := of_decide_eq_true hrm
          have h2 := HPC.out.1
          have h3 := HNW.out.2.2
          exact decide_eq_false (by have := HNM.out.g; have := HNM.out.e; omega)
        rw [HSS.out.1] at HS1 HRD HG1
        rw [HSS.out.2] at HT1
        have HOV : Hid ((Value.int .i64 0).cells = (ivs [0]).toArray) := rfl
        have HOW : Hid ((ivs [0]).length = 1) := rfl
        have HWL : Hid (((s.C.drop s.E.length).map cmL).length ≤ 100000) := by show _ ≤ _; rw [List.length_map, List.length_drop]; omega
        have HWC : Hid (((s.C ++ [cm]).drop s.E.length).map cmL = (s.C.drop s.E.length).map cmL ++ [cmL cm]) := by
          show _ = _
          rw [List.drop_append_of_le_length HNM.out.e, List.map_append]
          rfl
        clear k1 HSS hpk hrm
        generalize hCM : ivs (cmL cm) = CM at *
        have HCM2 : Hid (ivs (cmL cm) = CM) := hCM
        clear hCM
        repeat' (first | (go_big_may; first | (refine v_ldR rfl rfl row_deed rfl HRG.out HDL.out ?_) | (refine v_alloc rfl zer_deed rfl ?_; intro u xd hN; replace hM := hM.new hN (by decide); clear hN) | (refine v_fill rfl rfl row_deed rfl rfl hM.at0 HDV.out HD0.out ?_; intro u hv hc; replace hM := hM.put0 hc hv; clear hv hc) | (refine v_get rfl rfl (.inl rfl) rfl hM.at0 Q0.out ?_) | (refine v_load rfl rfl row_cmd rfl hM.at0 HLC.out HAC.out ?_)) | go_values | go_skip | go_guarded | go_step | go_upon | (simp only [Int.not_lt, Int.not_le] at *; go_simp))
        refine (HC.out _).mono ?_
        rintro r u3 ⟨rfl, ht⟩
        replace hM := hM.call ht
        clear ht
        repeat' (first | (go_big_may; first | (refine v_bs rfl rfl el_errno rfl HOV.out HOW.out ?_; intro u4 g4 hb4 hc4; replace hM := hM.call hb4; clear hb4) | (refine v_appQ rfl rfl el_errno [_, _, _] rfl rfl hM hc4 rfl HOL.out ?_; intro u5 tv2 hM2; replace hM := hM2; clear hM2 hc4) | (refine v_load rfl rfl row_cmd rfl hM.at0 HLC.out HAC.out ?_) | (refine v_bs rfl rfl el_cmq rfl HCM.out.2.1 HCM.out.1 ?_; intro u6 g6 hb6 hc6; replace hM := hM.call hb6; clear hb6; rw [← HCM2.out] at hc6) | (refine v_appQ rfl rfl el_cmq [] rfl rfl hM hc6 HCM.out.2.2 HWL.out ?_; intro u7 wv2 hM2; replace hM := hM2; clear hM2 hc6)) | go_values | go_skip | go_guarded | go_step | go_upon | (simp only [Int.not_lt, Int.not_le] at *; go_simp))
        go_roundw
        case rel =>
          refine ⟨k + 1, by omega, by go_num, ⟨s.C ++ [cm], s.E, s.g, s.B⟩, old ++ [0], ?_, rfl, ?_, by rw [← HS1.out]; exact HIS.out, by rw [← HE1.out, HS1.out], ?_, ?_⟩
          · rw [List.length_append, List.length_singleton]; go_num
          · rw [HRD.out, List.map_append]
            show Mq w _ _ ((_, _, _, ((s.C ++ [cm]).drop s.E.length).map cmL) :: _)
            rw [HWC.out]
            exact hM.sub (.cons _ (List.Sublist.refl _))
          · have := HE2.out
            rw [HT1.out, HS1.out] at this
            rw [List.append_assoc]
            exact this
          · have := HE3.out
            rw [List.length_append, List.length_singleton]
            exact ⟨by omega, by show s.g ≤ _; omega⟩
        case measure => simp [intOf]; omega
    have f1 : (kd == 1) = false := by simpa using c1
    rw [if_neg c1] at HS HT
    by_cases c2 : kd = 2
    · subst c2
      have HS1 : Hid (stp p q s (2, cm, dn', ds, de) = wrS p q s dn') := HS.out
      have HT1 : Hid (tld p s (2, cm, dn', ds, de) = []) := HT.out
      have HST0 : Hid ((dn' ≤ 1000 → wkS p q (dn'.toNat - 0) s = wrS p q s dn') ∧ (1000 < dn' → s = wrS p q s dn')) := wr_start s dn'
      have HFIN : Hid (∀ (xd : Nat) (s' : Ps) wx wv ov, s' = wrS p q s dn' → Iv p q s' → Mq w wx [(xd, 73, DD), (xb, 41, ivs (fl s'.B)), (xr, 41, ivs (fl slots.zB))] [(23, 4, wv, (s'.C.drop s'.E.length).map cmL), (52, 3, ov, (s'.E.drop s'.g).map evL), (52, 3, .slice ag' ng cg, (rpd s).map evL), (25, 1, u14, old.map one1)] → Pdi w wx xb xr p q T (k + 1) wv ov (.slice ag' ng cg) u14 s' old) := by
        intro xd s' wx wv ov h1 h2 h3
        refine ⟨?_, h2, by rw [h1, ← HS1.out]; exact HE1.out, ?_, ?_⟩
        · have hr : rpd s' = rpd s := by rw [h1]; exact rpd_wr HI.out dn'
          rw [hr]
          exact h3.sub (.cons _ (List.Sublist.refl _))
        · have := HE2.out
          rw [HT1.out, HS1.out, ← h1] at this
          exact this
        · have := HE3.out
          have hg : s'.g = s.g := by rw [h1]; exact wr_g s dn'
          omega
      clear HS HT c1
      repeat' (first | (go_big_may; first | (refine v_ldR rfl rfl row_deed rfl HRG.out HDL.out ?_) | (refine v_alloc rfl zer_deed rfl ?_; intro u xd hN; replace hM := hM.new hN (by decide); clear hN) | (refine v_fill rfl rfl row_deed rfl rfl hM.at0 HDV.out HD0.out ?_; intro u hv hc; replace hM := hM.put0 hc hv; clear hv hc) | (refine v_get rfl rfl (.inl rfl) rfl hM.at0 Q0.out ?_) | (refine v_get rfl rfl (.inl rfl) rfl hM.at0 Q5.out ?_)) | go_values | go_skip | go_guarded | go_step | go_upon | (simp only [Int.not_lt, Int.not_le] at *; go_simp))
      rename World => u2
      have HP1 : Hid (Wki w u2 xd xb xr p q s s DD dn' 0 (.slice aw nw cw) (.slice ao no co) (.slice ag' ng cg) u14 old) := ⟨hM, HI.out, HST0.out.1, HST0.out.2, rfl, rfl⟩
      clear hM HST0
      go_loopw [11, 12, 16, 79] (fun wv ov dn i wx => ∃ j : Nat, i = .int .i64 (j : Int) ∧ ((j : Int) ≤ dn' ∨ j = 0) ∧ Hid (∃ s', dn = .int .i64 (s'.E.length : Int) ∧ Wki w wx xd xb xr p q s s' DD dn' j wv ov (.slice ag' ng cg) u14 old)) (fun _ _ _ i _ => (dn' - intOf i).toNat)
      case atStart => exact ⟨0, rfl, .inr rfl, s, rfl, HP1.out⟩
      case round =>
        obtain ⟨j, rfl, hjd, HA⟩ := hrel
        obtain ⟨s', rfl, hK⟩ := HA.out
        obtain ⟨hM, hI', ht1, ht2, hcg⟩ := hK
        have HI' : Hid (Iv p q s') := hI'
        have HCG : Hid (s'.C = s.C ∧ s'.g = s.g) := hcg
        have HT2 : Hid ((dn' ≤ 1000 → wkS p q (dn'.toNat - j) s' = wrS p q s dn') ∧ (1000 < dn' → s' = wrS p q s dn')) := ⟨ht1, ht2⟩
        have HBL' : Hid (0 + 594 ≤ (ivs (fl s'.B)).length) := by show _ ≤ _; rw [(ivs_vs hI'.w.length).len]; exact Nat.le_refl _
        have HBA' : Hid (cv (ivs (fl s'.B)) 0 594 = ivs (fl s'.B)) := cv_all (ivs_vs hI'.w.length).len
        have HBV' : Hid (Vs (ivs (fl s'.B)) 594) := ivs_vs hI'.w.length
        have HNM' : Hid (Nms p q s') := hI'.nms
        obtain ⟨aw', nw', cw', rfl, hnw, hw1', hw2'⟩ := (hM.ow (23, 4, u11, (s'.C.drop s'.E.length).map cmL) (by simp)).form2
        obtain ⟨ao', no', co', rfl, hno, ho1', ho2'⟩ := (hM.ow (52, 3, u12, (s'.E.drop s'.g).map evL) (by simp)).form2
        simp only at hnw hno
        rw [List.length_map, List.length_drop] at hnw hno
        have HNW' : Hid (nw' = s'.C.length - s'.E.length ∧ no' = s'.E.length - s'.g) := ⟨hnw, hno⟩
        have hcl' : s'.C.length ≤ 300 := by rw [hcg.1]; exact hcl
        have hel' : s'.E.length ≤ 300 := by have := HNM'.out.e; omega
        have hol' : no' ≤ 300 := by omega
        have hwl' : nw' ≤ 300 := by omega
        clear hnw hno ht1 ht2 hcg hI' HA HP1
        by_cases hjl : dn' ≤ (j : Int)
        · have HST : Hid (s' = wrS p q s dn') := by
            by_cases h1 : 1000 < dn'
            · exact HT2.out.2 h1
            · have := HT2.out.1 (by omega)
              rw [show dn'.toNat - j = 0 by omega] at this
              exact this
          have hjl2 : decide ((j : Int) < dn') = false := decide_eq_false (by omega)
          repeat' (first | go_values | go_skip | go_guarded | go_step | go_upon | (simp only [Int.not_lt, Int.not_le] at *; go_simp))
          go_roundw
          case rel =>
            first | exact ⟨k + 1, by omega, by go_num, s', old, by rw [HCG.out.1], rfl, HFIN.out xd s' _ _ _ HST.out HI'.out hM⟩ | exact ⟨k + 1, by omega, by go_num, s', by rw [HCG.out.1], rfl, old, HFIN.out xd s' _ _ _ HST.out HI'.out hM⟩
          case measure => simp [intOf]; omega
        have hjl2 : (j : Int) < dn' := by omega
        cases hws : wsB q s'
        · have HST : Hid (s' = wrS p q s dn') := by
            by_cases h1 : 1000 < dn'
            · exact HT2.out.2 h1
            · have := HT2.out.1 (by omega)
              rw [wk_stop hws] at this
              exact this
          by_cases h0 : nw' = 0
          · subst h0
            clear hws
            repeat' (first | (go_big_may; first | (refine v_get rfl rfl (.inl rfl) rfl hM.at0 Q5.out ?_)) | go_values | go_skip | go_guarded | go_step | go_upon | (simp only [Int.not_lt, Int.not_le] at *; go_simp))
            go_roundw
            case rel =>
              first | exact ⟨k + 1, by omega, by go_num, s', old, by rw [HCG.out.1], rfl, HFIN.out xd s' _ _ _ HST.out HI'.out hM⟩ | exact ⟨k + 1, by omega, by go_num, s', by rw [HCG.out.1], rfl, old, HFIN.out xd s' _ _ _ HST.out HI'.out hM⟩
            case measure => simp [intOf]; omega
          · have hfu : ((no' : Int) == e - 2) = true := by
              have h1 := HNW'.out
              have h2 := HNM'.out.o
              have h3 := HPC.out.2
              have h4 := HNM'.out.e
              have h5 := HNM'.out.g
              unfold wsB at hws
              simp only [Bool.and_eq_false_iff, decide_eq_false_iff_not] at hws
              simp
              omega
            have h0b : ((nw' : Int) == 0) = false := by simp; omega
            clear hws
            repeat' (first | (go_big_may; first | (refine v_get rfl rfl (.inl rfl) rfl hM.at0 Q5.out ?_)) | go_values | go_skip | go_guarded | go_step | go_upon | (simp only [Int.not_lt, Int.not_le] at *; go_simp))
            go_roundw
            case rel =>
              first | exact ⟨k + 1, by omega, by go_num, s', old, by rw [HCG.out.1], rfl, HFIN.out xd s' _ _ _ HST.out HI'.out hM⟩ | exact ⟨k + 1, by omega, by go_num, s', by rw [HCG.out.1], rfl, old, HFIN.out xd s' _ _ _ HST.out HI'.out hM⟩
            case measure => simp [intOf]; omega
        · have hpos := hws
          unfold wsB at hpos
          simp only [Bool.and_eq_true, decide_eq_true_eq] at hpos
          have h0b : ((nw' : Int) == 0) = false := by have := HNW'.out; simp; omega
          have hfu : ((no' : Int) == e - 2) = false := by
            have h1 := HNW'.out
            have h3 := HPC.out.2
            simp
            omega
          by_cases hbig : 1000 < dn'
          · have HST : Hid (s' = wrS p q s dn') := HT2.out.2 hbig
            clear hws hpos
            repeat' (first | (go_big_may; first | (refine v_get rfl rfl (.inl rfl) rfl hM.at0 Q5.out ?_)) | go_values | go_skip | go_guarded | go_step | go_upon | (simp only [Int.not_lt, Int.not_le] at *; go_simp))
            go_roundw
            case rel =>
              first | exact ⟨k + 1, by omega, by go_num, s', old, by rw [HCG.out.1], rfl, HFIN.out xd s' _ _ _ HST.out HI'.out hM⟩ | exact ⟨k + 1, by omega, by go_num, s', by rw [HCG.out.1], rfl, old, HFIN.out xd s' _ _ _ HST.out HI'.out hM⟩
            case measure => simp [intOf]; omega
          have hbig2 : decide (1000 < dn') = false := decide_eq_false hbig
          have hbig3 : dn' ≤ 1000 := by omega
          have HIV : Hid (Iv p q (wsV p s')) := (HI'.out.wv hws).2
          have HGO : Hid (wkS p q (dn'.toNat - (j + 1)) (wsV p s') = wrS p q s dn') := by
            have := HT2.out.1 (by omega)
            rw [show dn'.toNat - j = (dn'.toNat - (j + 1)) + 1 by omega, wk_go hws] at this
            exact this
          have hlt2 : s'.E.length < s'.C.length := hpos.1
          have hdr : (s'.C.drop s'.E.length).map cmL = cmL (nth s') :: (s'.C.drop (s'.E.length + 1)).map cmL := by
            rw [List.drop_eq_getElem_cons hlt2, List.map_cons]
            unfold nth
            rw [List.getD_eq_getElem?_getD, List.getElem?_eq_getElem hlt2]
            rfl
          rw [hdr] at hM
          obtain ⟨gw, ow, rfl⟩ := (hM.ow (23, 4, .slice aw' nw' cw', cmL (nth s') :: (s'.C.drop (s'.E.length + 1)).map cmL) (by simp)).addr
          have hnw3 : 0 < nw' := by have := HNW'.out; omega
          have hnw2 : (0 : Int) < (nw' : Int) := by omega
          have HOL' : Hid (((s'.E.drop s'.g).map evL).length ≤ 100000) := by show _ ≤ _; rw [List.length_map, List.length_drop]; omega
          have HOE : Hid (((s'.E ++ [wsE p s']).drop s'.g).map evL = (s'.E.drop s'.g).map evL ++ [evL (wsE p s')]) := by
            show _ = _
            rw [List.drop_append_of_le_length HNM'.out.g, List.map_append]
            rfl
          obtain ⟨M, hMd⟩ : ∃ M : Nat, s'.E.length % p = M := ⟨_, rfl⟩
          have HDN2 : Hid (∀ u, Calls Try.prog 42 #[agv (ivs (fl s'.B)), agv (ivs (cmL (nth s')))] u fun r w' => r = .returned (.tuple #[agv (ivs (fl (tha s').B)), .int .i64 (tha s').c, .int .i64 (tha s').n]) ∧ Below u.heap.size u w') := fun u => HDN.out s'.B (nth s') u HI'.out.w
          have HWE : Hid (evL (wsE p s') = [(tha s').c, (tha s').n, (M : Int)]) := by show _ = _; rw [← hMd]; rfl
          have HWB : Hid ((wsV p s').B = (tha s').B ∧ (wsV p s').C = s'.C ∧ (wsV p s').E = s'.E ++ [wsE p s'] ∧ (wsV p s').g = s'.g) := ⟨rfl, rfl, rfl, rfl⟩
          have HVB : Hid (Vs (ivs (fl (tha s').B)) 594) := ivs_vs (slots.do_wf HI'.out.w).length
          have hrem : ((s'.E.length : Int)).tmod (c - 1) = (M : Int) := by
            have h1 := HPC.out.1
            rw [show c - 1 = (p : Int) by omega, Int.tmod_eq_emod_of_nonneg (by omega), ← hMd]
            omega
          have hM64 : M < 64 := by
            have h1 := HNM'.out.p63
            have h2 := HNM'.out.p2
            have := Nat.mod_lt s'.E.length (show 0 < p by omega)
            omega
          have hcz : ¬ (c - 1 = 0) := by omega
          have hbe := bld_ea (M : Int)
          have HE0 : Hid (Vs (ivs [0, 0, (M : Int)]) 3) := ivs_vs rfl
          have HE00 : Hid ((ivs [0, 0, 0]).length = 3) := rfl
          have HCML : Hid ((ivs (cmL (nth s'))).length = 4) := rfl
          generalize hdB : ivs (fl (tha s').B) = DB at *
          generalize hdc : (tha s').c = dc at *
          generalize hdq : (tha s').n = dq at *
          generalize hdF : ivs (fl s'.B) = F at *
          have HDB : Hid (ivs (fl (tha s').B) = DB) := hdB
          have HEV : Hid ((ivs [dc, dq, (M : Int)]).length = 3 ∧ (agv (ivs [dc, dq, (M : Int)])).cells = (ivs [dc, dq, (M : Int)]).toArray ∧ 0 + 3 ≤ (ivs [dc, dq, (M : Int)]).length ∧ cv (ivs [dc, dq, (M : Int)]) 0 3 = ivs [dc, dq, (M : Int)] ∧ [dc, dq, (M : Int)].length = 3) := ⟨rfl, rfl, Nat.le_refl _, rfl, rfl⟩
          have HPU : Hid (((ivs [0, 0, (M : Int)]).set 0 (.int .i64 dc)).set 1 (.int .i64 dq) = ivs [dc, dq, (M : Int)] ∧ 0 < (ivs [0, 0, (M : Int)]).length ∧ 1 < ((ivs [0, 0, (M : Int)]).set 0 (.int .i64 dc)).length) := ⟨rfl, Nat.zero_lt_succ _, Nat.one_lt_succ_succ _⟩
          clear hws hpos hdr hdB hdc hdq hdF hMd hbig
          repeat' (first | (go_big_may; first | (refine v_get rfl rfl (.inl rfl) rfl hM.at0 Q5.out ?_) | (refine v_build rfl rfl hbe ?hbv ?_; (case hbv => simp [Act.eval, Act.put])) | (refine v_alloc rfl zer_event rfl ?_; intro u xv hN; replace hM := hM.new hN (by decide); clear hN) | (refine v_fill rfl rfl row_event rfl rfl hM.at0 HE0.out HE00.out ?_; intro u hv hc; replace hM := hM.put0 hc hv; clear hv hc)) | go_values | go_skip | go_guarded | go_step | go_upon | (simp only [Int.not_lt, Int.not_le] at *; go_simp))
          go_simp
          refine wp_abs (fun a0 => a0.tmps.size = 168 ∧ (∀ h, a0.tmps[10]'h = .pointer (some ⟨xb, 0, none⟩)) ∧ (∀ h, a0.tmps[11]'h = .slice (some ⟨gw, ow, none⟩) nw' cw') ∧ (∀ h, a0.tmps[21]'h = .pointer (some ⟨xv, 0, none⟩))) ⟨rfl, fun _ => rfl, fun _ => rfl, fun _ => rfl⟩ ?_
          rintro a0 ⟨hsz, s10, s11, s21⟩ ha0
          refine wp_region_held (S := fun W => W.rangeAt gw ow (ivs (cmL (nth s')))) (by kernel_rfl) ?_
          have hd := hM.drew
          have hS0 := (hd.ow (23, 4, .slice (some ⟨gw, ow, none⟩) nw' cw', cmL (nth s') :: (s'.C.drop (s'.E.length + 1)).map cmL) (by simp)).rng
          refine h_take (i := 1) (.slice (some ⟨gw, ow, none⟩) nw' cw') rfl (by kernel_rfl) (by kernel_rfl) (by kernel_rfl) (fun _ _ _ h => h) rfl hS0 (fun W hW => by simp [execOp, go_sem, Act.put, hsz, s10, s11, s21]) ?_
          refine h_take (i := 2) (.pointer (some ⟨gw, ow, none⟩)) rfl (by kernel_rfl) (by kernel_rfl) (by kernel_rfl) (fun _ _ _ h => h) rfl hS0 (fun W hW => by simp [execOp, go_sem, Act.put, hsz, s10, s11, s21, hnw2, hnw3]) ?_
          refine h_take (i := 3) (agv (ivs (cmL (nth s')))) rfl (by kernel_rfl) (by kernel_rfl) (by kernel_rfl) (fun _ _ _ h => h) rfl hS0 (fun W hW => ex_ldR rfl row_cmd (by simp [go_sem, Act.put, hsz]) hW HCML.out) ?_
          refine h_value (i := 0) (agv F) rfl (by kernel_rfl) rfl (ex_loadv rfl row_board (by simp [go_sem, Act.put, hsz, s10]) hd.at2 HBL'.out HBA'.out) hS0 ?_
          refine h_call (i := 4) 42 #[agv F, agv (ivs (cmL (nth s')))] rfl (by kernel_rfl) rfl (by simp [execOp, go_sem, Act.put, hsz, s10, s11, s21]) ((HDN2.out _).mono ?_)
          rintro r u6 ⟨rfl, hv⟩
          have hd1 := hd.call hv
          have hS1 := (hd1.ow (23, 4, .slice (some ⟨gw, ow, none⟩) nw' cw', cmL (nth s') :: (s'.C.drop (s'.E.length + 1)).map cmL) (by simp)).rng
          refine ⟨_, rfl, hS1, ?_⟩
          refine h_take (i := 5) (.tuple #[agv DB, .int .i64 dc, .int .i64 dq]) rfl (by kernel_rfl) (by kernel_rfl) (by kernel_rfl) (fun _ _ _ h => h) rfl hS1 (fun W hW => by simp [execOp, go_sem, Act.put, hsz, s10, s11, s21]) ?_
          refine h_take (i := 6) (agv DB) rfl (by kernel_rfl) (by kernel_rfl) (by kernel_rfl) (fun _ _ _ h => h) rfl hS1 (fun W hW => by simp [execOp, go_sem, Act.put, hsz, s10, s11, s21]) ?_
          refine h_take (i := 7) (.int .i64 dc) rfl (by kernel_rfl) (by kernel_rfl) (by kernel_rfl) (fun _ _ _ h => h) rfl hS1 (fun W hW => by simp [execOp, go_sem, Act.put, hsz, s10, s11, s21]) ?_
          refine h_take (i := 8) (.int .i64 dq) rfl (by kernel_rfl) (by kernel_rfl) (by kernel_rfl) (fun _ _ _ h => h) rfl hS1 (fun W hW => by simp [execOp, go_sem, Act.put, hsz, s10, s11, s21]) ?_
          refine h_fillv (i := 9) rfl (by kernel_rfl) rfl rfl row_board (by simp [go_sem, Act.put, hsz, s10]) (by simp [go_sem, Act.put, hsz]) hd1.at2 HVB.out HBV'.out.len (fun u7 hl7 hc7 => ?_)
          have hd2 := hd1.put2 hc7 hl7
          refine ⟨(hd2.ow (23, 4, .slice (some ⟨gw, ow, none⟩) nw' cw', cmL (nth s') :: (s'.C.drop (s'.E.length + 1)).map cmL) (by simp)).rng, ?_⟩
          have hS2 := (hd2.ow (23, 4, .slice (some ⟨gw, ow, none⟩) nw' cw', cmL (nth s') :: (s'.C.drop (s'.E.length + 1)).map cmL) (by simp)).rng
          refine h_take (i := 10) (.pointer (some ⟨xv, 0, none⟩)) rfl (by kernel_rfl) (by kernel_rfl) (by kernel_rfl) (fun _ _ _ h => h) rfl hS2 (fun W hW => by simp [execOp, go_sem, Act.put, hsz, s10, s11, s21]) ?_
          refine h_puti (i := 11) (v := dc) rfl (by kernel_rfl) rfl rfl (by simp [go_sem, Act.put, hsz]) (by simp [go_sem, Act.put, hsz]) hd2.at0 HPU.out.2.1 (fun u8 hl8 hc8 => ?_)
          have hd3 := hd2.put0 hc8 hl8
          refine ⟨(hd3.ow (23, 4, .slice (some ⟨gw, ow, none⟩) nw' cw', cmL (nth s') :: (s'.C.drop (s'.E.length + 1)).map cmL) (by simp)).rng, ?_⟩
          have hS3 := (hd3.ow (23, 4, .slice (some ⟨gw, ow, none⟩) nw' cw', cmL (nth s') :: (s'.C.drop (s'.E.length + 1)).map cmL) (by simp)).rng
          refine h_take (i := 12) (.pointer (some ⟨xv, 1, none⟩)) rfl (by kernel_rfl) (by kernel_rfl) (by kernel_rfl) (fun _ _ _ h => h) rfl hS3 (fun W hW => by simp [execOp, go_sem, Act.put, hsz, s10, s11, s21]) ?_
          refine h_puti (i := 13) (v := dq) rfl (by kernel_rfl) rfl rfl (by simp [go_sem, Act.put, hsz]) (by simp [go_sem, Act.put, hsz]) hd3.at0 HPU.out.2.2 (fun u9 hl9 hc9 => ?_)
          have hd4 := hd3.put0 hc9 hl9
          refine ⟨(hd4.ow (23, 4, .slice (some ⟨gw, ow, none⟩) nw' cw', cmL (nth s') :: (s'.C.drop (s'.E.length + 1)).map cmL) (by simp)).rng, ?_⟩
          refine wpAnyH_done (by kernel_rfl) ?_ _
          subst ha0
          rw [HPU.out.1] at hd4
          clear hsz s10 s11 s21 hd hd1 hd2 hd3 hM hS0 hS1 hS2 hS3 hv hl7 hc7 hl8 hc8 hl9 hc9
          have hM := hd4
          clear hd4
          go_simp
          repeat' (first | go_values | go_skip | go_guarded | go_step | go_upon | (simp only [Int.not_lt, Int.not_le] at *; go_simp))
          go_simp
          refine wp_abs (fun a0 => a0.tmps.size = 168 ∧ (∀ h, a0.tmps[11]'h = .slice (some ⟨gw, ow, none⟩) nw' cw') ∧ (∀ h, a0.tmps[12]'h = .slice ao' no' co') ∧ (∀ h, a0.tmps[16]'h = .int .i64 (s'.E.length : Int)) ∧ (∀ h, a0.tmps[21]'h = .pointer (some ⟨xv, 0, none⟩))) ⟨rfl, fun _ => rfl, fun _ => rfl, fun _ => rfl, fun _ => rfl⟩ ?_
          rintro a0 ⟨hsz, s11, s12, s16, s21⟩ ha0
          refine wp_region_held (S := fun _ => True) (by kernel_rfl) ?_
          have hd := hM.drew
          obtain ⟨wv2, hcut, hd2⟩ := hd.cut [] el_cmq
          have hwr : IntKind.i64.wrap ((s'.E.length : Int) + 1) = (s'.E.length : Int) + 1 := by rw [IntKind.wrap_i64]; omega
          refine h_take (i := 0) (.slice (some ⟨gw, ow, none⟩) nw' cw') rfl (by kernel_rfl) (by kernel_rfl) (by kernel_rfl) (fun _ _ _ h => h) rfl trivial (fun W hW => by simp [execOp, go_sem, Act.put, hsz, s11, s12, s16, s21]) ?_
          refine h_take (i := 1) wv2 rfl (by kernel_rfl) (by kernel_rfl) (by kernel_rfl) (fun _ _ _ h => h) rfl trivial (fun W hW => ex_cutQ rfl (by simp [go_sem, Act.put, hsz]) hcut) ?_
          refine h_take (i := 2) (.slice ao' no' co') rfl (by kernel_rfl) (by kernel_rfl) (by kernel_rfl) (fun _ _ _ h => h) rfl trivial (fun W hW => by simp [execOp, go_sem, Act.put, hsz, s11, s12, s16, s21]) ?_
          refine h_take (i := 6) (.int .i64 (s'.E.length : Int)) rfl (by kernel_rfl) (by kernel_rfl) (by kernel_rfl) (fun _ _ _ h => h) rfl trivial (fun W hW => by simp [execOp, go_sem, Act.put, hsz, s11, s12, s16, s21]) ?_
          refine h_take (i := 7) (.int .i64 ((s'.E.length : Int) + 1)) rfl (by kernel_rfl) (by kernel_rfl) (by kernel_rfl) (fun _ _ _ h => h) rfl trivial (fun W hW => by simp [execOp, go_sem, Act.put, hsz, s11, s12, s16, s21, hwr]) ?_
          refine h_value (i := 3) (agv (ivs [dc, dq, (M : Int)])) rfl (by kernel_rfl) rfl (ex_loadv rfl row_event (by simp [go_sem, Act.put, hsz, s21]) hd2.at0 HEV.out.2.2.1 HEV.out.2.2.2.1) trivial ?_
          refine h_bsQ (i := 4) rfl (by kernel_rfl) rfl rfl el_event (by simp [go_sem, Act.put, hsz]) HEV.out.2.1 HEV.out.1 hd2 (fun u4 g4 hd4 hc4 => ⟨trivial, ?_⟩)
          refine h_appQ (i := 5) rfl (by kernel_rfl) rfl rfl el_event [(23, 4, wv2, (s'.C.drop (s'.E.length + 1)).map cmL)] (by simp [go_sem, Act.put, hsz]) (by simp [go_sem, Act.put, hsz]) hd4 hc4 HEV.out.2.2.2.2 HOL'.out (fun u5 ov2 hd5 => ⟨trivial, ?_⟩)
          refine h_take (i := 8) (wv2) rfl (by kernel_rfl) (by kernel_rfl) (by kernel_rfl) (fun _ _ _ h => h) rfl trivial (fun W hW => by simp [execOp, go_sem, Act.put, hsz, s11, s12, s16, s21]) ?_
          refine h_take (i := 9) (ov2) rfl (by kernel_rfl) (by kernel_rfl) (by kernel_rfl) (fun _ _ _ h => h) rfl trivial (fun W hW => by simp [execOp, go_sem, Act.put, hsz, s11, s12, s16, s21]) ?_
          refine h_take (i := 10) (.int .i64 ((s'.E.length : Int) + 1)) rfl (by kernel_rfl) (by kernel_rfl) (by kernel_rfl) (fun _ _ _ h => h) rfl trivial (fun W hW => by simp [execOp, go_sem, Act.put, hsz, s11, s12, s16, s21]) ?_
          refine wpAnyH_done (by kernel_rfl) ?_ _
          subst ha0
          clear hsz s11 s12 s16 s21 hd hd2 hd4 hM hcut hc4 hwr
          have hM := hd5
          clear hd5
          go_simp
          repeat' (first | go_values | go_skip | go_guarded | go_step | go_upon | (simp only [Int.not_lt, Int.not_le] at *; go_simp))
          go_roundw
          case rel =>
            refine ⟨j + 1, by go_num, .inl (by omega), wsV p s', ?_, ?_, HIV.out, fun _ => HGO.out, fun h => absurd h (by have := of_decide_eq_false hbig2; omega), HCG.out.1, HCG.out.2⟩
            · rw [HWB.out.2.2.1, List.length_append, List.length_singleton]; go_num
            · rw [HWB.out.1, HWB.out.2.1, HWB.out.2.2.1, HWB.out.2.2.2, HDB.out, HOE.out, HWE.out, List.length_append, List.length_singleton]
              exact hM.sub (.cons _ (List.Sublist.refl _))
          case measure => simp [intOf]; omega
    have f2 : (kd == 2) = false := by simpa using c2
    rw [if_neg c2] at HS
    by_cases c3 : kd = 3
    · subst c3
      have HS1 : Hid (stp p q s (3, cm, dn', ds, de) = rsV s) := HS.out
      have HT1 : Hid (tld p s (3, cm, dn', ds, de) = []) := HT.out
      clear HS HT c1 c2
      cases hrb : rsB s
      · have HRV : Hid (rsV s = s) := rpd_no hrb
        have hno0 : no = 0 := by
          have h1 := of_decide_eq_false hrb
          have h2 := HNW.out.2.1
          omega
        subst hno0
        rw [HRV.out] at HS1
        clear hrb
        repeat' (first | (go_big_may; first | (refine v_ldR rfl rfl row_deed rfl HRG.out HDL.out ?_) | (refine v_alloc rfl zer_deed rfl ?_; intro u xd hN; replace hM := hM.new hN (by decide); clear hN) | (refine v_fill rfl rfl row_deed rfl rfl hM.at0 HDV.out HD0.out ?_; intro u hv hc; replace hM := hM.put0 hc hv; clear hv hc) | (refine v_get rfl rfl (.inl rfl) rfl hM.at0 Q0.out ?_)) | go_values | go_skip | go_guarded | go_step | go_upon | (simp only [Int.not_lt, Int.not_le] at *; go_simp))
        go_roundw
        case rel =>
          refine ⟨k + 1, by omega, by go_num, s, old, rfl, rfl, hM.sub (.cons _ (List.Sublist.refl _)), HI.out, by have := HE1.out; rw [HS1.out] at this; exact this, ?_, ?_⟩
          · have := HE2.out
            rw [HT1.out, HS1.out] at this
            exact this
          · have := HE3.out
            omega
        case measure => simp [intOf]; omega
      · have hlt2 : s.g < s.E.length := of_decide_eq_true hrb
        have HRV : Hid (rsV s = ⟨s.C, s.E, s.g + 1, s.B⟩) := by unfold rsV; rw [if_pos hrb]; rfl
        have HRD : Hid (rpd (rsV s) = rpd s ++ [rsE s]) := rpd_rs hrb
        have hno1 : decide ((0 : Int) < (no : Int)) = true := by
          have h2 := HNW.out.2.1
          exact decide_eq_true (by omega)
        have hno2 : (0 : Int) < (no : Int) := of_decide_eq_true hno1
        have hno3 : 0 < no := by omega
        have hno4 : decide (0 < no) = true := decide_eq_true hno3
        have hdr : (s.E.drop s.g).map evL = evL (rsE s) :: (s.E.drop (s.g + 1)).map evL := by
          rw [List.drop_eq_getElem_cons hlt2, List.map_cons]
          unfold rsE
          rw [List.getD_eq_getElem?_getD, List.getElem?_eq_getElem hlt2]
          rfl
        rw [hdr] at hM
        rw [HRV.out] at HS1 HRD
        have HGL : Hid (((rpd s).map evL).length ≤ 100000) := by show _ ≤ _; rw [List.length_map]; have := rpd_len s; omega
        obtain ⟨go, oo, rfl⟩ := (hM.ow (52, 3, .slice ao no co, evL (rsE s) :: (s.E.drop (s.g + 1)).map evL) (by simp)).addr
        have HEV : Hid ((ivs (evL (rsE s))).length = 3 ∧ (agv (ivs (evL (rsE s)))).cells = (ivs (evL (rsE s))).toArray ∧ (evL (rsE s)).length = 3) := ⟨rfl, rfl, rfl⟩
        have HRW : Hid ((s.E.drop s.g).map evL = evL (rsE s) :: (s.E.drop (s.g + 1)).map evL) := hdr
        clear hrb hdr hlt2
        repeat' (first | (go_big_may; first | (refine v_ldR rfl rfl row_deed rfl HRG.out HDL.out ?_) | (refine v_alloc rfl zer_deed rfl ?_; intro u xd hN; replace hM := hM.new hN (by decide); clear hN) | (refine v_fill rfl rfl row_deed rfl rfl hM.at0 HDV.out HD0.out ?_; intro u hv hc; replace hM := hM.put0 hc hv; clear hv hc) | (refine v_get rfl rfl (.inl rfl) rfl hM.at0 Q0.out ?_)) | go_values | go_skip | go_guarded | go_step | go_upon | (simp only [Int.not_lt, Int.not_le] at *; go_simp))
        go_simp
        refine wp_abs (fun a0 => a0.tmps.size = 168 ∧ (∀ h, a0.tmps[12]'h = .slice (some ⟨go, oo, none⟩) no co) ∧ (∀ h, a0.tmps[13]'h = .slice ag' ng cg)) ⟨rfl, fun _ => rfl, fun _ => rfl⟩ ?_
        rintro a0 ⟨hsz, s12, s13⟩ ha0
        refine wp_region_held (S := fun _ => True) (by kernel_rfl) ?_
        have hd := hM.drew
        have HRN := (hd.ow (52, 3, .slice (some ⟨go, oo, none⟩) no co, evL (rsE s) :: (s.E.drop (s.g + 1)).map evL) (by simp)).rng
        obtain ⟨ov2, hcut, hd2⟩ := hd.cut [(23, 4, .slice aw nw cw, (s.C.drop s.E.length).map cmL)] el_event
        refine h_take (i := 0) (.slice ag' ng cg) rfl (by kernel_rfl) (by kernel_rfl) (by kernel_rfl) (fun _ _ _ h => h) rfl trivial (fun W hW => by simp [execOp, go_sem, Act.put, hsz, s12, s13]) ?_
        refine h_take (i := 1) (.slice (some ⟨go, oo, none⟩) no co) rfl (by kernel_rfl) (by kernel_rfl) (by kernel_rfl) (fun _ _ _ h => h) rfl trivial (fun W hW => by simp [execOp, go_sem, Act.put, hsz, s12, s13]) ?_
        refine h_take (i := 2) (.pointer (some ⟨go, oo, none⟩)) rfl (by kernel_rfl) (by kernel_rfl) (by kernel_rfl) (fun _ _ _ h => h) rfl trivial (fun W hW => by simp [execOp, go_sem, Act.put, hsz, s12, s13, hno2, hno3]) ?_
        refine h_take (i := 6) (.slice (some ⟨go, oo, none⟩) no co) rfl (by kernel_rfl) (by kernel_rfl) (by kernel_rfl) (fun _ _ _ h => h) rfl trivial (fun W hW => by simp [execOp, go_sem, Act.put, hsz, s12, s13]) ?_
        refine h_take (i := 7) ov2 rfl (by kernel_rfl) (by kernel_rfl) (by kernel_rfl) (fun _ _ _ h => h) rfl trivial (fun W hW => ex_cutQ rfl (by simp [go_sem, Act.put, hsz]) hcut) ?_
        refine h_value (i := 3) (agv (ivs (evL (rsE s)))) rfl (by kernel_rfl) rfl (ex_ldR rfl row_event (by simp [go_sem, Act.put, hsz]) HRN HEV.out.1) trivial ?_
        refine h_bsQ (i := 4) rfl (by kernel_rfl) rfl rfl el_event (by simp [go_sem, Act.put, hsz]) HEV.out.2.1 HEV.out.1 hd2 (fun u4 g4 hd4 hc4 => ⟨trivial, ?_⟩)
        refine h_appQ (i := 5) rfl (by kernel_rfl) rfl rfl el_event [(23, 4, .slice aw nw cw, (s.C.drop s.E.length).map cmL), (52, 3, ov2, (s.E.drop (s.g + 1)).map evL)] (by simp [go_sem, Act.put, hsz]) (by simp [go_sem, Act.put, hsz]) hd4 hc4 HEV.out.2.2 HGL.out (fun u5 gv2 hd5 => ⟨trivial, ?_⟩)
        refine h_take (i := 8) (gv2) rfl (by kernel_rfl) (by kernel_rfl) (by kernel_rfl) (fun _ _ _ h => h) rfl trivial (fun W hW => by simp [execOp, go_sem, Act.put, hsz, s12, s13]) ?_
        refine h_take (i := 9) (ov2) rfl (by kernel_rfl) (by kernel_rfl) (by kernel_rfl) (fun _ _ _ h => h) rfl trivial (fun W hW => by simp [execOp, go_sem, Act.put, hsz, s12, s13]) ?_
        refine wpAnyH_done (by kernel_rfl) ?_ _
        subst ha0
        clear hsz s12 s13 hd hd2 hd4 hM HRN hcut hc4
        have hM := hd5
        clear hd5
        go_simp
        repeat' (first | go_values | go_skip | go_guarded | go_step | go_upon | (simp only [Int.not_lt, Int.not_le] at *; go_simp))
        go_roundw
        case rel =>
          refine ⟨k + 1, by omega, by go_num, ⟨s.C, s.E, s.g + 1, s.B⟩, old, rfl, rfl, ?_, by rw [← HS1.out]; exact HIS.out, by have := HE1.out; rw [HS1.out] at this; exact this, ?_, ?_⟩
          · rw [HRD.out, List.map_append]
            exact hM.sub (.cons _ (List.Sublist.refl _))
          · have := HE2.out
            rw [HT1.out, HS1.out] at this
            exact this
          · have := HE3.out
            exact ⟨by omega, by show s.g + 1 ≤ _; omega⟩
        case measure => simp [intOf]; omega
    have f3 : (kd == 3) = false := by simpa using c3
    rw [if_neg c3] at HS
    by_cases c4 : kd = 4
    · subst c4
      have HS1 : Hid (stp p q s (4, cm, dn', ds, de) = hlS s ds de) := HS.out
      have HT1 : Hid (tld p s (4, cm, dn', ds, de) = []) := HT.out
      have HSB : Hid (∀ u, Calls Try.prog 32 #[.int .i64 ds, .int .i64 1, .int .i64 8] u fun r w' => r = .returned (.bool (slots.slB ds)) ∧ u = w') := slots.between_any _ _ _
      have HEB : Hid (∀ u, Calls Try.prog 32 #[.int .i64 de, .int .i64 1, .int .i64 31] u fun r w' => r = .returned (.bool (slots.edB de)) ∧ u = w') := slots.between_any _ _ _
      have HK : Hid (slots.chk s.B = true) := HI.out.k
      clear HS HT c1 c2 c3
      by_cases hsn : slots.slB ds = false
      · have HHB : Hid (ivs (fl (slots.hlt s.B ds de)) = ivs (fl s.B)) := by show _ = _; unfold slots.hlt; rw [if_neg (by rw [hsn]; simp)]
        rw [hsn] at HSB
        clear hsn
        obtain ⟨dz, hdz⟩ : ∃ dz, ds = dz := ⟨_, rfl⟩
        have HDZ : Hid (ds = dz) := hdz
        rw [hdz] at HSB Q6
        clear hdz
        generalize ivs (fl s.B) = F at *
        repeat' (first | (go_big_may; first | (refine v_ldR rfl rfl row_deed rfl HRG.out HDL.out ?_) | (refine v_alloc rfl zer_deed rfl ?_; intro u xd hN; replace hM := hM.new hN (by decide); clear hN) | (refine v_fill rfl rfl row_deed rfl rfl hM.at0 HDV.out HD0.out ?_; intro u hv hc; replace hM := hM.put0 hc hv; clear hv hc) | (refine v_get rfl rfl (.inl rfl) rfl hM.at0 Q0.out ?_)) | go_values | go_skip | go_guarded | go_step | go_upon | (simp only [Int.not_lt, Int.not_le] at *; go_simp))
        go_simp
        refine wp_abs (fun a0 => a0.tmps.size = 168 ∧ (∀ h, a0.tmps[18]'h = .pointer (some ⟨xd, 0, none⟩)) ∧ (∀ h, a0.tmps[10]'h = .pointer (some ⟨xb, 0, none⟩))) ⟨rfl, fun _ => rfl, fun _ => rfl⟩ ?_
        rintro a0 ⟨hsz, s18, s10⟩ ha0
        refine wp_region_held (S := fun W => W.heap[xd]? = some (bv 73 DD) ∧ W.heap[xb]? = some (bv 41 F)) (by kernel_rfl) ?_
        have hd := hM.drew
        have hS0 := And.intro hd.at0 hd.at1
        refine h_take (i := 0) (.pointer (some ⟨xd, 6, none⟩)) rfl (by kernel_rfl) (by kernel_rfl) (by kernel_rfl) (fun _ _ _ h => h) rfl hS0 (fun W hW => by simp [execOp, go_sem, Act.put, hsz, s18, s10]) ?_
        refine h_take (i := 1) (.int .i64 dz) rfl (by kernel_rfl) (by kernel_rfl) (by kernel_rfl) (fun _ _ _ h => h) rfl hS0 (fun W hW => ex_getc rfl (.inl rfl) (by simp [go_sem, Act.put, hsz, s18, s10]) (bv_cell hW.1 Q6.out)) ?_
        refine h_call (i := 2) 32 #[.int .i64 dz, .int .i64 1, .int .i64 8] rfl (by kernel_rfl) rfl (by simp [execOp, go_sem, Act.put, hsz]) ((HSB.out _).mono ?_)
        rintro r u6 ⟨rfl, rfl⟩
        refine ⟨_, rfl, hS0, ?_⟩
        refine h_take (i := 3) (.bool false) rfl (by kernel_rfl) (by kernel_rfl) (by kernel_rfl) (fun _ _ _ h => h) rfl hS0 (fun W hW => by simp [execOp, go_sem, Act.put, hsz, s18, s10]) ?_
        refine g_pass (i := 4) rfl (by kernel_rfl) (by kernel_rfl) (by kernel_rfl) (fun _ _ _ h => h) (unwanted_of 3 true 139 rfl (by kernel_rfl) (by simp [Act.put, Array.getElem?_setIfInBounds, hsz])) hS0 ?_
        refine g_pass (i := 5) rfl (by kernel_rfl) (by kernel_rfl) (by kernel_rfl) (fun _ _ _ h => h) (unwanted_of 3 true 139 rfl (by kernel_rfl) (by simp [Act.put, Array.getElem?_setIfInBounds, hsz])) hS0 ?_
        refine ring.g_none (i := 6) rfl (by kernel_rfl) (unwanted_of 3 true 139 rfl (by kernel_rfl) (by simp [Act.put, Array.getElem?_setIfInBounds, hsz])) hS0 ?_
        refine h_take (i := 7) (.bool false) rfl (by kernel_rfl) (by kernel_rfl) (by kernel_rfl) (fun _ _ _ h => h) rfl hS0 (fun W hW => by simp [execOp, go_sem, Act.put, hsz, s18, s10]) ?_
        refine h_take (i := 8) (.bool false) rfl (by kernel_rfl) (by kernel_rfl) (by kernel_rfl) (fun _ _ _ h => h) rfl hS0 (fun W hW => by simp [execOp, go_sem, Act.put, hsz, s18, s10]) ?_
        refine g_pass (i := 9) rfl (by kernel_rfl) (by kernel_rfl) (by kernel_rfl) (fun _ _ _ h => h) (unwanted_of 8 true 144 rfl (by kernel_rfl) (by simp [Act.put, Array.getElem?_setIfInBounds, hsz])) hS0 ?_
        refine g_pass (i := 10) rfl (by kernel_rfl) (by kernel_rfl) (by kernel_rfl) (fun _ _ _ h => h) (unwanted_of 8 true 144 rfl (by kernel_rfl) (by simp [Act.put, Array.getElem?_setIfInBounds, hsz])) hS0 ?_
        refine g_pass (i := 11) rfl (by kernel_rfl) (by kernel_rfl) (by kernel_rfl) (fun _ _ _ h => h) (unwanted_of 8 true 144 rfl (by kernel_rfl) (by simp [Act.put, Array.getElem?_setIfInBounds, hsz])) hS0 ?_
        refine g_pass (i := 12) rfl (by kernel_rfl) (by kernel_rfl) (by kernel_rfl) (fun _ _ _ h => h) (unwanted_of 8 true 144 rfl (by kernel_rfl) (by simp [Act.put, Array.getElem?_setIfInBounds, hsz])) hS0 ?_
        refine g_pass (i := 13) rfl (by kernel_rfl) (by kernel_rfl) (by kernel_rfl) (fun _ _ _ h => h) (unwanted_of 8 true 144 rfl (by kernel_rfl) (by simp [Act.put, Array.getElem?_setIfInBounds, hsz])) hS0 ?_
        refine g_pass (i := 14) rfl (by kernel_rfl) (by kernel_rfl) (by kernel_rfl) (fun _ _ _ h => h) (unwanted_of 8 true 144 rfl (by kernel_rfl) (by simp [Act.put, Array.getElem?_setIfInBounds, hsz])) hS0 ?_
        refine g_pass (i := 15) rfl (by kernel_rfl) (by kernel_rfl) (by kernel_rfl) (fun _ _ _ h => h) (unwanted_of 8 true 144 rfl (by kernel_rfl) (by simp [Act.put, Array.getElem?_setIfInBounds, hsz])) hS0 ?_
        refine g_pass (i := 16) rfl (by kernel_rfl) (by kernel_rfl) (by kernel_rfl) (fun _ _ _ h => h) (unwanted_of 8 true 144 rfl (by kernel_rfl) (by simp [Act.put, Array.getElem?_setIfInBounds, hsz])) hS0 ?_
        refine g_pass (i := 17) rfl (by kernel_rfl) (by kernel_rfl) (by kernel_rfl) (fun _ _ _ h => h) (unwanted_of 8 true 144 rfl (by kernel_rfl) (by simp [Act.put, Array.getElem?_setIfInBounds, hsz])) hS0 ?_
        refine g_pass (i := 18) rfl (by kernel_rfl) (by kernel_rfl) (by kernel_rfl) (fun _ _ _ h => h) (unwanted_of 8 true 144 rfl (by kernel_rfl) (by simp [Act.put, Array.getElem?_setIfInBounds, hsz])) hS0 ?_
        refine h_take (i := 19) (.bool false) rfl (by kernel_rfl) (by kernel_rfl) (by kernel_rfl) (fun _ _ _ h => h) rfl hS0 (fun W hW => by simp [execOp, go_sem, Act.put, hsz, s18, s10]) ?_
        refine wpAnyH_done (by kernel_rfl) ?_ _
        subst ha0
        clear hsz s18 s10 hS0 hM
        have hM := hd
        clear hd
        go_simp
        repeat' (first | go_values | go_skip | go_guarded | go_step | go_upon | (simp only [Int.not_lt, Int.not_le] at *; go_simp))
        go_roundw
        case rel =>
          refine ⟨k + 1, by omega, by go_num, hlS s ds de, old, rfl, rfl, ?_, by rw [← HS1.out]; exact HIS.out, by have := HE1.out; rw [HS1.out] at this; exact this, ?_, ?_⟩
          · show Mq w _ [(xb, 41, ivs (fl (slots.hlt s.B ds de))), _] _
            rw [HHB.out]
            exact hM.sub (.cons _ (List.Sublist.refl _))
          · have := HE2.out
            rw [HT1.out, HS1.out] at this
            exact this
          · have := HE3.out
            exact ⟨by omega, by show s.g ≤ _; omega⟩
        case measure => simp [intOf]; omega
      have hsn : slots.slB ds = true := by simpa using hsn
      rw [hsn] at HSB
      by_cases hee : slots.edB de = false
      · have HHB : Hid (ivs (fl (slots.hlt s.B ds de)) = ivs (fl s.B)) := by show _ = _; unfold slots.hlt; rw [if_neg (by rw [hee]; simp)]
        rw [hee] at HEB
        clear hsn hee
        obtain ⟨dz, hdz⟩ : ∃ dz, ds = dz := ⟨_, rfl⟩
        obtain ⟨dy, hdy⟩ : ∃ dy, de = dy := ⟨_, rfl⟩
        have HDZ : Hid (ds = dz ∧ de = dy) := ⟨hdz, hdy⟩
        rw [hdz] at HSB Q6
        rw [hdy] at HEB Q7
        clear hdz hdy
        generalize ivs (fl s.B) = F at *
        repeat' (first | (go_big_may; first | (refine v_ldR rfl rfl row_deed rfl HRG.out HDL.out ?_) | (refine v_alloc rfl zer_deed rfl ?_; intro u xd hN; replace hM := hM.new hN (by decide); clear hN) | (refine v_fill rfl rfl row_deed rfl rfl hM.at0 HDV.out HD0.out ?_; intro u hv hc; replace hM := hM.put0 hc hv; clear hv hc) | (refine v_get rfl rfl (.inl rfl) rfl hM.at0 Q0.out ?_)) | go_values | go_skip | go_guarded | go_step | go_upon | (simp only [Int.not_lt, Int.not_le] at *; go_simp))
        go_simp
        refine wp_abs (fun a0 => a0.tmps.size = 168 ∧ (∀ h, a0.tmps[18]'h = .pointer (some ⟨xd, 0, none⟩)) ∧ (∀ h, a0.tmps[10]'h = .pointer (some ⟨xb, 0, none⟩))) ⟨rfl, fun _ => rfl, fun _ => rfl⟩ ?_
        rintro a0 ⟨hsz, s18, s10⟩ ha0
        refine wp_region_held (S := fun W => W.heap[xd]? = some (bv 73 DD) ∧ W.heap[xb]? = some (bv 41 F)) (by kernel_rfl) ?_
        have hd := hM.drew
        have hS0 := And.intro hd.at0 hd.at1
        refine h_take (i := 0) (.pointer (some ⟨xd, 6, none⟩)) rfl (by kernel_rfl) (by kernel_rfl) (by kernel_rfl) (fun _ _ _ h => h) rfl hS0 (fun W hW => by simp [execOp, go_sem, Act.put, hsz, s18, s10]) ?_
        refine h_take (i := 1) (.int .i64 dz) rfl (by kernel_rfl) (by kernel_rfl) (by kernel_rfl) (fun _ _ _ h => h) rfl hS0 (fun W hW => ex_getc rfl (.inl rfl) (by simp [go_sem, Act.put, hsz, s18, s10]) (bv_cell hW.1 Q6.out)) ?_
        refine h_call (i := 2) 32 #[.int .i64 dz, .int .i64 1, .int .i64 8] rfl (by kernel_rfl) rfl (by simp [execOp, go_sem, Act.put, hsz]) ((HSB.out _).mono ?_)
        rintro r u6 ⟨rfl, rfl⟩
        refine ⟨_, rfl, hS0, ?_⟩
        refine h_take (i := 3) (.bool true) rfl (by kernel_rfl) (by kernel_rfl) (by kernel_rfl) (fun _ _ _ h => h) rfl hS0 (fun W hW => by simp [execOp, go_sem, Act.put, hsz, s18, s10]) ?_
        refine g_take (i := 4) (.pointer (some ⟨xd, 7, none⟩)) rfl (by kernel_rfl) (by kernel_rfl) (by kernel_rfl) (fun _ _ _ h => h) (wanted_of 3 true 139 rfl (by kernel_rfl) (by simp [Act.put, Array.getElem?_setIfInBounds, hsz])) hS0 (fun W hW => by simp [execOp, go_sem, Act.put, hsz, s18, s10]) ?_
        refine g_take (i := 5) (.int .i64 dy) rfl (by kernel_rfl) (by kernel_rfl) (by kernel_rfl) (fun _ _ _ h => h) (wanted_of 3 true 139 rfl (by kernel_rfl) (by simp [Act.put, Array.getElem?_setIfInBounds, hsz])) hS0 (fun W hW => ex_getc rfl (.inl rfl) (by simp [go_sem, Act.put, hsz, s18, s10]) (bv_cell hW.1 Q7.out)) ?_
        refine g_call (i := 6) 32 #[.int .i64 dy, .int .i64 1, .int .i64 31] rfl (by kernel_rfl) (wanted_of 3 true 139 rfl (by kernel_rfl) (by simp [Act.put, Array.getElem?_setIfInBounds, hsz])) (by simp [execOp, go_sem, Act.put, hsz]) ((HEB.out _).mono ?_)
        rintro r u7 ⟨rfl, rfl⟩
        refine ⟨_, rfl, hS0, ?_⟩
        refine h_take (i := 7) (.bool false) rfl (by kernel_rfl) (by kernel_rfl) (by kernel_rfl) (fun _ _ _ h => h) rfl hS0 (fun W hW => by simp [execOp, go_sem, Act.put, hsz, s18, s10]) ?_
        refine h_take (i := 8) (.bool false) rfl (by kernel_rfl) (by kernel_rfl) (by kernel_rfl) (fun _ _ _ h => h) rfl hS0 (fun W hW => by simp [execOp, go_sem, Act.put, hsz, s18, s10]) ?_
        refine g_pass (i := 9) rfl (by kernel_rfl) (by kernel_rfl) (by kernel_rfl) (fun _ _ _ h => h) (unwanted_of 8 true 144 rfl (by kernel_rfl) (by simp [Act.put, Array.getElem?_setIfInBounds, hsz])) hS0 ?_
        refine g_pass (i := 10) rfl (by kernel_rfl) (by kernel_rfl) (by kernel_rfl) (fun _ _ _ h => h) (unwanted_of 8 true 144 rfl (by kernel_rfl) (by simp [Act.put, Array.getElem?_setIfInBounds, hsz])) hS0 ?_
        refine g_pass (i := 11) rfl (by kernel_rfl) (by kernel_rfl) (by kernel_rfl) (fun _ _ _ h => h) (unwanted_of 8 true 144 rfl (by kernel_rfl) (by simp [Act.put, Array.getElem?_setIfInBounds, hsz])) hS0 ?_
        refine g_pass (i := 12) rfl (by kernel_rfl) (by kernel_rfl) (by kernel_rfl) (fun _ _ _ h => h) (unwanted_of 8 true 144 rfl (by kernel_rfl) (by simp [Act.put, Array.getElem?_setIfInBounds, hsz])) hS0 ?_
        refine g_pass (i := 13) rfl (by kernel_rfl) (by kernel_rfl) (by kernel_rfl) (fun _ _ _ h => h) (unwanted_of 8 true 144 rfl (by kernel_rfl) (by simp [Act.put, Array.getElem?_setIfInBounds, hsz])) hS0 ?_
        refine g_pass (i := 14) rfl (by kernel_rfl) (by kernel_rfl) (by kernel_rfl) (fun _ _ _ h => h) (unwanted_of 8 true 144 rfl (by kernel_rfl) (by simp [Act.put, Array.getElem?_setIfInBounds, hsz])) hS0 ?_
        refine g_pass (i := 15) rfl (by kernel_rfl) (by kernel_rfl) (by kernel_rfl) (fun _ _ _ h => h) (unwanted_of 8 true 144 rfl (by kernel_rfl) (by simp [Act.put, Array.getElem?_setIfInBounds, hsz])) hS0 ?_
        refine g_pass (i := 16) rfl (by kernel_rfl) (by kernel_rfl) (by kernel_rfl) (fun _ _ _ h => h) (unwanted_of 8 true 144 rfl (by kernel_rfl) (by simp [Act.put, Array.getElem?_setIfInBounds, hsz])) hS0 ?_
        refine g_pass (i := 17) rfl (by kernel_rfl) (by kernel_rfl) (by kernel_rfl) (fun _ _ _ h => h) (unwanted_of 8 true 144 rfl (by kernel_rfl) (by simp [Act.put, Array.getElem?_setIfInBounds, hsz])) hS0 ?_
        refine g_pass (i := 18) rfl (by kernel_rfl) (by kernel_rfl) (by kernel_rfl) (fun _ _ _ h => h) (unwanted_of 8 true 144 rfl (by kernel_rfl) (by simp [Act.put, Array.getElem?_setIfInBounds, hsz])) hS0 ?_
        refine h_take (i := 19) (.bool false) rfl (by kernel_rfl) (by kernel_rfl) (by kernel_rfl) (fun _ _ _ h => h) rfl hS0 (fun W hW => by simp [execOp, go_sem, Act.put, hsz, s18, s10]) ?_
        refine wpAnyH_done (by kernel_rfl) ?_ _
        subst ha0
        clear hsz s18 s10 hS0 hM
        have hM := hd
        clear hd
        go_simp
        repeat' (first | go_values | go_skip | go_guarded | go_step | go_upon | (simp only [Int.not_lt, Int.not_le] at *; go_simp))
        go_roundw
        case rel =>
          refine ⟨k + 1, by omega, by go_num, hlS s ds de, old, rfl, rfl, ?_, by rw [← HS1.out]; exact HIS.out, by have := HE1.out; rw [HS1.out] at this; exact this, ?_, ?_⟩
          · show Mq w _ [(xb, 41, ivs (fl (slots.hlt s.B ds de))), _] _
            rw [HHB.out]
            exact hM.sub (.cons _ (List.Sublist.refl _))
          · have := HE2.out
            rw [HT1.out, HS1.out] at this
            exact this
          · have := HE3.out
            exact ⟨by omega, by show s.g ≤ _; omega⟩
        case measure => simp [intOf]; omega
      have hee : slots.edB de = true := by simpa using hee
      rw [hee] at HEB
      obtain ⟨m, hm1, hm2, hdm⟩ : ∃ m : Nat, 1 ≤ m ∧ m ≤ 8 ∧ ds = m := ⟨ds.toNat, (slots.sl_in hsn).1, (slots.sl_in hsn).2.1, (slots.sl_in hsn).2.2.symm⟩
      obtain ⟨j, hj1, hj2, hdj⟩ : ∃ j : Nat, 1 ≤ j ∧ j ≤ 31 ∧ de = j := ⟨de.toNat, (slots.ed_in hee).1, (slots.ed_in hee).2.1, (slots.ed_in hee).2.2.symm⟩
      have htm : ds.toNat = m := by omega
      have htj : de.toNat = j := by omega
      have hm3 : m < 9 := by omega
      have hm4 : (m : Int) < 9 := by omega
      have hj3 : j < 32 := by omega
      have hj4 : (j : Int) < 32 := by omega
      obtain ⟨cx, hcx⟩ : ∃ cx, slots.cl (slots.sl s.B m) (2 + j) = cx := ⟨_, rfl⟩
      have HG : Hid ((ivs (fl s.B))[m * 66 + 2 + j]? = some (.int .i64 cx)) := by
        show _ = _
        unfold ivs
        rw [List.getElem?_map, Nat.add_assoc, slots.fl_at HI.out.w (by omega) (by omega), hcx]
        rfl
      have HJ : Hid (m * 66 + 2 + j < (ivs (fl s.B)).length) := by show _ < _; rw [(ivs_vs HI.out.w.length).len]; omega
      by_cases h1 : cx = 1
      · have HHB : Hid (ivs (fl (slots.hlt s.B ds de)) = ivs (fl (s.B.set m ((slots.sl s.B m).set (2 + j) 2)))) := by
          show _ = _
          unfold slots.hlt slots.en
          rw [htm, htj, hcx, if_pos ⟨HK.out, hsn, hee, h1⟩]
        have HF : Hid ((ivs (fl s.B)).set (m * 66 + 2 + j) (.int .i64 2) = ivs (fl (s.B.set m ((slots.sl s.B m).set (2 + j) 2)))) := by
          show _ = _
          rw [Nat.add_assoc, ← slots.fl_set HI.out.w (by omega) (by omega)]
          unfold ivs
          rw [List.map_set]
        have e1 : (cx == 1) = true := by simpa using h1
        clear hsn hee htm htj hcx h1
        obtain ⟨dz, hdz⟩ : ∃ dz, ((m : Nat) : Int) = dz := ⟨_, rfl⟩
        rw [hdm] at HSB Q6
        rw [hdj] at HEB Q7
        have HDZ : Hid (ds = m ∧ de = j) := ⟨hdm, hdj⟩
        clear hdm hdj hdz
        generalize ivs (fl (s.B.set m ((slots.sl s.B m).set (2 + j) 2))) = F2 at *
        generalize ivs (fl s.B) = F at *
        repeat' (first | (go_big_may; first | (refine v_ldR rfl rfl row_deed rfl HRG.out HDL.out ?_) | (refine v_alloc rfl zer_deed rfl ?_; intro u xd hN; replace hM := hM.new hN (by decide); clear hN) | (refine v_fill rfl rfl row_deed rfl rfl hM.at0 HDV.out HD0.out ?_; intro u hv hc; replace hM := hM.put0 hc hv; clear hv hc) | (refine v_get rfl rfl (.inl rfl) rfl hM.at0 Q0.out ?_)) | go_values | go_skip | go_guarded | go_step | go_upon | (simp only [Int.not_lt, Int.not_le] at *; go_simp))
        go_simp
        refine wp_abs (fun a0 => a0.tmps.size = 168 ∧ (∀ h, a0.tmps[18]'h = .pointer (some ⟨xd, 0, none⟩)) ∧ (∀ h, a0.tmps[10]'h = .pointer (some ⟨xb, 0, none⟩))) ⟨rfl, fun _ => rfl, fun _ => rfl⟩ ?_
        rintro a0 ⟨hsz, s18, s10⟩ ha0
        refine wp_region_held (S := fun W => W.heap[xd]? = some (bv 73 DD) ∧ W.heap[xb]? = some (bv 41 F)) (by kernel_rfl) ?_
        have hd := hM.drew
        have hS0 := And.intro hd.at0 hd.at1
        refine h_take (i := 0) (.pointer (some ⟨xd, 6, none⟩)) rfl (by kernel_rfl) (by kernel_rfl) (by kernel_rfl) (fun _ _ _ h => h) rfl hS0 (fun W hW => by simp [execOp, go_sem, Act.put, hsz, s18, s10]) ?_
        refine h_take (i := 1) (.int .i64 (m : Int)) rfl (by kernel_rfl) (by kernel_rfl) (by kernel_rfl) (fun _ _ _ h => h) rfl hS0 (fun W hW => ex_getc rfl (.inl rfl) (by simp [go_sem, Act.put, hsz, s18, s10]) (bv_cell hW.1 Q6.out)) ?_
        refine h_call (i := 2) 32 #[.int .i64 (m : Int), .int .i64 1, .int .i64 8] rfl (by kernel_rfl) rfl (by simp [execOp, go_sem, Act.put, hsz]) ((HSB.out _).mono ?_)
        rintro r u6 ⟨rfl, rfl⟩
        refine ⟨_, rfl, hS0, ?_⟩
        refine h_take (i := 3) (.bool true) rfl (by kernel_rfl) (by kernel_rfl) (by kernel_rfl) (fun _ _ _ h => h) rfl hS0 (fun W hW => by simp [execOp, go_sem, Act.put, hsz, s18, s10]) ?_
        refine g_take (i := 4) (.pointer (some ⟨xd, 7, none⟩)) rfl (by kernel_rfl) (by kernel_rfl) (by kernel_rfl) (fun _ _ _ h => h) (wanted_of 3 true 139 rfl (by kernel_rfl) (by simp [Act.put, Array.getElem?_setIfInBounds, hsz])) hS0 (fun W hW => by simp [execOp, go_sem, Act.put, hsz, s18, s10]) ?_
        refine g_take (i := 5) (.int .i64 (j : Int)) rfl (by kernel_rfl) (by kernel_rfl) (by kernel_rfl) (fun _ _ _ h => h) (wanted_of 3 true 139 rfl (by kernel_rfl) (by simp [Act.put, Array.getElem?_setIfInBounds, hsz])) hS0 (fun W hW => ex_getc rfl (.inl rfl) (by simp [go_sem, Act.put, hsz, s18, s10]) (bv_cell hW.1 Q7.out)) ?_
        refine g_call (i := 6) 32 #[.int .i64 (j : Int), .int .i64 1, .int .i64 31] rfl (by kernel_rfl) (wanted_of 3 true 139 rfl (by kernel_rfl) (by simp [Act.put, Array.getElem?_setIfInBounds, hsz])) (by simp [execOp, go_sem, Act.put, hsz]) ((HEB.out _).mono ?_)
        rintro r u7 ⟨rfl, rfl⟩
        refine ⟨_, rfl, hS0, ?_⟩
        refine h_take (i := 7) (.bool true) rfl (by kernel_rfl) (by kernel_rfl) (by kernel_rfl) (fun _ _ _ h => h) rfl hS0 (fun W hW => by simp [execOp, go_sem, Act.put, hsz, s18, s10]) ?_
        refine h_take (i := 8) (.bool true) rfl (by kernel_rfl) (by kernel_rfl) (by kernel_rfl) (fun _ _ _ h => h) rfl hS0 (fun W hW => by simp [execOp, go_sem, Act.put, hsz, s18, s10]) ?_
        refine g_take (i := 9) (.pointer (some ⟨xd, 6, none⟩)) rfl (by kernel_rfl) (by kernel_rfl) (by kernel_rfl) (fun _ _ _ h => h) (wanted_of 8 true 144 rfl (by kernel_rfl) (by simp [Act.put, Array.getElem?_setIfInBounds, hsz])) hS0 (fun W hW => by simp [execOp, go_sem, Act.put, hsz, s18, s10]) ?_
        refine g_take (i := 10) (.int .i64 (m : Int)) rfl (by kernel_rfl) (by kernel_rfl) (by kernel_rfl) (fun _ _ _ h => h) (wanted_of 8 true 144 rfl (by kernel_rfl) (by simp [Act.put, Array.getElem?_setIfInBounds, hsz])) hS0 (fun W hW => ex_getc rfl (.inl rfl) (by simp [go_sem, Act.put, hsz, s18, s10]) (bv_cell hW.1 Q6.out)) ?_
        refine g_take (i := 11) (.pointer (some ⟨xd, 7, none⟩)) rfl (by kernel_rfl) (by kernel_rfl) (by kernel_rfl) (fun _ _ _ h => h) (wanted_of 8 true 144 rfl (by kernel_rfl) (by simp [Act.put, Array.getElem?_setIfInBounds, hsz])) hS0 (fun W hW => by simp [execOp, go_sem, Act.put, hsz, s18, s10]) ?_
        refine g_take (i := 12) (.int .i64 (j : Int)) rfl (by kernel_rfl) (by kernel_rfl) (by kernel_rfl) (fun _ _ _ h => h) (wanted_of 8 true 144 rfl (by kernel_rfl) (by simp [Act.put, Array.getElem?_setIfInBounds, hsz])) hS0 (fun W hW => ex_getc rfl (.inl rfl) (by simp [go_sem, Act.put, hsz, s18, s10]) (bv_cell hW.1 Q7.out)) ?_
        refine g_take (i := 13) (.pointer (some ⟨xb, 0, none⟩)) rfl (by kernel_rfl) (by kernel_rfl) (by kernel_rfl) (fun _ _ _ h => h) (wanted_of 8 true 144 rfl (by kernel_rfl) (by simp [Act.put, Array.getElem?_setIfInBounds, hsz])) hS0 (fun W hW => by simp [execOp, go_sem, Act.put, hsz, s18, s10]) ?_
        refine g_take (i := 14) (.pointer (some ⟨xb, m * 66, none⟩)) rfl (by kernel_rfl) (by kernel_rfl) (by kernel_rfl) (fun _ _ _ h => h) (wanted_of 8 true 144 rfl (by kernel_rfl) (by simp [Act.put, Array.getElem?_setIfInBounds, hsz])) hS0 (fun W hW => by simp [execOp, go_sem, Act.put, hsz, s18, s10, hm3, hm4]) ?_
        refine g_take (i := 15) (.pointer (some ⟨xb, m * 66 + 2, none⟩)) rfl (by kernel_rfl) (by kernel_rfl) (by kernel_rfl) (fun _ _ _ h => h) (wanted_of 8 true 144 rfl (by kernel_rfl) (by simp [Act.put, Array.getElem?_setIfInBounds, hsz])) hS0 (fun W hW => by simp [execOp, go_sem, Act.put, hsz, s18, s10]) ?_
        refine g_take (i := 16) (.pointer (some ⟨xb, m * 66 + 2 + j, none⟩)) rfl (by kernel_rfl) (by kernel_rfl) (by kernel_rfl) (fun _ _ _ h => h) (wanted_of 8 true 144 rfl (by kernel_rfl) (by simp [Act.put, Array.getElem?_setIfInBounds, hsz])) hS0 (fun W hW => by simp [execOp, go_sem, Act.put, hsz, s18, s10, hj3, hj4]) ?_
        refine g_take (i := 17) (.int .i64 cx) rfl (by kernel_rfl) (by kernel_rfl) (by kernel_rfl) (fun _ _ _ h => h) (wanted_of 8 true 144 rfl (by kernel_rfl) (by simp [Act.put, Array.getElem?_setIfInBounds, hsz])) hS0 (fun W hW => ex_getc rfl (.inl rfl) (by simp [go_sem, Act.put, hsz, s18, s10]) (bv_cell hW.2 HG.out)) ?_
        refine g_take (i := 18) (.bool true) rfl (by kernel_rfl) (by kernel_rfl) (by kernel_rfl) (fun _ _ _ h => h) (wanted_of 8 true 144 rfl (by kernel_rfl) (by simp [Act.put, Array.getElem?_setIfInBounds, hsz])) hS0 (fun W hW => by simp [execOp, go_sem, Act.put, hsz, s18, s10, e1]) ?_
        refine h_take (i := 19) (.bool true) rfl (by kernel_rfl) (by kernel_rfl) (by kernel_rfl) (fun _ _ _ h => h) rfl hS0 (fun W hW => by simp [execOp, go_sem, Act.put, hsz, s18, s10]) ?_
        refine wpAnyH_done (by kernel_rfl) ?_ _
        subst ha0
        clear hsz s18 s10 hS0 hM
        have hM := hd
        clear hd
        go_simp
        repeat' (first | go_values | go_skip | go_guarded | go_step | go_upon | (simp only [Int.not_lt, Int.not_le] at *; go_simp))
        go_simp
        refine wp_abs (fun a0 => a0.tmps.size = 168 ∧ (∀ h, a0.tmps[18]'h = .pointer (some ⟨xd, 0, none⟩)) ∧ (∀ h, a0.tmps[10]'h = .pointer (some ⟨xb, 0, none⟩))) ⟨rfl, fun _ => rfl, fun _ => rfl⟩ ?_
        rintro a0 ⟨hsz, s18, s10⟩ ha0
        refine wp_region_held (S := fun W => W.heap[xd]? = some (bv 73 DD)) (by kernel_rfl) ?_
        have hd := hM.drew
        have hS0 := hd.at0
        refine h_take (i := 0) (.pointer (some ⟨xd, 6, none⟩)) rfl (by kernel_rfl) (by kernel_rfl) (by kernel_rfl) (fun _ _ _ h => h) rfl hS0 (fun W hW => by simp [execOp, go_sem, Act.put, hsz, s18, s10]) ?_
        refine h_take (i := 1) (.int .i64 (m : Int)) rfl (by kernel_rfl) (by kernel_rfl) (by kernel_rfl) (fun _ _ _ h => h) rfl hS0 (fun W hW => ex_getc rfl (.inl rfl) (by simp [go_sem, Act.put, hsz, s18, s10]) (bv_cell hW Q6.out)) ?_
        refine h_take (i := 2) (.pointer (some ⟨xd, 7, none⟩)) rfl (by kernel_rfl) (by kernel_rfl) (by kernel_rfl) (fun _ _ _ h => h) rfl hS0 (fun W hW => by simp [execOp, go_sem, Act.put, hsz, s18, s10]) ?_
        refine h_take (i := 3) (.int .i64 (j : Int)) rfl (by kernel_rfl) (by kernel_rfl) (by kernel_rfl) (fun _ _ _ h => h) rfl hS0 (fun W hW => ex_getc rfl (.inl rfl) (by simp [go_sem, Act.put, hsz, s18, s10]) (bv_cell hW Q7.out)) ?_
        refine h_take (i := 4) (.pointer (some ⟨xb, 0, none⟩)) rfl (by kernel_rfl) (by kernel_rfl) (by kernel_rfl) (fun _ _ _ h => h) rfl hS0 (fun W hW => by simp [execOp, go_sem, Act.put, hsz, s18, s10]) ?_
        refine h_take (i := 5) (.pointer (some ⟨xb, m * 66, none⟩)) rfl (by kernel_rfl) (by kernel_rfl) (by kernel_rfl) (fun _ _ _ h => h) rfl hS0 (fun W hW => by simp [execOp, go_sem, Act.put, hsz, s18, s10, hm3, hm4]) ?_
        refine h_take (i := 6) (.pointer (some ⟨xb, m * 66 + 2, none⟩)) rfl (by kernel_rfl) (by kernel_rfl) (by kernel_rfl) (fun _ _ _ h => h) rfl hS0 (fun W hW => by simp [execOp, go_sem, Act.put, hsz, s18, s10]) ?_
        refine h_take (i := 7) (.pointer (some ⟨xb, m * 66 + 2 + j, none⟩)) rfl (by kernel_rfl) (by kernel_rfl) (by kernel_rfl) (fun _ _ _ h => h) rfl hS0 (fun W hW => by simp [execOp, go_sem, Act.put, hsz, s18, s10, hj3, hj4]) ?_
        refine h_puti (i := 8) (v := 2) rfl (by kernel_rfl) rfl rfl (by simp [go_sem, Act.put, hsz, s18, s10]) (by simp [go_sem, Act.put, hsz]) hd.at1 HJ.out (fun u8 hl8 hc8 => ?_)
        have hd2 := hd.put1 hc8 hl8
        clear hl8 hc8
        refine ⟨hd2.at0, ?_⟩
        refine wpAnyH_done (by kernel_rfl) ?_ _
        subst ha0
        clear hsz s18 s10 hS0 hM hd
        have hM := hd2
        clear hd2
        rw [HF.out] at hM
        go_simp
        repeat' (first | go_values | go_skip | go_guarded | go_step | go_upon | (simp only [Int.not_lt, Int.not_le] at *; go_simp))
        go_roundw
        case rel =>
          refine ⟨k + 1, by omega, by go_num, hlS s ds de, old, rfl, rfl, ?_, by rw [← HS1.out]; exact HIS.out, by have := HE1.out; rw [HS1.out] at this; exact this, ?_, ?_⟩
          · show Mq w _ [(xb, 41, ivs (fl (slots.hlt s.B ds de))), _] _
            rw [HHB.out]
            exact hM.sub (.cons _ (List.Sublist.refl _))
          · have := HE2.out
            rw [HT1.out, HS1.out] at this
            exact this
          · have := HE3.out
            exact ⟨by omega, by show s.g ≤ _; omega⟩
        case measure => simp [intOf]; omega
      · have HHB : Hid (ivs (fl (slots.hlt s.B ds de)) = ivs (fl s.B)) := by
          show _ = _
          unfold slots.hlt slots.en
          rw [htm, htj, hcx, if_neg (fun h => h1 h.2.2.2)]
        have e1 : (cx == 1) = false := by simpa using h1
        clear hsn hee htm htj hcx h1
        rw [hdm] at HSB Q6
        rw [hdj] at HEB Q7
        have HDZ : Hid (ds = m ∧ de = j) := ⟨hdm, hdj⟩
        clear hdm hdj
        generalize ivs (fl s.B) = F at *
        repeat' (first | (go_big_may; first | (refine v_ldR rfl rfl row_deed rfl HRG.out HDL.out ?_) | (refine v_alloc rfl zer_deed rfl ?_; intro u xd hN; replace hM := hM.new hN (by decide); clear hN) | (refine v_fill rfl rfl row_deed rfl rfl hM.at0 HDV.out HD0.out ?_; intro u hv hc; replace hM := hM.put0 hc hv; clear hv hc) | (refine v_get rfl rfl (.inl rfl) rfl hM.at0 Q0.out ?_)) | go_values | go_skip | go_guarded | go_step | go_upon | (simp only [Int.not_lt, Int.not_le] at *; go_simp))
        go_simp
        refine wp_abs (fun a0 => a0.tmps.size = 168 ∧ (∀ h, a0.tmps[18]'h = .pointer (some ⟨xd, 0, none⟩)) ∧ (∀ h, a0.tmps[10]'h = .pointer (some ⟨xb, 0, none⟩))) ⟨rfl, fun _ => rfl, fun _ => rfl⟩ ?_
        rintro a0 ⟨hsz, s18, s10⟩ ha0
        refine wp_region_held (S := fun W => W.heap[xd]? = some (bv 73 DD) ∧ W.heap[xb]? = some (bv 41 F)) (by kernel_rfl) ?_
        have hd := hM.drew
        have hS0 := And.intro hd.at0 hd.at1
        refine h_take (i := 0) (.pointer (some ⟨xd, 6, none⟩)) rfl (by kernel_rfl) (by kernel_rfl) (by kernel_rfl) (fun _ _ _ h => h) rfl hS0 (fun W hW => by simp [execOp, go_sem, Act.put, hsz, s18, s10]) ?_
        refine h_take (i := 1) (.int .i64 (m : Int)) rfl (by kernel_rfl) (by kernel_rfl) (by kernel_rfl) (fun _ _ _ h => h) rfl hS0 (fun W hW => ex_getc rfl (.inl rfl) (by simp [go_sem, Act.put, hsz, s18, s10]) (bv_cell hW.1 Q6.out)) ?_
        refine h_call (i := 2) 32 #[.int .i64 (m : Int), .int .i64 1, .int .i64 8] rfl (by kernel_rfl) rfl (by simp [execOp, go_sem, Act.put, hsz]) ((HSB.out _).mono ?_)
        rintro r u6 ⟨rfl, rfl⟩
        refine ⟨_, rfl, hS0, ?_⟩
        refine h_take (i := 3) (.bool true) rfl (by kernel_rfl) (by kernel_rfl) (by kernel_rfl) (fun _ _ _ h => h) rfl hS0 (fun W hW => by simp [execOp, go_sem, Act.put, hsz, s18, s10]) ?_
        refine g_take (i := 4) (.pointer (some ⟨xd, 7, none⟩)) rfl (by kernel_rfl) (by kernel_rfl) (by kernel_rfl) (fun _ _ _ h => h) (wanted_of 3 true 139 rfl (by kernel_rfl) (by simp [Act.put, Array.getElem?_setIfInBounds, hsz])) hS0 (fun W hW => by simp [execOp, go_sem, Act.put, hsz, s18, s10]) ?_
        refine g_take (i := 5) (.int .i64 (j : Int)) rfl (by kernel_rfl) (by kernel_rfl) (by kernel_rfl) (fun _ _ _ h => h) (wanted_of 3 true 139 rfl (by kernel_rfl) (by simp [Act.put, Array.getElem?_setIfInBounds, hsz])) hS0 (fun W hW => ex_getc rfl (.inl rfl) (by simp [go_sem, Act.put, hsz, s18, s10]) (bv_cell hW.1 Q7.out)) ?_
        refine g_call (i := 6) 32 #[.int .i64 (j : Int), .int .i64 1, .int .i64 31] rfl (by kernel_rfl) (wanted_of 3 true 139 rfl (by kernel_rfl) (by simp [Act.put, Array.getElem?_setIfInBounds, hsz])) (by simp [execOp, go_sem, Act.put, hsz]) ((HEB.out _).mono ?_)
        rintro r u7 ⟨rfl, rfl⟩
        refine ⟨_, rfl, hS0, ?_⟩
        refine h_take (i := 7) (.bool true) rfl (by kernel_rfl) (by kernel_rfl) (by kernel_rfl) (fun _ _ _ h => h) rfl hS0 (fun W hW => by simp [execOp, go_sem, Act.put, hsz, s18, s10]) ?_
        refine h_take (i := 8) (.bool true) rfl (by kernel_rfl) (by kernel_rfl) (by kernel_rfl) (fun _ _ _ h => h) rfl hS0 (fun W hW => by simp [execOp, go_sem, Act.put, hsz, s18, s10]) ?_
        refine g_take (i := 9) (.pointer (some ⟨xd, 6, none⟩)) rfl (by kernel_rfl) (by kernel_rfl) (by kernel_rfl) (fun _ _ _ h => h) (wanted_of 8 true 144 rfl (by kernel_rfl) (by simp [Act.put, Array.getElem?_setIfInBounds, hsz])) hS0 (fun W hW => by simp [execOp, go_sem, Act.put, hsz, s18, s10]) ?_
        refine g_take (i := 10) (.int .i64 (m : Int)) rfl (by kernel_rfl) (by kernel_rfl) (by kernel_rfl) (fun _ _ _ h => h) (wanted_of 8 true 144 rfl (by kernel_rfl) (by simp [Act.put, Array.getElem?_setIfInBounds, hsz])) hS0 (fun W hW => ex_getc rfl (.inl rfl) (by simp [go_sem, Act.put, hsz, s18, s10]) (bv_cell hW.1 Q6.out)) ?_
        refine g_take (i := 11) (.pointer (some ⟨xd, 7, none⟩)) rfl (by kernel_rfl) (by kernel_rfl) (by kernel_rfl) (fun _ _ _ h => h) (wanted_of 8 true 144 rfl (by kernel_rfl) (by simp [Act.put, Array.getElem?_setIfInBounds, hsz])) hS0 (fun W hW => by simp [execOp, go_sem, Act.put, hsz, s18, s10]) ?_
        refine g_take (i := 12) (.int .i64 (j : Int)) rfl (by kernel_rfl) (by kernel_rfl) (by kernel_rfl) (fun _ _ _ h => h) (wanted_of 8 true 144 rfl (by kernel_rfl) (by simp [Act.put, Array.getElem?_setIfInBounds, hsz])) hS0 (fun W hW => ex_getc rfl (.inl rfl) (by simp [go_sem, Act.put, hsz, s18, s10]) (bv_cell hW.1 Q7.out)) ?_
        refine g_take (i := 13) (.pointer (some ⟨xb, 0, none⟩)) rfl (by kernel_rfl) (by kernel_rfl) (by kernel_rfl) (fun _ _ _ h => h) (wanted_of 8 true 144 rfl (by kernel_rfl) (by simp [Act.put, Array.getElem?_setIfInBounds, hsz])) hS0 (fun W hW => by simp [execOp, go_sem, Act.put, hsz, s18, s10]) ?_
        refine g_take (i := 14) (.pointer (some ⟨xb, m * 66, none⟩)) rfl (by kernel_rfl) (by kernel_rfl) (by kernel_rfl) (fun _ _ _ h => h) (wanted_of 8 true 144 rfl (by kernel_rfl) (by simp [Act.put, Array.getElem?_setIfInBounds, hsz])) hS0 (fun W hW => by simp [execOp, go_sem, Act.put, hsz, s18, s10, hm3, hm4]) ?_
        refine g_take (i := 15) (.pointer (some ⟨xb, m * 66 + 2, none⟩)) rfl (by kernel_rfl) (by kernel_rfl) (by kernel_rfl) (fun _ _ _ h => h) (wanted_of 8 true 144 rfl (by kernel_rfl) (by simp [Act.put, Array.getElem?_setIfInBounds, hsz])) hS0 (fun W hW => by simp [execOp, go_sem, Act.put, hsz, s18, s10]) ?_
        refine g_take (i := 16) (.pointer (some ⟨xb, m * 66 + 2 + j, none⟩)) rfl (by kernel_rfl) (by kernel_rfl) (by kernel_rfl) (fun _ _ _ h => h) (wanted_of 8 true 144 rfl (by kernel_rfl) (by simp [Act.put, Array.getElem?_setIfInBounds, hsz])) hS0 (fun W hW => by simp [execOp, go_sem, Act.put, hsz, s18, s10, hj3, hj4]) ?_
        refine g_take (i := 17) (.int .i64 cx) rfl (by kernel_rfl) (by kernel_rfl) (by kernel_rfl) (fun _ _ _ h => h) (wanted_of 8 true 144 rfl (by kernel_rfl) (by simp [Act.put, Array.getElem?_setIfInBounds, hsz])) hS0 (fun W hW => ex_getc rfl (.inl rfl) (by simp [go_sem, Act.put, hsz, s18, s10]) (bv_cell hW.2 HG.out)) ?_
        refine g_take (i := 18) (.bool false) rfl (by kernel_rfl) (by kernel_rfl) (by kernel_rfl) (fun _ _ _ h => h) (wanted_of 8 true 144 rfl (by kernel_rfl) (by simp [Act.put, Array.getElem?_setIfInBounds, hsz])) hS0 (fun W hW => by simp [execOp, go_sem, Act.put, hsz, s18, s10, e1]) ?_
        refine h_take (i := 19) (.bool false) rfl (by kernel_rfl) (by kernel_rfl) (by kernel_rfl) (fun _ _ _ h => h) rfl hS0 (fun W hW => by simp [execOp, go_sem, Act.put, hsz, s18, s10]) ?_
        refine wpAnyH_done (by kernel_rfl) ?_ _
        subst ha0
        clear hsz s18 s10 hS0 hM
        have hM := hd
        clear hd
        go_simp
        repeat' (first | go_values | go_skip | go_guarded | go_step | go_upon | (simp only [Int.not_lt, Int.not_le] at *; go_simp))
        go_roundw
        case rel =>
          refine ⟨k + 1, by omega, by go_num, hlS s ds de, old, rfl, rfl, ?_, by rw [← HS1.out]; exact HIS.out, by have := HE1.out; rw [HS1.out] at this; exact this, ?_, ?_⟩
          · show Mq w _ [(xb, 41, ivs (fl (slots.hlt s.B ds de))), _] _
            rw [HHB.out]
            exact hM.sub (.cons _ (List.Sublist.refl _))
          · have := HE2.out
            rw [HT1.out, HS1.out] at this
            exact this
          · have := HE3.out
            exact ⟨by omega, by show s.g ≤ _; omega⟩
        case measure => simp [intOf]; omega
    have f4 : (kd == 4) = false := by simpa using c4
    rw [if_neg c4] at HS
    have HS1 : Hid (stp p q s (kd, cm, dn', ds, de) = s) := HS.out
    have HT1 : Hid (tld p s (kd, cm, dn', ds, de) = []) := HT.out
    clear HS HT c1 c2 c3 c4
    repeat' (first | (go_big_may; first | (refine v_ldR rfl rfl row_deed rfl HRG.out HDL.out ?_) | (refine v_alloc rfl zer_deed rfl ?_; intro u xd hN; replace hM := hM.new hN (by decide); clear hN) | (refine v_fill rfl rfl row_deed rfl rfl hM.at0 HDV.out HD0.out ?_; intro u hv hc; replace hM := hM.put0 hc hv; clear hv hc) | (refine v_get rfl rfl (.inl rfl) rfl hM.at0 Q0.out ?_)) | go_values | go_skip | go_guarded | go_step | go_upon | (simp only [Int.not_lt, Int.not_le] at *; go_simp))
    go_roundw
    case rel =>
      refine ⟨k + 1, by omega, by go_num, s, old, rfl, rfl, hM.sub (.cons _ (List.Sublist.refl _)), HI.out, by have := HE1.out; rw [HS1.out] at this; exact this, ?_, ?_⟩
      · have := HE2.out
        rw [HT1.out, HS1.out] at this
        exact this
      · have := HE3.out
        omega
    case measure => simp [intOf]; omega
end Go.Proofs.Ythjmcopknkemnaa.host
