/- host, the document's answer: what Submitted, Worked and Reaped answer. -/
import Derived.Test.YthjmcopknkemnaaZPe
import Derived.Test.YthjmcopknkemnaaHstH
import Derived.Test.YthjmcopknkemnaaZPa
import Derived.Test.YthjmcopknkemnaaZPd
namespace Go.Proofs.Ythjmcopknkemnaa.host
open Go Go.RowKit
open Go.Proofs.Ythjmcopknkemnaa
open Go.Proofs.Ythjmcopknkemnaa.slots (Row row_board row_cmd Chg ag fl Wf bsq)
open Go.Proofs.Ythjmcopknkemnaa.ring (Ces Rcs rgV rgW Rg Ce ceV named keep below_drewN wp_abs h_take h_call h_value h_skip g_take g_pass wanted_of unwanted_of)
set_option linter.unusedVariables false
set_option linter.unusedSimpArgs false
set_option maxRecDepth 100000

/-- a cell's number is read -/
theorem v_getC {ops : Array Oper} {rest : List Oper} {o : Oper} {a : Act} {w : World} {Q : Exit → Act → World → Prop} (hgd : Region.wanted o (yielded ops a.tmps) = true) {t : TypeId} {x : Operand} (ho : o.op = .load t x) (ht : t = 3 ∨ t = 24)
    {B j : Nat} {v : Value} (hx : a.eval x = .pointer (some ⟨B, j, none⟩)) (hc : w.cell? ⟨B, j, none⟩ = some v)
    (h : wpList Try.prog ops Q rest (a.put o.dst v) w) : wpList Try.prog ops Q (o :: rest) a w := by
  refine wpList_step fun K hK' => ?_
  rw [if_pos hgd]
  have hs : (Instr.loadAt t (.pointer (some ⟨B, j, none⟩))).run Try.prog w = .ok v w := by
    rcases ht with rfl | rfl <;> simp [go_sem, hc]
  unfold Oper.wp execOp
  simp only [ho, hx, Sem.run_bind, hs, Result.andThen_ok, Sem.run_pure]
  exact hK' _ _ h
theorem ex_getc {o : Oper} {a : Act} {W : World} {t : TypeId} {x : Operand} (ho : o.op = .load t x) (ht : t = 3 ∨ t = 31) {B j : Nat} {v : Value} (hx : a.eval x = .pointer (some ⟨B, j, none⟩)) (hc : W.cell? ⟨B, j, none⟩ = some v) :
    (execOp a.eval o).run Try.prog W = .ok (.value v) W := by
  have hs : (Instr.loadAt t (.pointer (some ⟨B, j, none⟩))).run Try.prog W = .ok v W := by
    rcases ht with rfl | rfl <;> simp [go_sem, hc]
  unfold execOp
  simp only [ho, hx, Sem.run_bind, hs, Result.andThen_ok, Sem.run_pure]
abbrev mk2 (a b : Int) : List Value := ivs [a, b]
theorem mk2_vs (a b : Int) : Vs (mk2 a b) 2 := ivs_vs rfl
set_option maxHeartbeats 4000000 in
theorem submitted_no (vc ve : Value) (m : Mc) (x : Cm) (w : World) (hi : In w vc ve m) (hs : sbC m x ≠ 0) :
    Calls Try.prog 14 #[agv (mvl vc ve m), cmV x] w fun e w' => e = .returned (.tuple #[agv (mvl vc ve m), .int .i64 (sbC m x)]) ∧ Below w.heap.size w w' := by
  have hM : Mv w w [] [(false, vc, m.c.C), (false, ve, m.e.C)] := ((Mv.nil w).old hi.e).old hi.c
  have HV : Hid (Vs (mvl vc ve m) 606) := hi.vs
  have HL0 : Hid (0 + 606 ≤ (mvl vc ve m).length) := by show _ ≤ _; rw [hi.vs.len]; exact Nat.le_refl _
  have HA0 : Hid (cv (mvl vc ve m) 0 606 = mvl vc ve m) := cv_all hi.vs.len
  have HL6 : Hid (0 + 6 ≤ (mvl vc ve m).length) := by show _ ≤ _; rw [hi.vs.len]; omega
  have HA6 : Hid (cv (mvl vc ve m) 0 6 = rgl vc m.c) := cv_c _ _ _
  have HMA : Hid (∀ u, Below w.heap.size w u → Calls Try.prog 38 #[agv (mvl vc ve m)] u fun e w' => e = .returned (.bool (rtB m)) ∧ Below u.heap.size u w') := fun u hb => machine_any vc ve m u (hi.c.below hb) (hi.e.below hb) hi.B hi.wc hi.we
  have HPK : Hid (∀ u, Calls Try.prog 10 #[cmV x] u fun e w' => e = .returned (.tuple #[.int .u64 (pkV x), .int .i64 (pkC x)]) ∧ Below u.heap.size u w') := word_any x
  have HZ : Hid (zl.length = 606) := zl_vs.len
  have HZR : Hid ((rgl nilS ring.zR).length = 6) := rfl
  have HLX : Hid (0 + 4 ≤ (ivs [x.1, x.2.1, x.2.2.1, x.2.2.2]).length) := Nat.le_refl _
  have HAX : Hid (cv (ivs [x.1, x.2.1, x.2.2.1, x.2.2.2]) 0 4 = ivs [x.1, x.2.1, x.2.2.1, x.2.2.2]) := cv_all rfl
  have HPT : Hid (∀ u, Below w.heap.size w u → Calls Try.prog 39 #[agv (rgl vc m.c), .int .u64 (pkV x)] u fun e w' => ∃ v', e = .returned (.tuple #[agv (rgl v' (ring.ptV m.c (pkV x))), .int .i64 (ring.ptC m.c)]) ∧ ring.Tel u v' (ring.ptV m.c (pkV x)) w') := fun u hb => ring.refPut_any vc m.c (pkV x) u (hi.c.below hb)
  unfold cmV at HPK ⊢
  generalize ivs [x.1, x.2.1, x.2.2.1, x.2.2.2] = X at *
  unfold sbC at hs ⊢
  cases hR : rtB m
  · rw [hR] at HMA
    rw [if_pos rfl]
    clear hi hs hR
    go_enter Try.func14, Try.ntmps14
    repeat' (first | (go_big_may; first | (refine v_box rfl rfl rfl ?_; intro u xm hN; replace hM := hM.new hN (by decide); clear hN) | (refine v_box rfl rfl rfl ?_; intro u xc hN; replace hM := hM.new hN (by decide); clear hN) | (refine v_alloc rfl zer_mach rfl ?_; intro u xr hN; replace hM := hM.new hN (by decide); clear hN) | (refine v_load rfl rfl row_mach rfl hM.at2 HL0.out HA0.out ?_)) | go_values | go_skip | go_guarded | go_step | go_upon | (simp only [Int.not_lt, Int.not_le] at *; go_simp))
    refine (HMA.out _ hM.below).mono ?_
    rintro r u1 ⟨rfl, hv⟩
    replace hM := hM.call hv
    clear hv
    repeat' (first | (go_big_may; first | (refine v_load rfl rfl row_mach rfl hM.at2 HL0.out HA0.out ?_) | (refine v_fill rfl rfl row_mach rfl rfl hM.at0 HV.out HZ.out ?_; intro u hv hc; replace hM := hM.put0 hc hv; clear hv hc)) | go_values | go_skip | go_guarded | go_step | go_upon | (simp only [Int.not_lt, Int.not_le] at *; go_simp))
    exact bodyPost_ret (slots.ret_2 Try.results14 rfl (ld_var row_mach hM.at0 HV.out.len) rfl) rfl ⟨rfl, hM.below⟩
  rw [hR, if_neg (by decide)] at hs
  rw [if_neg (by decide)]
  have hk : ring.chk m.c = 0 := ring.chk_ok.2 (rt_iff.1 hR).c
  cases hP : pkB x
  · have p1 : pkC x = 1 := by unfold pkC; rw [hP]; rfl
    rw [p1] at HPK
    rw [hR] at HMA
    rw [if_pos rfl]
    clear hi hs hR hP hk p1
    go_enter Try.func14, Try.ntmps14
    repeat' (first | (go_big_may; first | (refine v_box rfl rfl rfl ?_; intro u xm hN; replace hM := hM.new hN (by decide); clear hN) | (refine v_box rfl rfl rfl ?_; intro u xc hN; replace hM := hM.new hN (by decide); clear hN) | (refine v_alloc rfl zer_mach rfl ?_; intro u xr hN; replace hM := hM.new hN (by decide); clear hN) | (refine v_load rfl rfl row_mach rfl hM.at2 HL0.out HA0.out ?_)) | go_values | go_skip | go_guarded | go_step | go_upon | (simp only [Int.not_lt, Int.not_le] at *; go_simp))
    refine (HMA.out _ hM.below).mono ?_
    rintro r u1 ⟨rfl, hv⟩
    replace hM := hM.call hv
    clear hv
    repeat' (first | (go_big_may; first | (refine v_load rfl rfl row_cmd rfl hM.at1 HLX.out HAX.out ?_)) | go_values | go_skip | go_guarded | go_step | go_upon | (simp only [Int.not_lt, Int.not_le] at *; go_simp))
    refine (HPK.out _).mono ?_
    rintro r u2 ⟨rfl, hv⟩
    replace hM := hM.call hv
    clear hv
    repeat' (first | (go_big_may; first | (refine v_load rfl rfl row_mach rfl hM.at2 HL0.out HA0.out ?_) | (refine v_fill rfl rfl row_mach rfl rfl hM.at0 HV.out HZ.out ?_; intro u hv hc; replace hM := hM.put0 hc hv; clear hv hc)) | go_values | go_skip | go_guarded | go_step | go_upon | (simp only [Int.not_lt, Int.not_le] at *; go_simp))
    exact bodyPost_ret (slots.ret_2 Try.results14 rfl (ld_var row_mach hM.at0 HV.out.len) rfl) rfl ⟨rfl, hM.below⟩
  rw [hP, if_neg (by decide)] at hs
  rw [if_neg (by decide)]
  cases hB : ring.putB m.c
  · have p1 : pkC x = 0 := by unfold pkC; rw [hP]; rfl
    have p2 : ring.ptC m.c = 11 := by unfold ring.ptC; rw [if_pos hk, hB]; rfl
    have p3 : ring.ptV m.c (pkV x) = ring.zR := by unfold ring.ptV; rw [if_pos hk, hB]; rfl
    rw [p1] at HPK
    rw [p2, p3] at HPT
    rw [hR] at HMA
    rw [if_neg (by decide)]
    generalize pkV x = pv at *
    clear hi hs hR hP hk p1 p2 p3 hB
    go_enter Try.func14, Try.ntmps14
    repeat' (first | (go_big_may; first | (refine v_box rfl rfl rfl ?_; intro u xm hN; replace hM := hM.new hN (by decide); clear hN) | (refine v_box rfl rfl rfl ?_; intro u xc hN; replace hM := hM.new hN (by decide); clear hN) | (refine v_alloc rfl zer_mach rfl ?_; intro u xr hN; replace hM := hM.new hN (by decide); clear hN) | (refine v_load rfl rfl row_mach rfl hM.at2 HL0.out HA0.out ?_)) | go_values | go_skip | go_guarded | go_step | go_upon | (simp only [Int.not_lt, Int.not_le] at *; go_simp))
    refine (HMA.out _ hM.below).mono ?_
    rintro r u1 ⟨rfl, hv⟩
    replace hM := hM.call hv
    clear hv
    repeat' (first | (go_big_may; first | (refine v_load rfl rfl row_cmd rfl hM.at1 HLX.out HAX.out ?_)) | go_values | go_skip | go_guarded | go_step | go_upon | (simp only [Int.not_lt, Int.not_le] at *; go_simp))
    refine (HPK.out _).mono ?_
    rintro r u2 ⟨rfl, hv⟩
    replace hM := hM.call hv
    clear hv
    repeat' (first | (go_big_may; first | (refine v_load rfl rfl row_ring rfl hM.at2 HL6.out HA6.out ?_)) | go_values | go_skip | go_guarded | go_step | go_upon | (simp only [Int.not_lt, Int.not_le] at *; go_simp))
    refine (HPT.out _ hM.below).mono ?_
    rintro r u3 ⟨v3, rfl, ht⟩
    have H3 : Hid (Vs (rgl v3 ring.zR) 6) := rgl_vs (rcs_one ht.1.rcs)
    replace hM := hM.tel ht.1 ht.2
    clear ht
    repeat' (first | (go_big_may; first | (refine v_alloc rfl zer_ring rfl ?_; intro u xg hN; replace hM := hM.new hN (by decide); clear hN) | (refine v_fill rfl rfl row_ring rfl rfl hM.at0 H3.out HZR.out ?_; intro u hv hc; replace hM := hM.put0 hc hv; clear hv hc) | (refine v_load rfl rfl row_mach rfl hM.at3 HL0.out HA0.out ?_) | (refine v_fill rfl rfl row_mach rfl rfl hM.at1 HV.out HZ.out ?_; intro u hv hc; replace hM := hM.put1 hc hv; clear hv hc)) | go_values | go_skip | go_guarded | go_step | go_upon | (simp only [Int.not_lt, Int.not_le] at *; go_simp))
    exact bodyPost_ret (slots.ret_2 Try.results14 rfl (ld_var row_mach hM.at1 HV.out.len) rfl) rfl ⟨rfl, hM.below⟩
  · rw [hB, if_pos rfl] at hs
    exact absurd rfl hs
set_option maxHeartbeats 4000000 in
theorem submitted_yes (vc ve : Value) (m : Mc) (x : Cm) (w : World) (hi : In w vc ve m) (hs : sbC m x = 0) :
    Calls Try.prog 14 #[agv (mvl vc ve m), cmV x] w fun e w' => ∃ v', e = .returned (.tuple #[agv (mvl v' ve (sbV m x)), .int .i64 0]) ∧ Ces w' w.heap.size v' (sbV m x).c.C ∧ Below w.heap.size w w' := by
  have hM : Mv w w [] [(false, vc, m.c.C), (false, ve, m.e.C)] := ((Mv.nil w).old hi.e).old hi.c
  have HV : Hid (Vs (mvl vc ve m) 606) := hi.vs
  have HL0 : Hid (0 + 606 ≤ (mvl vc ve m).length) := by show _ ≤ _; rw [hi.vs.len]; exact Nat.le_refl _
  have HA0 : Hid (cv (mvl vc ve m) 0 606 = mvl vc ve m) := cv_all hi.vs.len
  have HL6 : Hid (0 + 6 ≤ (mvl vc ve m).length) := by show _ ≤ _; rw [hi.vs.len]; omega
  have HA6 : Hid (cv (mvl vc ve m) 0 6 = rgl vc m.c) := cv_c _ _ _
  obtain ⟨hR, hP, hB⟩ : rtB m = true ∧ pkB x = true ∧ ring.putB m.c = true := by
    unfold sbC at hs
    split at hs
    · omega
    · rename_i h1
      split at hs
      · omega
      · rename_i h2
        split at hs
        · rename_i h3; exact ⟨by simpa using h1, by simpa using h2, h3⟩
        · omega
  have hk : ring.chk m.c = 0 := ring.chk_ok.2 (rt_iff.1 hR).c
  have HMA : Hid (∀ u, Below w.heap.size w u → Calls Try.prog 38 #[agv (mvl vc ve m)] u fun e w' => e = .returned (.bool true) ∧ Below u.heap.size u w') := fun u hb => by
    have := machine_any vc ve m u (hi.c.below hb) (hi.e.below hb) hi.B hi.wc hi.we
    rw [hR] at this
    exact this
  have HPK : Hid (∀ u, Calls Try.prog 10 #[cmV x] u fun e w' => e = .returned (.tuple #[.int .u64 (pkW x), .int .i64 0]) ∧ Below u.heap.size u w') := fun u => by
    have := word_any x u
    unfold pkV pkC at this
    rw [hP, if_pos rfl, if_pos rfl] at this
    exact this
  have HZ : Hid (zl.length = 606) := zl_vs.len
  have HZR : Hid ((rgl nilS ring.zR).length = 6) := rfl
  have HLX : Hid (0 + 4 ≤ (ivs [x.1, x.2.1, x.2.2.1, x.2.2.2]).length) := Nat.le_refl _
  have HAX : Hid (cv (ivs [x.1, x.2.1, x.2.2.1, x.2.2.2]) 0 4 = ivs [x.1, x.2.1, x.2.2.1, x.2.2.2]) := cv_all rfl
  have HPT : Hid (∀ u, Below w.heap.size w u → Calls Try.prog 39 #[agv (rgl vc m.c), .int .u64 (pkW x)] u fun e w' => ∃ v', e = .returned (.tuple #[agv (rgl v' (ring.putV m.c (pkW x))), .int .i64 0]) ∧ ring.Tel u v' (ring.putV m.c (pkW x)) w') := fun u hb => by
    have := ring.refPut_any vc m.c (pkW x) u (hi.c.below hb)
    have p2 : ring.ptC m.c = 0 := by unfold ring.ptC; rw [if_pos hk, hB]; rfl
    have p3 : ring.ptV m.c (pkW x) = ring.putV m.c (pkW x) := by unfold ring.ptV; rw [if_pos hk, hB]; rfl
    rw [p2, p3] at this
    exact this
  have hsv : sbV m x = ⟨ring.putV m.c (pkW x), m.e, m.B⟩ := by unfold sbV; rw [hR, hP, hB]; rfl
  rw [hsv]
  have HWB : Hid (Wf m.B) := hi.B
  unfold cmV at HPK ⊢
  generalize ivs [x.1, x.2.1, x.2.2.1, x.2.2.2] = X at *
  generalize pkW x = pv at *
  generalize ring.putV m.c pv = R at *
  have HOE : Hid (ve.oneCell' = true) := rcs_one hi.e
  clear hi hs hR hP hk hB hsv
  go_enter Try.func14, Try.ntmps14
  repeat' (first | (go_big_may; first | (refine v_box rfl rfl rfl ?_; intro u xm hN; replace hM := hM.new hN (by decide); clear hN) | (refine v_box rfl rfl rfl ?_; intro u xc hN; replace hM := hM.new hN (by decide); clear hN) | (refine v_alloc rfl zer_mach rfl ?_; intro u xr hN; replace hM := hM.new hN (by decide); clear hN) | (refine v_load rfl rfl row_mach rfl hM.at2 HL0.out HA0.out ?_)) | go_values | go_skip | go_guarded | go_step | go_upon | (simp only [Int.not_lt, Int.not_le] at *; go_simp))
  refine (HMA.out _ hM.below).mono ?_
  rintro r u1 ⟨rfl, hv⟩
  replace hM := hM.call hv
  clear hv
  repeat' (first | (go_big_may; first | (refine v_load rfl rfl row_cmd rfl hM.at1 HLX.out HAX.out ?_)) | go_values | go_skip | go_guarded | go_step | go_upon | (simp only [Int.not_lt, Int.not_le] at *; go_simp))
  refine (HPK.out _).mono ?_
  rintro r u2 ⟨rfl, hv⟩
  replace hM := hM.call hv
  clear hv
  repeat' (first | (go_big_may; first | (refine v_load rfl rfl row_ring rfl hM.at2 HL6.out HA6.out ?_)) | go_values | go_skip | go_guarded | go_step | go_upon | (simp only [Int.not_lt, Int.not_le] at *; go_simp))
  refine (HPT.out _ hM.below).mono ?_
  rintro r u3 ⟨v3, rfl, ht⟩
  have H3 : Hid (Vs (rgl v3 R) 6) := rgl_vs (rcs_one ht.1.rcs)
  have HL7 : Hid (0 + 6 ≤ (rgl v3 R).length) := Nat.le_refl _
  have HA7 : Hid (cv (rgl v3 R) 0 6 = rgl v3 R) := rfl
  have H4 : Hid (Vs (mvl v3 ve ⟨R, m.e, m.B⟩) 606) := mvl_vs (rcs_one ht.1.rcs) HOE.out HWB.out
  have HP4 : Hid (ptv (mvl vc ve m) 0 (rgl v3 R) = mvl v3 ve ⟨R, m.e, m.B⟩) := ptv_c _ _ _ _ _
  have HL4 : Hid (0 + 606 ≤ (mvl v3 ve ⟨R, m.e, m.B⟩).length) := by show _ ≤ _; rw [H4.out.len]; exact Nat.le_refl _
  have HA4 : Hid (cv (mvl v3 ve ⟨R, m.e, m.B⟩) 0 606 = mvl v3 ve ⟨R, m.e, m.B⟩) := cv_all H4.out.len
  replace hM := hM.tel ht.1 ht.2
  clear ht
  repeat' (first | (go_big_may; first | (refine v_alloc rfl zer_ring rfl ?_; intro u xg hN; replace hM := hM.new hN (by decide); clear hN) | (refine v_fill rfl rfl row_ring rfl rfl hM.at0 H3.out HZR.out ?_; intro u hv hc; replace hM := hM.put0 hc hv; clear hv hc) | (refine v_load rfl rfl row_ring rfl hM.at0 HL7.out HA7.out ?_) | (refine v_store rfl rfl row_ring rfl rfl hM.at3 H3.out HL6.out HP4.out ?_; intro u hv hc; replace hM := hM.put3 hc hv; clear hv hc) | (refine v_load rfl rfl row_mach rfl hM.at3 HL4.out HA4.out ?_) | (refine v_fill rfl rfl row_mach rfl rfl hM.at1 H4.out HZ.out ?_; intro u hv hc; replace hM := hM.put1 hc hv; clear hv hc)) | go_values | go_skip | go_guarded | go_step | go_upon | (simp only [Int.not_lt, Int.not_le] at *; go_simp))
  exact bodyPost_ret (slots.ret_2 Try.results14 rfl (ld_var row_mach hM.at1 H4.out.len) rfl) rfl ⟨_, rfl, hM.mine (by simp), hM.below⟩
end Go.Proofs.Ythjmcopknkemnaa.host

/- host, the document's answer: what Worked and Reaped answer. -/
namespace Go.Proofs.Ythjmcopknkemnaa.host
open Go Go.RowKit
open Go.Proofs.Ythjmcopknkemnaa
open Go.Proofs.Ythjmcopknkemnaa.slots (Row row_board row_cmd Chg ag fl Wf bsq)
open Go.Proofs.Ythjmcopknkemnaa.ring (Ces Rcs rgV rgW Rg Ce ceV named keep below_drewN wp_abs h_take h_call h_value h_skip g_take g_pass wanted_of unwanted_of)
set_option linter.unusedVariables false
set_option linter.unusedSimpArgs false
set_option maxRecDepth 100000

theorem row_mk : Row 33 2 := ⟨⟨_, Try.underlying33, rfl, by kernel_rfl⟩⟩
/-- the cell that is read next -/
structure Nx (w : World) (v : Value) (r : Rg) (kk n c g off : Nat) : Prop where
  vv : v = .slice (some ⟨g, off, none⟩) n c
  nn : r.C.length = n
  ga : r.ga = (kk : Int)
  lt : kk + 1 < n
  n3 : 3 ≤ n
  n64 : n ≤ 64
  c1 : n ≤ c
  c2 : c ≤ 9223372036854775807
  cell : ∀ u, Below w.heap.size w u → u.cell? ⟨g, off + kk * 3, none⟩ = some (.int .u64 (ring.atG r).1) ∧ u.cell? ⟨g, off + kk * 3 + 1, none⟩ = some (.int .i64 (ring.atG r).2.1)
theorem nx_of {w : World} {v : Value} {r : Rg} (h : Rcs w v r.C) (hr : ring.Rt r) : ∃ kk n c g off, Nx w v r kk n c g off := by
  obtain ⟨a, c, rfl, h1, h2⟩ := h.form
  have g0 := hr.ga0
  have g1 := hr.ga1
  have hx : r.C[r.ga.toNat]? = some (ring.atG r) := by
    unfold ring.atG
    rw [List.getD_eq_getElem?_getD, List.getElem?_eq_getElem (by omega)]
    rfl
  obtain ⟨g, off, rfl, hc⟩ := h.at r.ga.toNat _ hx
  exact ⟨r.ga.toNat, r.C.length, c, g, off, rfl, rfl, by omega, by omega, hr.n3, hr.n64, h1, by unfold maxLen at h2; exact h2, fun u hu => ⟨(hc u hu).1, (hc u hu).2.1⟩⟩
set_option maxHeartbeats 4000000 in
theorem worked_no1 (vc ve : Value) (m : Mc) (w : World) (hi : In w vc ve m) (hr : rtB m = false) : Calls Try.prog 17 #[agv (mvl vc ve m)] w fun e w' => e = .returned (.tuple #[agv (mvl vc ve m), .bool false]) ∧ Below w.heap.size w w' := by
  have hM : Mv w w [] [(false, vc, m.c.C), (false, ve, m.e.C)] := ((Mv.nil w).old hi.e).old hi.c
  have HV : Hid (Vs (mvl vc ve m) 606) := hi.vs
  have HL0 : Hid (0 + 606 ≤ (mvl vc ve m).length) := by show _ ≤ _; rw [hi.vs.len]; exact Nat.le_refl _
  have HA0 : Hid (cv (mvl vc ve m) 0 606 = mvl vc ve m) := cv_all hi.vs.len
  have HL6 : Hid (0 + 6 ≤ (mvl vc ve m).length) := by show _ ≤ _; rw [hi.vs.len]; omega
  have HA6 : Hid (cv (mvl vc ve m) 0 6 = rgl vc m.c) := cv_c _ _ _
  have HL7 : Hid (6 + 6 ≤ (mvl vc ve m).length) := by show _ ≤ _; rw [hi.vs.len]; omega
  have HA7 : Hid (cv (mvl vc ve m) 6 6 = rgl ve m.e) := cv_e _ _ _
  have HL8 : Hid (12 + 594 ≤ (mvl vc ve m).length) := by show _ ≤ _; rw [hi.vs.len]; exact Nat.le_refl _
  have HA8 : Hid (cv (mvl vc ve m) 12 594 = ivs (fl m.B)) := cv_b _ _ hi.B
  have HZ : Hid (zl.length = 606) := zl_vs.len
  have HZR : Hid ((rgl nilS ring.zR).length = 6) := rfl
  have HZE : Hid ((ivs [0, 0, 0]).length = 3) := rfl
  have HGV : Hid (Vs (rgl vc m.c) 6) := rgl_vs (rcs_one hi.c)
  have HMA : Hid (∀ u, Below w.heap.size w u → Calls Try.prog 38 #[agv (mvl vc ve m)] u fun e w' => e = .returned (.bool (rtB m)) ∧ Below u.heap.size u w') := fun u hb => machine_any vc ve m u (hi.c.below hb) (hi.e.below hb) hi.B hi.wc hi.we
  rw [hr] at HMA
  clear hi hr
  go_enter Try.func17, Try.ntmps17
  repeat' (first | (go_big_may; first | (refine v_box rfl rfl rfl ?_; intro u xm hN; replace hM := hM.new hN (by decide); clear hN) | (refine v_alloc rfl zer_mach rfl ?_; intro u xr hN; replace hM := hM.new hN (by decide); clear hN) | (refine v_load rfl rfl row_ring rfl hM.at1 HL6.out HA6.out ?_) | (refine v_alloc rfl zer_ring rfl ?_; intro u xg hN; replace hM := hM.new hN (by decide); clear hN) | (refine v_fill rfl rfl row_ring rfl rfl hM.at0 HGV.out HZR.out ?_; intro u hv hc; replace hM := hM.put0 hc hv; clear hv hc)) | go_values | go_skip | go_guarded | go_step | go_upon | (simp only [Int.not_lt, Int.not_le] at *; go_simp))
  go_simp
  refine wp_abs (fun a0 => a0.tmps.size = 86 ∧ (∀ h, a0.tmps[1]'h = .pointer (some ⟨xm, 0, none⟩)) ∧ (∀ h, a0.tmps[4]'h = .pointer (some ⟨xg, 0, none⟩))) ⟨rfl, fun _ => rfl, fun _ => rfl⟩ ?_
  rintro a0 ⟨hsz, s1, sg⟩ ha0
  obtain ⟨LL, hLL⟩ : ∃ LL : List Bk, [(xg, 35, rgl vc m.c), (xr, 43, zl), (xm, 43, mvl vc ve m)] = LL := ⟨_, rfl⟩
  rw [hLL] at hM
  refine wp_region_held (S := fun W => Mv w W LL [(false, vc, m.c.C), (false, ve, m.e.C)]) (by kernel_rfl) ?_
  have hS0 := hM.drew
  refine h_take (i := 0) (agv (mvl vc ve m)) rfl (by kernel_rfl) (by kernel_rfl) (by kernel_rfl) (fun _ _ _ h => h) rfl hS0 (fun W hW => by
    rw [← hLL] at hW
    exact ex_loadv rfl row_mach (by simp [go_sem, Act.put, hsz, s1, sg]) hW.at2 HL0.out HA0.out) ?_
  refine h_call (i := 1) 38 #[agv (mvl vc ve m)] rfl (by kernel_rfl) rfl (by simp [execOp, go_sem, Act.put, hsz, s1, sg]) ((HMA.out _ hS0.below).mono ?_)
  rintro e u9 ⟨rfl, hb⟩
  have hS1 := hS0.call hb
  refine ⟨_, rfl, hS1, ?_⟩
  refine h_take (i := 2) (.bool true) rfl (by kernel_rfl) (by kernel_rfl) (by kernel_rfl) (fun _ _ _ h => h) rfl hS1 (fun W hW => by simp [execOp, go_sem, Act.put, hsz, s1, sg]) ?_
  refine h_take (i := 3) (.bool true) rfl (by kernel_rfl) (by kernel_rfl) (by kernel_rfl) (fun _ _ _ h => h) rfl hS1 (fun W hW => by simp [execOp, go_sem, Act.put, hsz, s1, sg]) ?_
  refine g_pass (i := 4) rfl (by kernel_rfl) (by kernel_rfl) (by kernel_rfl) (fun _ _ _ h => h) (unwanted_of 3 false 18 rfl (by kernel_rfl) (by simp [Act.put, Array.getElem?_setIfInBounds, hsz])) hS1 ?_
  refine g_pass (i := 5) rfl (by kernel_rfl) (by kernel_rfl) (by kernel_rfl) (fun _ _ _ h => h) (unwanted_of 3 false 18 rfl (by kernel_rfl) (by simp [Act.put, Array.getElem?_setIfInBounds, hsz])) hS1 ?_
  refine g_pass (i := 6) rfl (by kernel_rfl) (by kernel_rfl) (by kernel_rfl) (fun _ _ _ h => h) (unwanted_of 3 false 18 rfl (by kernel_rfl) (by simp [Act.put, Array.getElem?_setIfInBounds, hsz])) hS1 ?_
  refine g_pass (i := 7) rfl (by kernel_rfl) (by kernel_rfl) (by kernel_rfl) (fun _ _ _ h => h) (unwanted_of 3 false 18 rfl (by kernel_rfl) (by simp [Act.put, Array.getElem?_setIfInBounds, hsz])) hS1 ?_
  refine g_pass (i := 8) rfl (by kernel_rfl) (by kernel_rfl) (by kernel_rfl) (fun _ _ _ h => h) (unwanted_of 3 false 18 rfl (by kernel_rfl) (by simp [Act.put, Array.getElem?_setIfInBounds, hsz])) hS1 ?_
  refine g_pass (i := 9) rfl (by kernel_rfl) (by kernel_rfl) (by kernel_rfl) (fun _ _ _ h => h) (unwanted_of 3 false 18 rfl (by kernel_rfl) (by simp [Act.put, Array.getElem?_setIfInBounds, hsz])) hS1 ?_
  refine g_pass (i := 10) rfl (by kernel_rfl) (by kernel_rfl) (by kernel_rfl) (fun _ _ _ h => h) (unwanted_of 3 false 18 rfl (by kernel_rfl) (by simp [Act.put, Array.getElem?_setIfInBounds, hsz])) hS1 ?_
  refine g_pass (i := 11) rfl (by kernel_rfl) (by kernel_rfl) (by kernel_rfl) (fun _ _ _ h => h) (unwanted_of 3 false 18 rfl (by kernel_rfl) (by simp [Act.put, Array.getElem?_setIfInBounds, hsz])) hS1 ?_
  refine g_pass (i := 12) rfl (by kernel_rfl) (by kernel_rfl) (by kernel_rfl) (fun _ _ _ h => h) (unwanted_of 3 false 18 rfl (by kernel_rfl) (by simp [Act.put, Array.getElem?_setIfInBounds, hsz])) hS1 ?_
  refine g_pass (i := 13) rfl (by kernel_rfl) (by kernel_rfl) (by kernel_rfl) (fun _ _ _ h => h) (unwanted_of 3 false 18 rfl (by kernel_rfl) (by simp [Act.put, Array.getElem?_setIfInBounds, hsz])) hS1 ?_
  refine g_pass (i := 14) rfl (by kernel_rfl) (by kernel_rfl) (by kernel_rfl) (fun _ _ _ h => h) (unwanted_of 3 false 18 rfl (by kernel_rfl) (by simp [Act.put, Array.getElem?_setIfInBounds, hsz])) hS1 ?_
  refine g_pass (i := 15) rfl (by kernel_rfl) (by kernel_rfl) (by kernel_rfl) (fun _ _ _ h => h) (unwanted_of 3 false 18 rfl (by kernel_rfl) (by simp [Act.put, Array.getElem?_setIfInBounds, hsz])) hS1 ?_
  refine h_take (i := 16) (.bool true) rfl (by kernel_rfl) (by kernel_rfl) (by kernel_rfl) (fun _ _ _ h => h) rfl hS1 (fun W hW => by simp [execOp, go_sem, Act.put, hsz, s1, sg]) ?_
  refine wpAnyH_done (by kernel_rfl) ?_ _
  subst ha0
  clear hsz s1 sg hS0 hM
  have hM := hS1
  rw [← hLL] at hM
  clear hS1 hLL hb
  go_simp
  repeat' (first | (go_big_may; first | (refine v_load rfl rfl row_mach rfl hM.at2 HL0.out HA0.out ?_) | (refine v_fill rfl rfl row_mach rfl rfl hM.at1 HV.out HZ.out ?_; intro u hv hc; replace hM := hM.put1 hc hv; clear hv hc)) | go_values | go_skip | go_guarded | go_step | go_upon | (simp only [Int.not_lt, Int.not_le] at *; go_simp))
  exact bodyPost_ret (slots.ret_2 Try.results17 rfl (ld_var row_mach hM.at1 HV.out.len) rfl) rfl ⟨rfl, hM.below⟩
set_option maxHeartbeats 4000000 in
theorem worked_no2 (vc ve : Value) (m : Mc) (w : World) (hi : In w vc ve m) (hr : rtB m = true) (hg : ring.getB m.c = false) : Calls Try.prog 17 #[agv (mvl vc ve m)] w fun e w' => e = .returned (.tuple #[agv (mvl vc ve m), .bool false]) ∧ Below w.heap.size w w' := by
  obtain ⟨kk, n, c, g, off, hN⟩ := nx_of hi.c (rt_iff.1 hr).c
  have HN : Hid (Nx w vc m.c kk n c g off) := hN
  have hv := hN.vv
  subst hv
  obtain ⟨xw, hxw⟩ : ∃ y, (ring.atG m.c).1 = y := ⟨_, rfl⟩
  obtain ⟨xb, hxb⟩ : ∃ y, (ring.atG m.c).2.1 = y := ⟨_, rfl⟩
  obtain ⟨gb, hgb⟩ : ∃ y, m.c.gb = y := ⟨_, rfl⟩
  have HCL : Hid (∀ u, Below w.heap.size w u → u.cell? ⟨g, off + kk * 3, none⟩ = some (.int .u64 xw) ∧ u.cell? ⟨g, off + kk * 3 + 1, none⟩ = some (.int .i64 xb)) := by rw [← hxw, ← hxb]; exact hN.cell
  have Q0 : Hid ((rgl (.slice (some ⟨g, off, none⟩) n c) m.c)[0]? = some (.slice (some ⟨g, off, none⟩) n c)) := rfl
  have Q3 : Hid ((rgl (.slice (some ⟨g, off, none⟩) n c) m.c)[3]? = some (.int .i64 (kk : Int))) := by show _ = _; rw [← hN.ga]; rfl
  have Q4 : Hid ((rgl (.slice (some ⟨g, off, none⟩) n c) m.c)[4]? = some (.int .i64 gb)) := by show _ = _; rw [← hgb]; rfl
  have hkn : kk < n := by have := hN.lt; omega
  have hki : (kk : Int) < (n : Int) := by omega
  have hn64 : n ≤ 64 := hN.n64
  have hn3 : 3 ≤ n := hN.n3
  have hnc := hN.c1
  have hcm := hN.c2
  have hgt : (xb != gb) = !ring.getB m.c := by rw [← hxb, ← hgb]; rfl
  have hM : Mv w w [] [(false, (.slice (some ⟨g, off, none⟩) n c), m.c.C), (false, ve, m.e.C)] := ((Mv.nil w).old hi.e).old hi.c
  have HV : Hid (Vs (mvl (.slice (some ⟨g, off, none⟩) n c) ve m) 606) := hi.vs
  have HL0 : Hid (0 + 606 ≤ (mvl (.slice (some ⟨g, off, none⟩) n c) ve m).length) := by show _ ≤ _; rw [hi.vs.len]; exact Nat.le_refl _
  have HA0 : Hid (cv (mvl (.slice (some ⟨g, off, none⟩) n c) ve m) 0 606 = mvl (.slice (some ⟨g, off, none⟩) n c) ve m) := cv_all hi.vs.len
  have HL6 : Hid (0 + 6 ≤ (mvl (.slice (some ⟨g, off, none⟩) n c) ve m).length) := by show _ ≤ _; rw [hi.vs.len]; omega
  have HA6 : Hid (cv (mvl (.slice (some ⟨g, off, none⟩) n c) ve m) 0 6 = rgl (.slice (some ⟨g, off, none⟩) n c) m.c) := cv_c _ _ _
  have HL7 : Hid (6 + 6 ≤ (mvl (.slice (some ⟨g, off, none⟩) n c) ve m).length) := by show _ ≤ _; rw [hi.vs.len]; omega
  have HA7 : Hid (cv (mvl (.slice (some ⟨g, off, none⟩) n c) ve m) 6 6 = rgl ve m.e) := cv_e _ _ _
  have HL8 : Hid (12 + 594 ≤ (mvl (.slice (some ⟨g, off, none⟩) n c) ve m).length) := by show _ ≤ _; rw [hi.vs.len]; exact Nat.le_refl _
  have HA8 : Hid (cv (mvl (.slice (some ⟨g, off, none⟩) n c) ve m) 12 594 = ivs (fl m.B)) := cv_b _ _ hi.B
  have HZ : Hid (zl.length = 606) := zl_vs.len
  have HZR : Hid ((rgl nilS ring.zR).length = 6) := rfl
  have HZE : Hid ((ivs [0, 0, 0]).length = 3) := rfl
  have HGV : Hid (Vs (rgl (.slice (some ⟨g, off, none⟩) n c) m.c) 6) := rgl_vs (rcs_one hi.c)
  have HMA : Hid (∀ u, Below w.heap.size w u → Calls Try.prog 38 #[agv (mvl (.slice (some ⟨g, off, none⟩) n c) ve m)] u fun e w' => e = .returned (.bool (rtB m)) ∧ Below u.heap.size u w') := fun u hb => machine_any (.slice (some ⟨g, off, none⟩) n c) ve m u (hi.c.below hb) (hi.e.below hb) hi.B hi.wc hi.we
  rw [hr] at HMA
  rw [hg] at hgt
  have hgt : (xb != gb) = true := hgt
  clear hi hr hg hxw hxb hgb hN
  go_enter Try.func17, Try.ntmps17
  repeat' (first | (go_big_may; first | (refine v_box rfl rfl rfl ?_; intro u xm hN; replace hM := hM.new hN (by decide); clear hN) | (refine v_alloc rfl zer_mach rfl ?_; intro u xr hN; replace hM := hM.new hN (by decide); clear hN) | (refine v_load rfl rfl row_ring rfl hM.at1 HL6.out HA6.out ?_) | (refine v_alloc rfl zer_ring rfl ?_; intro u xg hN; replace hM := hM.new hN (by decide); clear hN) | (refine v_fill rfl rfl row_ring rfl rfl hM.at0 HGV.out HZR.out ?_; intro u hv hc; replace hM := hM.put0 hc hv; clear hv hc)) | go_values | go_skip | go_guarded | go_step | go_upon | (simp only [Int.not_lt, Int.not_le] at *; go_simp))
  go_simp
  refine wp_abs (fun a0 => a0.tmps.size = 86 ∧ (∀ h, a0.tmps[1]'h = .pointer (some ⟨xm, 0, none⟩)) ∧ (∀ h, a0.tmps[4]'h = .pointer (some ⟨xg, 0, none⟩))) ⟨rfl, fun _ => rfl, fun _ => rfl⟩ ?_
  rintro a0 ⟨hsz, s1, sg⟩ ha0
  obtain ⟨LL, hLL⟩ : ∃ LL : List Bk, [(xg, 35, rgl (.slice (some ⟨g, off, none⟩) n c) m.c), (xr, 43, zl), (xm, 43, mvl (.slice (some ⟨g, off, none⟩) n c) ve m)] = LL := ⟨_, rfl⟩
  rw [hLL] at hM
  refine wp_region_held (S := fun W => Mv w W LL [(false, (.slice (some ⟨g, off, none⟩) n c), m.c.C), (false, ve, m.e.C)]) (by kernel_rfl) ?_
  have hS0 := hM.drew
  refine h_take (i := 0) (agv (mvl (.slice (some ⟨g, off, none⟩) n c) ve m)) rfl (by kernel_rfl) (by kernel_rfl) (by kernel_rfl) (fun _ _ _ h => h) rfl hS0 (fun W hW => by
    rw [← hLL] at hW
    exact ex_loadv rfl row_mach (by simp [go_sem, Act.put, hsz, s1, sg]) hW.at2 HL0.out HA0.out) ?_
  refine h_call (i := 1) 38 #[agv (mvl (.slice (some ⟨g, off, none⟩) n c) ve m)] rfl (by kernel_rfl) rfl (by simp [execOp, go_sem, Act.put, hsz, s1, sg]) ((HMA.out _ hS0.below).mono ?_)
  rintro e u9 ⟨rfl, hb⟩
  have hS1 := hS0.call hb
  refine ⟨_, rfl, hS1, ?_⟩
  refine h_take (i := 2) (.bool false) rfl (by kernel_rfl) (by kernel_rfl) (by kernel_rfl) (fun _ _ _ h => h) rfl hS1 (fun W hW => by simp [execOp, go_sem, Act.put, hsz, s1, sg]) ?_
  refine h_take (i := 3) (.bool false) rfl (by kernel_rfl) (by kernel_rfl) (by kernel_rfl) (fun _ _ _ h => h) rfl hS1 (fun W hW => by simp [execOp, go_sem, Act.put, hsz, s1, sg]) ?_
  refine g_take (i := 4) (.pointer (some ⟨xg, 0, none⟩)) rfl (by kernel_rfl) (by kernel_rfl) (by kernel_rfl) (fun _ _ _ h => h) (wanted_of 3 false 18 rfl (by kernel_rfl) (by simp [Act.put, Array.getElem?_setIfInBounds, hsz])) hS1 (fun W hW => by simp [execOp, go_sem, Act.put, hsz, s1, sg]) ?_
  refine g_take (i := 5) (.slice (some ⟨g, off, none⟩) n c) rfl (by kernel_rfl) (by kernel_rfl) (by kernel_rfl) (fun _ _ _ h => h) (wanted_of 3 false 18 rfl (by kernel_rfl) (by simp [Act.put, Array.getElem?_setIfInBounds, hsz])) hS1 (fun W hW => by rw [← hLL] at hW; exact ex_getc rfl (.inr rfl) (by simp [go_sem, Act.put, hsz, s1, sg]) (bv_cell hW.at0 Q0.out)) ?_
  refine g_take (i := 6) (.pointer (some ⟨xg, 3, none⟩)) rfl (by kernel_rfl) (by kernel_rfl) (by kernel_rfl) (fun _ _ _ h => h) (wanted_of 3 false 18 rfl (by kernel_rfl) (by simp [Act.put, Array.getElem?_setIfInBounds, hsz])) hS1 (fun W hW => by simp [execOp, go_sem, Act.put, hsz, s1, sg]) ?_
  refine g_take (i := 7) (.pointer (some ⟨xg, 3, none⟩)) rfl (by kernel_rfl) (by kernel_rfl) (by kernel_rfl) (fun _ _ _ h => h) (wanted_of 3 false 18 rfl (by kernel_rfl) (by simp [Act.put, Array.getElem?_setIfInBounds, hsz])) hS1 (fun W hW => by simp [execOp, go_sem, Act.put, hsz, s1, sg]) ?_
  refine g_take (i := 8) (.int .i64 (kk : Int)) rfl (by kernel_rfl) (by kernel_rfl) (by kernel_rfl) (fun _ _ _ h => h) (wanted_of 3 false 18 rfl (by kernel_rfl) (by simp [Act.put, Array.getElem?_setIfInBounds, hsz])) hS1 (fun W hW => by rw [← hLL] at hW; exact ex_getc rfl (.inl rfl) (by simp [go_sem, Act.put, hsz, s1, sg]) (bv_cell hW.at0 Q3.out)) ?_
  refine g_take (i := 9) (.pointer (some ⟨g, off + kk * 3, none⟩)) rfl (by kernel_rfl) (by kernel_rfl) (by kernel_rfl) (fun _ _ _ h => h) (wanted_of 3 false 18 rfl (by kernel_rfl) (by simp [Act.put, Array.getElem?_setIfInBounds, hsz])) hS1 (fun W hW => by simp [execOp, go_sem, Act.put, hsz, s1, sg, hki, hkn]) ?_
  refine g_take (i := 10) (.pointer (some ⟨g, off + kk * 3 + 1, none⟩)) rfl (by kernel_rfl) (by kernel_rfl) (by kernel_rfl) (fun _ _ _ h => h) (wanted_of 3 false 18 rfl (by kernel_rfl) (by simp [Act.put, Array.getElem?_setIfInBounds, hsz])) hS1 (fun W hW => by simp [execOp, go_sem, Act.put, hsz, s1, sg]) ?_
  refine g_take (i := 11) (.int .i64 xb) rfl (by kernel_rfl) (by kernel_rfl) (by kernel_rfl) (fun _ _ _ h => h) (wanted_of 3 false 18 rfl (by kernel_rfl) (by simp [Act.put, Array.getElem?_setIfInBounds, hsz])) hS1 (fun W hW => by exact ex_getc rfl (.inl rfl) (by simp [go_sem, Act.put, hsz, s1, sg]) (HCL.out W hW.below).2) ?_
  refine g_take (i := 12) (.pointer (some ⟨xg, 3, none⟩)) rfl (by kernel_rfl) (by kernel_rfl) (by kernel_rfl) (fun _ _ _ h => h) (wanted_of 3 false 18 rfl (by kernel_rfl) (by simp [Act.put, Array.getElem?_setIfInBounds, hsz])) hS1 (fun W hW => by simp [execOp, go_sem, Act.put, hsz, s1, sg]) ?_
  refine g_take (i := 13) (.pointer (some ⟨xg, 4, none⟩)) rfl (by kernel_rfl) (by kernel_rfl) (by kernel_rfl) (fun _ _ _ h => h) (wanted_of 3 false 18 rfl (by kernel_rfl) (by simp [Act.put, Array.getElem?_setIfInBounds, hsz])) hS1 (fun W hW => by simp [execOp, go_sem, Act.put, hsz, s1, sg]) ?_
  refine g_take (i := 14) (.int .i64 gb) rfl (by kernel_rfl) (by kernel_rfl) (by kernel_rfl) (fun _ _ _ h => h) (wanted_of 3 false 18 rfl (by kernel_rfl) (by simp [Act.put, Array.getElem?_setIfInBounds, hsz])) hS1 (fun W hW => by rw [← hLL] at hW; exact ex_getc rfl (.inl rfl) (by simp [go_sem, Act.put, hsz, s1, sg]) (bv_cell hW.at0 Q4.out)) ?_
  refine g_take (i := 15) (.bool (xb != gb)) rfl (by kernel_rfl) (by kernel_rfl) (by kernel_rfl) (fun _ _ _ h => h) (wanted_of 3 false 18 rfl (by kernel_rfl) (by simp [Act.put, Array.getElem?_setIfInBounds, hsz])) hS1 (fun W hW => by simp [execOp, go_sem, Act.put, hsz, s1, sg]) ?_
  refine h_take (i := 16) (.bool (xb != gb)) rfl (by kernel_rfl) (by kernel_rfl) (by kernel_rfl) (fun _ _ _ h => h) rfl hS1 (fun W hW => by simp [execOp, go_sem, Act.put, hsz, s1, sg]) ?_
  refine wpAnyH_done (by kernel_rfl) ?_ _
  subst ha0
  clear hsz s1 sg hS0 hM
  have hM := hS1
  rw [← hLL] at hM
  clear hS1 hLL hb
  go_simp
  repeat' (first | (go_big_may; first | (refine v_load rfl rfl row_mach rfl hM.at2 HL0.out HA0.out ?_) | (refine v_fill rfl rfl row_mach rfl rfl hM.at1 HV.out HZ.out ?_; intro u hv hc; replace hM := hM.put1 hc hv; clear hv hc)) | go_values | go_skip | go_guarded | go_step | go_upon | (simp only [Int.not_lt, Int.not_le] at *; go_simp))
  exact bodyPost_ret (slots.ret_2 Try.results17 rfl (ld_var row_mach hM.at1 HV.out.len) rfl) rfl ⟨rfl, hM.below⟩
set_option maxHeartbeats 8000000 in
theorem worked_no3 (vc ve : Value) (m : Mc) (w : World) (hi : In w vc ve m) (hr : rtB m = true) (hg : ring.getB m.c = true) (hp : ring.putB m.e = false) : Calls Try.prog 17 #[agv (mvl vc ve m)] w fun e w' => e = .returned (.tuple #[agv (mvl vc ve m), .bool false]) ∧ Below w.heap.size w w' := by
  have hR := rt_iff.1 hr
  obtain ⟨kk, n, c, g, off, hN⟩ := nx_of hi.c (rt_iff.1 hr).c
  have HN : Hid (Nx w vc m.c kk n c g off) := hN
  have hv := hN.vv
  subst hv
  obtain ⟨xw, hxw⟩ : ∃ y, (ring.atG m.c).1 = y := ⟨_, rfl⟩
  obtain ⟨xb, hxb⟩ : ∃ y, (ring.atG m.c).2.1 = y := ⟨_, rfl⟩
  obtain ⟨gb, hgb⟩ : ∃ y, m.c.gb = y := ⟨_, rfl⟩
  have HCL : Hid (∀ u, Below w.heap.size w u → u.cell? ⟨g, off + kk * 3, none⟩ = some (.int .u64 xw) ∧ u.cell? ⟨g, off + kk * 3 + 1, none⟩ = some (.int .i64 xb)) := by rw [← hxw, ← hxb]; exact hN.cell
  have Q0 : Hid ((rgl (.slice (some ⟨g, off, none⟩) n c) m.c)[0]? = some (.slice (some ⟨g, off, none⟩) n c)) := rfl
  have Q3 : Hid ((rgl (.slice (some ⟨g, off, none⟩) n c) m.c)[3]? = some (.int .i64 (kk : Int))) := by show _ = _; rw [← hN.ga]; rfl
  have Q4 : Hid ((rgl (.slice (some ⟨g, off, none⟩) n c) m.c)[4]? = some (.int .i64 gb)) := by show _ = _; rw [← hgb]; rfl
  have hkn : kk < n := by have := hN.lt; omega
  have hki : (kk : Int) < (n : Int) := by omega
  have hn64 : n ≤ 64 := hN.n64
  have hn3 : 3 ≤ n := hN.n3
  have hnc := hN.c1
  have hcm := hN.c2
  have hgt : (xb != gb) = !ring.getB m.c := by rw [← hxb, ← hgb]; rfl
  have hM : Mv w w [] [(false, (.slice (some ⟨g, off, none⟩) n c), m.c.C), (false, ve, m.e.C)] := ((Mv.nil w).old hi.e).old hi.c
  have HV : Hid (Vs (mvl (.slice (some ⟨g, off, none⟩) n c) ve m) 606) := hi.vs
  have HL0 : Hid (0 + 606 ≤ (mvl (.slice (some ⟨g, off, none⟩) n c) ve m).length) := by show _ ≤ _; rw [hi.vs.len]; exact Nat.le_refl _
  have HA0 : Hid (cv (mvl (.slice (some ⟨g, off, none⟩) n c) ve m) 0 606 = mvl (.slice (some ⟨g, off, none⟩) n c) ve m) := cv_all hi.vs.len
  have HL6 : Hid (0 + 6 ≤ (mvl (.slice (some ⟨g, off, none⟩) n c) ve m).length) := by show _ ≤ _; rw [hi.vs.len]; omega
  have HA6 : Hid (cv (mvl (.slice (some ⟨g, off, none⟩) n c) ve m) 0 6 = rgl (.slice (some ⟨g, off, none⟩) n c) m.c) := cv_c _ _ _
  have HL7 : Hid (6 + 6 ≤ (mvl (.slice (some ⟨g, off, none⟩) n c) ve m).length) := by show _ ≤ _; rw [hi.vs.len]; omega
  have HA7 : Hid (cv (mvl (.slice (some ⟨g, off, none⟩) n c) ve m) 6 6 = rgl ve m.e) := cv_e _ _ _
  have HL8 : Hid (12 + 594 ≤ (mvl (.slice (some ⟨g, off, none⟩) n c) ve m).length) := by show _ ≤ _; rw [hi.vs.len]; exact Nat.le_refl _
  have HA8 : Hid (cv (mvl (.slice (some ⟨g, off, none⟩) n c) ve m) 12 594 = ivs (fl m.B)) := cv_b _ _ hi.B
  have HZ : Hid (zl.length = 606) := zl_vs.len
  have HZR : Hid ((rgl nilS ring.zR).length = 6) := rfl
  have HZE : Hid ((ivs [0, 0, 0]).length = 3) := rfl
  have HGV : Hid (Vs (rgl (.slice (some ⟨g, off, none⟩) n c) m.c) 6) := rgl_vs (rcs_one hi.c)
  have HMA : Hid (∀ u, Below w.heap.size w u → Calls Try.prog 38 #[agv (mvl (.slice (some ⟨g, off, none⟩) n c) ve m)] u fun e w' => e = .returned (.bool (rtB m)) ∧ Below u.heap.size u w') := fun u hb => machine_any (.slice (some ⟨g, off, none⟩) n c) ve m u (hi.c.below hb) (hi.e.below hb) hi.B hi.wc hi.we
  have hm := atG_mem hR.c
  have hb := hi.wc _ hm
  have hcw : cwB (ring.atG m.c).1 = true := List.all_eq_true.1 hR.wc _ hm
  have HUP : Hid (∀ u, Calls Try.prog 12 #[.int .u64 xw] u fun e w' => e = .returned (.tuple #[agv (ivs [(upK xw).1, (upK xw).2.1, (upK xw).2.2.1, (upK xw).2.2.2]), .int .i64 0]) ∧ Below u.heap.size u w') := fun u => by
    have := unword_any (ring.atG m.c).1 u hb.1 hb.2
    unfold upV upC at this
    rw [if_pos hcw, if_pos hcw, hxw] at this
    exact this
  have HD : Hid (∀ u, Calls Try.prog 42 #[agv (ivs (fl m.B)), agv (ivs [(upK xw).1, (upK xw).2.1, (upK xw).2.2.1, (upK xw).2.2.2])] u fun r w' => r = .returned (.tuple #[agv (ivs (fl (dn m).B)), .int .i64 (dn m).c, .int .i64 (dn m).n]) ∧ Below u.heap.size u w') := fun u => by
    have := slots.done_any m.B (upK xw).1 (upK xw).2.1 (upK xw).2.2.1 (upK xw).2.2.2 u hi.B
    rw [← hxw] at this ⊢
    exact this
  have k2 : ring.chk m.e = 0 := ring.chk_ok.2 hR.e
  have HP : Hid (∀ u, Below w.heap.size w u → Calls Try.prog 39 #[agv (rgl ve m.e), .int .u64 (evW (nev m))] u fun e w' => ∃ v', e = .returned (.tuple #[agv (rgl v' ring.zR), .int .i64 11]) ∧ ring.Tel u v' ring.zR w') := fun u hb => by
    have := ring.refPut_any ve m.e (evW (nev m)) u (hi.e.below hb)
    unfold ring.ptV ring.ptC at this
    rw [if_pos k2, if_pos k2, hp] at this
    exact this
  have hsm := hR.sm
  have hev : evW (nev m) = (dn m).c + 256 * (dn m).n + 65536 * (kk : Int) := by
    unfold evW nev
    simp only
    rw [hN.ga]
  have d1 := hsm.c0
  have d2 := hsm.c1
  have d3 := hsm.s0
  have d4 := hsm.s1
  have d1 : 0 ≤ (dn m).c := d1
  have d2 : (dn m).c < 256 := d2
  have d3 : 0 ≤ (dn m).n := d3
  have d4 : (dn m).n < 256 := d4
  have HWD : Hid (Wf (dn m).B) := slots.do_wf hi.B
  have HDB : Hid (Vs (ivs (fl (dn m).B)) 594) := ivs_vs HWD.out.length
  have HZC : Hid ((ivs [0, 0, 0, 0]).length = 4) := rfl
  have HZB : Hid ((ivs (fl slots.zB)).length = 594) := (ivs_vs slots.zB_wf.length).len
  have HX : Hid (Vs (ivs [(upK xw).1, (upK xw).2.1, (upK xw).2.2.1, (upK xw).2.2.2]) 4) := ivs_vs rfl
  have HLX : Hid (0 + 4 ≤ (ivs [(upK xw).1, (upK xw).2.1, (upK xw).2.2.1, (upK xw).2.2.2]).length) := Nat.le_refl _
  have HAX : Hid (cv (ivs [(upK xw).1, (upK xw).2.1, (upK xw).2.2.1, (upK xw).2.2.2]) 0 4 = ivs [(upK xw).1, (upK xw).2.1, (upK xw).2.2.1, (upK xw).2.2.2]) := rfl
  rw [hr] at HMA
  rw [hg] at hgt
  have hgt : (xb != gb) = false := hgt
  obtain ⟨W, hW⟩ : ∃ W, evW (nev m) = W := ⟨_, rfl⟩
  rw [hW] at HP hev
  clear hi hr hg hp hxw hxb hgb hN hR hm hb hcw k2 hsm hW
  generalize (dn m).c = dc at *
  generalize hdq : (dn m).n = dq at *
  generalize hdB : (dn m).B = dB at *
  clear hdq hdB
  obtain ⟨z1, hz1⟩ : ∃ z, 256 * dq = z := ⟨_, rfl⟩
  obtain ⟨z2, hz2⟩ : ∃ z, dc + z1 = z := ⟨_, rfl⟩
  obtain ⟨z3, hz3⟩ : ∃ z, 65536 * (kk : Int) = z := ⟨_, rfl⟩
  have hz4 : z2 + z3 = W := by omega
  have z1a : 0 ≤ z1 := by omega
  have z1b : z1 ≤ 65280 := by omega
  have z2a : 0 ≤ z2 := by omega
  have z2b : z2 ≤ 65535 := by omega
  have z3a : 0 ≤ z3 := by omega
  have z3b : z3 ≤ 4194304 := by omega
  have hW0 : 0 ≤ W := by omega
  have hW1 : W ≤ 4259840 := by omega
  have hwr : IntKind.u64.wrap W = W := by rw [IntKind.wrap_u64]; omega
  clear hev
  generalize ivs [(upK xw).1, (upK xw).2.1, (upK xw).2.2.1, (upK xw).2.2.2] = X at *
  generalize hDF : ivs (fl dB) = DF at *
  have HDF : Hid (ivs (fl dB) = DF) := hDF
  have HDL : Hid (0 + 594 ≤ DF.length) := by show _ ≤ _; rw [HDB.out.len]; exact Nat.le_refl _
  have HDA : Hid (cv DF 0 594 = DF) := cv_all HDB.out.len
  generalize ivs (fl m.B) = MB at *
  clear hDF
  go_enter Try.func17, Try.ntmps17
  repeat' (first | (go_big_may; first | (refine v_box rfl rfl rfl ?_; intro u xm hN; replace hM := hM.new hN (by decide); clear hN) | (refine v_alloc rfl zer_mach rfl ?_; intro u xr hN; replace hM := hM.new hN (by decide); clear hN) | (refine v_load rfl rfl row_ring rfl hM.at1 HL6.out HA6.out ?_) | (refine v_alloc rfl zer_ring rfl ?_; intro u xg hN; replace hM := hM.new hN (by decide); clear hN) | (refine v_fill rfl rfl row_ring rfl rfl hM.at0 HGV.out HZR.out ?_; intro u hv hc; replace hM := hM.put0 hc hv; clear hv hc)) | go_values | go_skip | go_guarded | go_step | go_upon | (simp only [Int.not_lt, Int.not_le] at *; go_simp))
  go_simp
  refine wp_abs (fun a0 => a0.tmps.size = 86 ∧ (∀ h, a0.tmps[1]'h = .pointer (some ⟨xm, 0, none⟩)) ∧ (∀ h, a0.tmps[4]'h = .pointer (some ⟨xg, 0, none⟩))) ⟨rfl, fun _ => rfl, fun _ => rfl⟩ ?_
  rintro a0 ⟨hsz, s1, sg⟩ ha0
  obtain ⟨LL, hLL⟩ : ∃ LL : List Bk, [(xg, 35, rgl (.slice (some ⟨g, off, none⟩) n c) m.c), (xr, 43, zl), (xm, 43, mvl (.slice (some ⟨g, off, none⟩) n c) ve m)] = LL := ⟨_, rfl⟩
  rw [hLL] at hM
  refine wp_region_held (S := fun W => Mv w W LL [(false, (.slice (some ⟨g, off, none⟩) n c), m.c.C), (false, ve, m.e.C)]) (by kernel_rfl) ?_
  have hS0 := hM.drew
  refine h_take (i := 0) (agv (mvl (.slice (some ⟨g, off, none⟩) n c) ve m)) rfl (by kernel_rfl) (by kernel_rfl) (by kernel_rfl) (fun _ _ _ h => h) rfl hS0 (fun W hW => by
    rw [← hLL] at hW
    exact ex_loadv rfl row_mach (by simp [go_sem, Act.put, hsz, s1, sg]) hW.at2 HL0.out HA0.out) ?_
  refine h_call (i := 1) 38 #[agv (mvl (.slice (some ⟨g, off, none⟩) n c) ve m)] rfl (by kernel_rfl) rfl (by simp [execOp, go_sem, Act.put, hsz, s1, sg]) ((HMA.out _ hS0.below).mono ?_)
  rintro e u9 ⟨rfl, hb⟩
  have hS1 := hS0.call hb
  refine ⟨_, rfl, hS1, ?_⟩
  refine h_take (i := 2) (.bool false) rfl (by kernel_rfl) (by kernel_rfl) (by kernel_rfl) (fun _ _ _ h => h) rfl hS1 (fun W hW => by simp [execOp, go_sem, Act.put, hsz, s1, sg]) ?_
  refine h_take (i := 3) (.bool false) rfl (by kernel_rfl) (by kernel_rfl) (by kernel_rfl) (fun _ _ _ h => h) rfl hS1 (fun W hW => by simp [execOp, go_sem, Act.put, hsz, s1, sg]) ?_
  refine g_take (i := 4) (.pointer (some ⟨xg, 0, none⟩)) rfl (by kernel_rfl) (by kernel_rfl) (by kernel_rfl) (fun _ _ _ h => h) (wanted_of 3 false 18 rfl (by kernel_rfl) (by simp [Act.put, Array.getElem?_setIfInBounds, hsz])) hS1 (fun W hW => by simp [execOp, go_sem, Act.put, hsz, s1, sg]) ?_
  refine g_take (i := 5) (.slice (some ⟨g, off, none⟩) n c) rfl (by kernel_rfl) (by kernel_rfl) (by kernel_rfl) (fun _ _ _ h => h) (wanted_of 3 false 18 rfl (by kernel_rfl) (by simp [Act.put, Array.getElem?_setIfInBounds, hsz])) hS1 (fun W hW => by rw [← hLL] at hW; exact ex_getc rfl (.inr rfl) (by simp [go_sem, Act.put, hsz, s1, sg]) (bv_cell hW.at0 Q0.out)) ?_
  refine g_take (i := 6) (.pointer (some ⟨xg, 3, none⟩)) rfl (by kernel_rfl) (by kernel_rfl) (by kernel_rfl) (fun _ _ _ h => h) (wanted_of 3 false 18 rfl (by kernel_rfl) (by simp [Act.put, Array.getElem?_setIfInBounds, hsz])) hS1 (fun W hW => by simp [execOp, go_sem, Act.put, hsz, s1, sg]) ?_
  refine g_take (i := 7) (.pointer (some ⟨xg, 3, none⟩)) rfl (by kernel_rfl) (by kernel_rfl) (by kernel_rfl) (fun _ _ _ h => h) (wanted_of 3 false 18 rfl (by kernel_rfl) (by simp [Act.put, Array.getElem?_setIfInBounds, hsz])) hS1 (fun W hW => by simp [execOp, go_sem, Act.put, hsz, s1, sg]) ?_
  refine g_take (i := 8) (.int .i64 (kk : Int)) rfl (by kernel_rfl) (by kernel_rfl) (by kernel_rfl) (fun _ _ _ h => h) (wanted_of 3 false 18 rfl (by kernel_rfl) (by simp [Act.put, Array.getElem?_setIfInBounds, hsz])) hS1 (fun W hW => by rw [← hLL] at hW; exact ex_getc rfl (.inl rfl) (by simp [go_sem, Act.put, hsz, s1, sg]) (bv_cell hW.at0 Q3.out)) ?_
  refine g_take (i := 9) (.pointer (some ⟨g, off + kk * 3, none⟩)) rfl (by kernel_rfl) (by kernel_rfl) (by kernel_rfl) (fun _ _ _ h => h) (wanted_of 3 false 18 rfl (by kernel_rfl) (by simp [Act.put, Array.getElem?_setIfInBounds, hsz])) hS1 (fun W hW => by simp [execOp, go_sem, Act.put, hsz, s1, sg, hki, hkn]) ?_
  refine g_take (i := 10) (.pointer (some ⟨g, off + kk * 3 + 1, none⟩)) rfl (by kernel_rfl) (by kernel_rfl) (by kernel_rfl) (fun _ _ _ h => h) (wanted_of 3 false 18 rfl (by kernel_rfl) (by simp [Act.put, Array.getElem?_setIfInBounds, hsz])) hS1 (fun W hW => by simp [execOp, go_sem, Act.put, hsz, s1, sg]) ?_
  refine g_take (i := 11) (.int .i64 xb) rfl (by kernel_rfl) (by kernel_rfl) (by kernel_rfl) (fun _ _ _ h => h) (wanted_of 3 false 18 rfl (by kernel_rfl) (by simp [Act.put, Array.getElem?_setIfInBounds, hsz])) hS1 (fun W hW => by exact ex_getc rfl (.inl rfl) (by simp [go_sem, Act.put, hsz, s1, sg]) (HCL.out W hW.below).2) ?_
  refine g_take (i := 12) (.pointer (some ⟨xg, 3, none⟩)) rfl (by kernel_rfl) (by kernel_rfl) (by kernel_rfl) (fun _ _ _ h => h) (wanted_of 3 false 18 rfl (by kernel_rfl) (by simp [Act.put, Array.getElem?_setIfInBounds, hsz])) hS1 (fun W hW => by simp [execOp, go_sem, Act.put, hsz, s1, sg]) ?_
  refine g_take (i := 13) (.pointer (some ⟨xg, 4, none⟩)) rfl (by kernel_rfl) (by kernel_rfl) (by kernel_rfl) (fun _ _ _ h => h) (wanted_of 3 false 18 rfl (by kernel_rfl) (by simp [Act.put, Array.getElem?_setIfInBounds, hsz])) hS1 (fun W hW => by simp [execOp, go_sem, Act.put, hsz, s1, sg]) ?_
  refine g_take (i := 14) (.int .i64 gb) rfl (by kernel_rfl) (by kernel_rfl) (by kernel_rfl) (fun _ _ _ h => h) (wanted_of 3 false 18 rfl (by kernel_rfl) (by simp [Act.put, Array.getElem?_setIfInBounds, hsz])) hS1 (fun W hW => by rw [← hLL] at hW; exact ex_getc rfl (.inl rfl) (by simp [go_sem, Act.put, hsz, s1, sg]) (bv_cell hW.at0 Q4.out)) ?_
  refine g_take (i := 15) (.bool (xb != gb)) rfl (by kernel_rfl) (by kernel_rfl) (by kernel_rfl) (fun _ _ _ h => h) (wanted_of 3 false 18 rfl (by kernel_rfl) (by simp [Act.put, Array.getElem?_setIfInBounds, hsz])) hS1 (fun W hW => by simp [execOp, go_sem, Act.put, hsz, s1, sg]) ?_
  refine h_take (i := 16) (.bool (xb != gb)) rfl (by kernel_rfl) (by kernel_rfl) (by kernel_rfl) (fun _ _ _ h => h) rfl hS1 (fun W hW => by simp [execOp, go_sem, Act.put, hsz, s1, sg]) ?_
  refine wpAnyH_done (by kernel_rfl) ?_ _
  subst ha0
  clear hsz s1 sg hS0 hM
  have hM := hS1
  rw [← hLL] at hM
  clear hS1 hLL hb
  go_simp
  repeat' (first | (go_big_may; first | (refine v_get rfl rfl (.inr rfl) rfl hM.at0 Q0.out ?_) | (refine v_get rfl rfl (.inl rfl) rfl hM.at0 Q3.out ?_) | (refine v_getC rfl rfl (.inr rfl) rfl (HCL.out _ hM.below).1 ?_)) | go_values | go_skip | go_guarded | go_step | go_upon | (simp only [Int.not_lt, Int.not_le] at *; go_simp))
  refine (HUP.out _).mono ?_
  rintro r u2 ⟨rfl, hv⟩
  replace hM := hM.call hv
  clear hv
  repeat' (first | (go_big_may; first | (refine v_alloc rfl zer_cmd rfl ?_; intro u xc hN; replace hM := hM.new hN (by decide); clear hN) | (refine v_fill rfl rfl row_cmd rfl rfl hM.at0 HX.out HZC.out ?_; intro u hv hc; replace hM := hM.put0 hc hv; clear hv hc) | (refine v_load rfl rfl row_board rfl hM.at3 HL8.out HA8.out ?_) | (refine v_load rfl rfl row_cmd rfl hM.at0 HLX.out HAX.out ?_)) | go_values | go_skip | go_guarded | go_step | go_upon | (simp only [Int.not_lt, Int.not_le] at *; go_simp))
  refine (HD.out _).mono ?_
  rintro r u3 ⟨rfl, hv⟩
  replace hM := hM.call hv
  clear hv
  repeat' (first | (go_big_may; first | (refine v_alloc rfl zer_board rfl ?_; intro u xb' hN; replace hM := hM.new hN (by decide); clear hN) | (refine v_fill rfl rfl row_board rfl rfl hM.at0 HDB.out HZB.out ?_; intro u hv hc; replace hM := hM.put0 hc hv; clear hv hc) | (refine v_load rfl rfl row_ring rfl hM.at4 HL7.out HA7.out ?_) | (refine v_get rfl rfl (.inl rfl) rfl hM.at2 Q3.out ?_)) | go_values | go_skip | go_guarded | go_step | go_upon | (simp only [Int.not_lt, Int.not_le] at *; go_simp))
  refine (HP.out _ hM.below).mono ?_
  rintro r u4 ⟨v3, rfl, ht⟩
  have H4 : Hid (Vs (rgl v3 ring.zR) 6) := rgl_vs (rcs_one ht.1.rcs)
  replace hM := hM.tel ht.1 ht.2
  clear ht
  repeat' (first | (go_big_may; first | (refine v_alloc rfl zer_ring rfl ?_; intro u xe hN; replace hM := hM.new hN (by decide); clear hN) | (refine v_fill rfl rfl row_ring rfl rfl hM.at0 H4.out HZR.out ?_; intro u hv hc; replace hM := hM.put0 hc hv; clear hv hc) | (refine v_load rfl rfl row_mach rfl hM.at5 HL0.out HA0.out ?_) | (refine v_fill rfl rfl row_mach rfl rfl hM.at4 HV.out HZ.out ?_; intro u hv hc; replace hM := hM.put4 hc hv; clear hv hc)) | go_values | go_skip | go_guarded | go_step | go_upon | (simp only [Int.not_lt, Int.not_le] at *; go_simp))
  exact bodyPost_ret (slots.ret_2 Try.results17 rfl (ld_var row_mach hM.at4 HV.out.len) rfl) rfl ⟨rfl, hM.below⟩
set_option maxHeartbeats 8000000 in
theorem worked_yes (vc ve : Value) (m : Mc) (w : World) (hi : In w vc ve m) (hr : rtB m = true) (hg : ring.getB m.c = true) (hp : ring.putB m.e = true) : Calls Try.prog 17 #[agv (mvl vc ve m)] w fun e w' => ∃ ve', e = .returned (.tuple #[agv (mvl vc ve' (stV m)), .bool true]) ∧ Ces w' w.heap.size ve' (stV m).e.C ∧ Below w.heap.size w w' := by
  have hR := rt_iff.1 hr
  obtain ⟨kk, n, c, g, off, hN⟩ := nx_of hi.c (rt_iff.1 hr).c
  have HN : Hid (Nx w vc m.c kk n c g off) := hN
  have hv := hN.vv
  subst hv
  obtain ⟨xw, hxw⟩ : ∃ y, (ring.atG m.c).1 = y := ⟨_, rfl⟩
  obtain ⟨xb, hxb⟩ : ∃ y, (ring.atG m.c).2.1 = y := ⟨_, rfl⟩
  obtain ⟨gb, hgb⟩ : ∃ y, m.c.gb = y := ⟨_, rfl⟩
  have HCL : Hid (∀ u, Below w.heap.size w u → u.cell? ⟨g, off + kk * 3, none⟩ = some (.int .u64 xw) ∧ u.cell? ⟨g, off + kk * 3 + 1, none⟩ = some (.int .i64 xb)) := by rw [← hxw, ← hxb]; exact hN.cell
  have Q0 : Hid ((rgl (.slice (some ⟨g, off, none⟩) n c) m.c)[0]? = some (.slice (some ⟨g, off, none⟩) n c)) := rfl
  have Q3 : Hid ((rgl (.slice (some ⟨g, off, none⟩) n c) m.c)[3]? = some (.int .i64 (kk : Int))) := by show _ = _; rw [← hN.ga]; rfl
  have Q4 : Hid ((rgl (.slice (some ⟨g, off, none⟩) n c) m.c)[4]? = some (.int .i64 gb)) := by show _ = _; rw [← hgb]; rfl
  have hkn : kk < n := by have := hN.lt; omega
  have hki : (kk : Int) < (n : Int) := by omega
  have hn64 : n ≤ 64 := hN.n64
  have hn3 : 3 ≤ n := hN.n3
  have hnc := hN.c1
  have hcm := hN.c2
  have hgt : (xb != gb) = !ring.getB m.c := by rw [← hxb, ← hgb]; rfl
  have hM : Mv w w [] [(false, (.slice (some ⟨g, off, none⟩) n c), m.c.C), (false, ve, m.e.C)] := ((Mv.nil w).old hi.e).old hi.c
  have HV : Hid (Vs (mvl (.slice (some ⟨g, off, none⟩) n c) ve m) 606) := hi.vs
  have HL0 : Hid (0 + 606 ≤ (mvl (.slice (some ⟨g, off, none⟩) n c) ve m).length) := by show _ ≤ _; rw [hi.vs.len]; exact Nat.le_refl _
  have HA0 : Hid (cv (mvl (.slice (some ⟨g, off, none⟩) n c) ve m) 0 606 = mvl (.slice (some ⟨g, off, none⟩) n c) ve m) := cv_all hi.vs.len
  have HL6 : Hid (0 + 6 ≤ (mvl (.slice (some ⟨g, off, none⟩) n c) ve m).length) := by show _ ≤ _; rw [hi.vs.len]; omega
  have HA6 : Hid (cv (mvl (.slice (some ⟨g, off, none⟩) n c) ve m) 0 6 = rgl (.slice (some ⟨g, off, none⟩) n c) m.c) := cv_c _ _ _
  have HL7 : Hid (6 + 6 ≤ (mvl (.slice (some ⟨g, off, none⟩) n c) ve m).length) := by show _ ≤ _; rw [hi.vs.len]; omega
  have HA7 : Hid (cv (mvl (.slice (some ⟨g, off, none⟩) n c) ve m) 6 6 = rgl ve m.e) := cv_e _ _ _
  have HL8 : Hid (12 + 594 ≤ (mvl (.slice (some ⟨g, off, none⟩) n c) ve m).length) := by show _ ≤ _; rw [hi.vs.len]; exact Nat.le_refl _
  have HA8 : Hid (cv (mvl (.slice (some ⟨g, off, none⟩) n c) ve m) 12 594 = ivs (fl m.B)) := cv_b _ _ hi.B
  have HZ : Hid (zl.length = 606) := zl_vs.len
  have HZR : Hid ((rgl nilS ring.zR).length = 6) := rfl
  have HZE : Hid ((ivs [0, 0, 0]).length = 3) := rfl
  have HGV : Hid (Vs (rgl (.slice (some ⟨g, off, none⟩) n c) m.c) 6) := rgl_vs (rcs_one hi.c)
  have HMA : Hid (∀ u, Below w.heap.size w u → Calls Try.prog 38 #[agv (mvl (.slice (some ⟨g, off, none⟩) n c) ve m)] u fun e w' => e = .returned (.bool (rtB m)) ∧ Below u.heap.size u w') := fun u hb => machine_any (.slice (some ⟨g, off, none⟩) n c) ve m u (hi.c.below hb) (hi.e.below hb) hi.B hi.wc hi.we
  have hm := atG_mem hR.c
  have hb := hi.wc _ hm
  have hcw : cwB (ring.atG m.c).1 = true := List.all_eq_true.1 hR.wc _ hm
  have HUP : Hid (∀ u, Calls Try.prog 12 #[.int .u64 xw] u fun e w' => e = .returned (.tuple #[agv (ivs [(upK xw).1, (upK xw).2.1, (upK xw).2.2.1, (upK xw).2.2.2]), .int .i64 0]) ∧ Below u.heap.size u w') := fun u => by
    have := unword_any (ring.atG m.c).1 u hb.1 hb.2
    unfold upV upC at this
    rw [if_pos hcw, if_pos hcw, hxw] at this
    exact this
  have HD : Hid (∀ u, Calls Try.prog 42 #[agv (ivs (fl m.B)), agv (ivs [(upK xw).1, (upK xw).2.1, (upK xw).2.2.1, (upK xw).2.2.2])] u fun r w' => r = .returned (.tuple #[agv (ivs (fl (dn m).B)), .int .i64 (dn m).c, .int .i64 (dn m).n]) ∧ Below u.heap.size u w') := fun u => by
    have := slots.done_any m.B (upK xw).1 (upK xw).2.1 (upK xw).2.2.1 (upK xw).2.2.2 u hi.B
    rw [← hxw] at this ⊢
    exact this
  have k2 : ring.chk m.e = 0 := ring.chk_ok.2 hR.e
  have HP : Hid (∀ u, Below w.heap.size w u → Calls Try.prog 39 #[agv (rgl ve m.e), .int .u64 (evW (nev m))] u fun e w' => ∃ v', e = .returned (.tuple #[agv (rgl v' (ring.putV m.e (evW (nev m)))), .int .i64 0]) ∧ ring.Tel u v' (ring.putV m.e (evW (nev m))) w') := fun u hb => by
    have := ring.refPut_any ve m.e (evW (nev m)) u (hi.e.below hb)
    unfold ring.ptV ring.ptC at this
    rw [if_pos k2, if_pos k2, hp] at this
    exact this
  have hsm := hR.sm
  have hev : evW (nev m) = (dn m).c + 256 * (dn m).n + 65536 * (kk : Int) := by
    unfold evW nev
    simp only
    rw [hN.ga]
  have d1 := hsm.c0
  have d2 := hsm.c1
  have d3 := hsm.s0
  have d4 := hsm.s1
  have d1 : 0 ≤ (dn m).c := d1
  have d2 : (dn m).c < 256 := d2
  have d3 : 0 ≤ (dn m).n := d3
  have d4 : (dn m).n < 256 := d4
  have HWD : Hid (Wf (dn m).B) := slots.do_wf hi.B
  have HDB : Hid (Vs (ivs (fl (dn m).B)) 594) := ivs_vs HWD.out.length
  have HZC : Hid ((ivs [0, 0, 0, 0]).length = 4) := rfl
  have HZB : Hid ((ivs (fl slots.zB)).length = 594) := (ivs_vs slots.zB_wf.length).len
  have HX : Hid (Vs (ivs [(upK xw).1, (upK xw).2.1, (upK xw).2.2.1, (upK xw).2.2.2]) 4) := ivs_vs rfl
  have HLX : Hid (0 + 4 ≤ (ivs [(upK xw).1, (upK xw).2.1, (upK xw).2.2.1, (upK xw).2.2.2]).length) := Nat.le_refl _
  have HAX : Hid (cv (ivs [(upK xw).1, (upK xw).2.1, (upK xw).2.2.1, (upK xw).2.2.2]) 0 4 = ivs [(upK xw).1, (upK xw).2.1, (upK xw).2.2.1, (upK xw).2.2.2]) := rfl
  have HST : Hid (stV m = ⟨ring.onG m.c, ring.putV m.e (evW (nev m)), (dn m).B⟩) := rfl
  have HGO : Hid (∀ u, Calls Try.prog 43 #[agv (mk2 (kk : Int) gb), .int .i64 ((n : Int) - 1)] u fun e w' => e = .returned (agv (mk2 (ring.onG m.c).ga (ring.onG m.c).gb)) ∧ Below u.heap.size u w') := fun u => by
    have h1 := hN.lt
    have := ring.goneOn_any n (kk : Int) gb u hN.n3 hN.n64 (by omega) (by omega) (by rw [← hgb]; exact hR.c.gb)
    have e1 : ring.on n (kk : Int) gb = ((ring.onG m.c).ga, (ring.onG m.c).gb) := by
      unfold ring.onG
      simp only
      rw [hN.nn, hN.ga, hgb]
    rw [e1] at this
    exact this
  have HCG : Hid (cv (rgl (.slice (some ⟨g, off, none⟩) n c) m.c) 3 2 = mk2 (kk : Int) gb) := by show _ = _; rw [← hN.ga, ← hgb]; rfl
  have HLG : Hid (3 + 2 ≤ (rgl (.slice (some ⟨g, off, none⟩) n c) m.c).length) := by show 3 + 2 ≤ 6; omega
  have HL9 : Hid (0 + 6 ≤ (rgl (.slice (some ⟨g, off, none⟩) n c) m.c).length) := Nat.le_refl _
  have HA9 : Hid (cv (rgl (.slice (some ⟨g, off, none⟩) n c) m.c) 0 6 = rgl (.slice (some ⟨g, off, none⟩) n c) m.c) := rfl
  have HPG : Hid (∀ y (R : Rg) (B : slots.Bd), ptv (mvl (.slice (some ⟨g, off, none⟩) n c) y ⟨m.c, R, B⟩) 3 (mk2 (ring.onG m.c).ga (ring.onG m.c).gb) = mvl (.slice (some ⟨g, off, none⟩) n c) y ⟨ring.onG m.c, R, B⟩) := fun y R B => rfl
  rw [HST.out]
  rw [hr] at HMA
  rw [hg] at hgt
  have hgt : (xb != gb) = false := hgt
  obtain ⟨W, hW⟩ : ∃ W, evW (nev m) = W := ⟨_, rfl⟩
  rw [hW] at HP hev ⊢
  clear hi hr hg hp hxw hxb hgb hN hR hm hb hcw k2 hsm hW HST
  generalize (dn m).c = dc at *
  generalize hdq : (dn m).n = dq at *
  generalize hdB : (dn m).B = dB at *
  clear hdq hdB
  obtain ⟨z1, hz1⟩ : ∃ z, 256 * dq = z := ⟨_, rfl⟩
  obtain ⟨z2, hz2⟩ : ∃ z, dc + z1 = z := ⟨_, rfl⟩
  obtain ⟨z3, hz3⟩ : ∃ z, 65536 * (kk : Int) = z := ⟨_, rfl⟩
  have hz4 : z2 + z3 = W := by omega
  have z1a : 0 ≤ z1 := by omega
  have z1b : z1 ≤ 65280 := by omega
  have z2a : 0 ≤ z2 := by omega
  have z2b : z2 ≤ 65535 := by omega
  have z3a : 0 ≤ z3 := by omega
  have z3b : z3 ≤ 4194304 := by omega
  have hW0 : 0 ≤ W := by omega
  have hW1 : W ≤ 4259840 := by omega
  have hwr : IntKind.u64.wrap W = W := by rw [IntKind.wrap_u64]; omega
  clear hev
  generalize ivs [(upK xw).1, (upK xw).2.1, (upK xw).2.2.1, (upK xw).2.2.2] = X at *
  generalize ring.putV m.e W = R at *
  obtain ⟨n1, hn1⟩ : ∃ n1 : Int, (n : Int) - 1 = n1 := ⟨_, rfl⟩
  rw [hn1] at HGO
  generalize hDF : ivs (fl dB) = DF at *
  have HDF : Hid (ivs (fl dB) = DF) := hDF
  have HDL : Hid (0 + 594 ≤ DF.length) := by show _ ≤ _; rw [HDB.out.len]; exact Nat.le_refl _
  have HDA : Hid (cv DF 0 594 = DF) := cv_all HDB.out.len
  generalize ivs (fl m.B) = MB at *
  clear hDF
  go_enter Try.func17, Try.ntmps17
  repeat' (first | (go_big_may; first | (refine v_box rfl rfl rfl ?_; intro u xm hN; replace hM := hM.new hN (by decide); clear hN) | (refine v_alloc rfl zer_mach rfl ?_; intro u xr hN; replace hM := hM.new hN (by decide); clear hN) | (refine v_load rfl rfl row_ring rfl hM.at1 HL6.out HA6.out ?_) | (refine v_alloc rfl zer_ring rfl ?_; intro u xg hN; replace hM := hM.new hN (by decide); clear hN) | (refine v_fill rfl rfl row_ring rfl rfl hM.at0 HGV.out HZR.out ?_; intro u hv hc; replace hM := hM.put0 hc hv; clear hv hc)) | go_values | go_skip | go_guarded | go_step | go_upon | (simp only [Int.not_lt, Int.not_le] at *; go_simp))
  go_simp
  refine wp_abs (fun a0 => a0.tmps.size = 86 ∧ (∀ h, a0.tmps[1]'h = .pointer (some ⟨xm, 0, none⟩)) ∧ (∀ h, a0.tmps[4]'h = .pointer (some ⟨xg, 0, none⟩))) ⟨rfl, fun _ => rfl, fun _ => rfl⟩ ?_
  rintro a0 ⟨hsz, s1, sg⟩ ha0
  obtain ⟨LL, hLL⟩ : ∃ LL : List Bk, [(xg, 35, rgl (.slice (some ⟨g, off, none⟩) n c) m.c), (xr, 43, zl), (xm, 43, mvl (.slice (some ⟨g, off, none⟩) n c) ve m)] = LL := ⟨_, rfl⟩
  rw [hLL] at hM
  refine wp_region_held (S := fun W => Mv w W LL [(false, (.slice (some ⟨g, off, none⟩) n c), m.c.C), (false, ve, m.e.C)]) (by kernel_rfl) ?_
  have hS0 := hM.drew
  refine h_take (i := 0) (agv (mvl (.slice (some ⟨g, off, none⟩) n c) ve m)) rfl (by kernel_rfl) (by kernel_rfl) (by kernel_rfl) (fun _ _ _ h => h) rfl hS0 (fun W hW => by
    rw [← hLL] at hW
    exact ex_loadv rfl row_mach (by simp [go_sem, Act.put, hsz, s1, sg]) hW.at2 HL0.out HA0.out) ?_
  refine h_call (i := 1) 38 #[agv (mvl (.slice (some ⟨g, off, none⟩) n c) ve m)] rfl (by kernel_rfl) rfl (by simp [execOp, go_sem, Act.put, hsz, s1, sg]) ((HMA.out _ hS0.below).mono ?_)
  rintro e u9 ⟨rfl, hb⟩
  have hS1 := hS0.call hb
  refine ⟨_, rfl, hS1, ?_⟩
  refine h_take (i := 2) (.bool false) rfl (by kernel_rfl) (by kernel_rfl) (by kernel_rfl) (fun _ _ _ h => h) rfl hS1 (fun W hW => by simp [execOp, go_sem, Act.put, hsz, s1, sg]) ?_
  refine h_take (i := 3) (.bool false) rfl (by kernel_rfl) (by kernel_rfl) (by kernel_rfl) (fun _ _ _ h => h) rfl hS1 (fun W hW => by simp [execOp, go_sem, Act.put, hsz, s1, sg]) ?_
  refine g_take (i := 4) (.pointer (some ⟨xg, 0, none⟩)) rfl (by kernel_rfl) (by kernel_rfl) (by kernel_rfl) (fun _ _ _ h => h) (wanted_of 3 false 18 rfl (by kernel_rfl) (by simp [Act.put, Array.getElem?_setIfInBounds, hsz])) hS1 (fun W hW => by simp [execOp, go_sem, Act.put, hsz, s1, sg]) ?_
  refine g_take (i := 5) (.slice (some ⟨g, off, none⟩) n c) rfl (by kernel_rfl) (by kernel_rfl) (by kernel_rfl) (fun _ _ _ h => h) (wanted_of 3 false 18 rfl (by kernel_rfl) (by simp [Act.put, Array.getElem?_setIfInBounds, hsz])) hS1 (fun W hW => by rw [← hLL] at hW; exact ex_getc rfl (.inr rfl) (by simp [go_sem, Act.put, hsz, s1, sg]) (bv_cell hW.at0 Q0.out)) ?_
  refine g_take (i := 6) (.pointer (some ⟨xg, 3, none⟩)) rfl (by kernel_rfl) (by kernel_rfl) (by kernel_rfl) (fun _ _ _ h => h) (wanted_of 3 false 18 rfl (by kernel_rfl) (by simp [Act.put, Array.getElem?_setIfInBounds, hsz])) hS1 (fun W hW => by simp [execOp, go_sem, Act.put, hsz, s1, sg]) ?_
  refine g_take (i := 7) (.pointer (some ⟨xg, 3, none⟩)) rfl (by kernel_rfl) (by kernel_rfl) (by kernel_rfl) (fun _ _ _ h => h) (wanted_of 3 false 18 rfl (by kernel_rfl) (by simp [Act.put, Array.getElem?_setIfInBounds, hsz])) hS1 (fun W hW => by simp [execOp, go_sem, Act.put, hsz, s1, sg]) ?_
  refine g_take (i := 8) (.int .i64 (kk : Int)) rfl (by kernel_rfl) (by kernel_rfl) (by kernel_rfl) (fun _ _ _ h => h) (wanted_of 3 false 18 rfl (by kernel_rfl) (by simp [Act.put, Array.getElem?_setIfInBounds, hsz])) hS1 (fun W hW => by rw [← hLL] at hW; exact ex_getc rfl (.inl rfl) (by simp [go_sem, Act.put, hsz, s1, sg]) (bv_cell hW.at0 Q3.out)) ?_
  refine g_take (i := 9) (.pointer (some ⟨g, off + kk * 3, none⟩)) rfl (by kernel_rfl) (by kernel_rfl) (by kernel_rfl) (fun _ _ _ h => h) (wanted_of 3 false 18 rfl (by kernel_rfl) (by simp [Act.put, Array.getElem?_setIfInBounds, hsz])) hS1 (fun W hW => by simp [execOp, go_sem, Act.put, hsz, s1, sg, hki, hkn]) ?_
  refine g_take (i := 10) (.pointer (some ⟨g, off + kk * 3 + 1, none⟩)) rfl (by kernel_rfl) (by kernel_rfl) (by kernel_rfl) (fun _ _ _ h => h) (wanted_of 3 false 18 rfl (by kernel_rfl) (by simp [Act.put, Array.getElem?_setIfInBounds, hsz])) hS1 (fun W hW => by simp [execOp, go_sem, Act.put, hsz, s1, sg]) ?_
  refine g_take (i := 11) (.int .i64 xb) rfl (by kernel_rfl) (by kernel_rfl) (by kernel_rfl) (fun _ _ _ h => h) (wanted_of 3 false 18 rfl (by kernel_rfl) (by simp [Act.put, Array.getElem?_setIfInBounds, hsz])) hS1 (fun W hW => by exact ex_getc rfl (.inl rfl) (by simp [go_sem, Act.put, hsz, s1, sg]) (HCL.out W hW.below).2) ?_
  refine g_take (i := 12) (.pointer (some ⟨xg, 3, none⟩)) rfl (by kernel_rfl) (by kernel_rfl) (by kernel_rfl) (fun _ _ _ h => h) (wanted_of 3 false 18 rfl (by kernel_rfl) (by simp [Act.put, Array.getElem?_setIfInBounds, hsz])) hS1 (fun W hW => by simp [execOp, go_sem, Act.put, hsz, s1, sg]) ?_
  refine g_take (i := 13) (.pointer (some ⟨xg, 4, none⟩)) rfl (by kernel_rfl) (by kernel_rfl) (by kernel_rfl) (fun _ _ _ h => h) (wanted_of 3 false 18 rfl (by kernel_rfl) (by simp [Act.put, Array.getElem?_setIfInBounds, hsz])) hS1 (fun W hW => by simp [execOp, go_sem, Act.put, hsz, s1, sg]) ?_
  refine g_take (i := 14) (.int .i64 gb) rfl (by kernel_rfl) (by kernel_rfl) (by kernel_rfl) (fun _ _ _ h => h) (wanted_of 3 false 18 rfl (by kernel_rfl) (by simp [Act.put, Array.getElem?_setIfInBounds, hsz])) hS1 (fun W hW => by rw [← hLL] at hW; exact ex_getc rfl (.inl rfl) (by simp [go_sem, Act.put, hsz, s1, sg]) (bv_cell hW.at0 Q4.out)) ?_
  refine g_take (i := 15) (.bool (xb != gb)) rfl (by kernel_rfl) (by kernel_rfl) (by kernel_rfl) (fun _ _ _ h => h) (wanted_of 3 false 18 rfl (by kernel_rfl) (by simp [Act.put, Array.getElem?_setIfInBounds, hsz])) hS1 (fun W hW => by simp [execOp, go_sem, Act.put, hsz, s1, sg]) ?_
  refine h_take (i := 16) (.bool (xb != gb)) rfl (by kernel_rfl) (by kernel_rfl) (by kernel_rfl) (fun _ _ _ h => h) rfl hS1 (fun W hW => by simp [execOp, go_sem, Act.put, hsz, s1, sg]) ?_
  refine wpAnyH_done (by kernel_rfl) ?_ _
  subst ha0
  clear hsz s1 sg hS0 hM
  have hM := hS1
  rw [← hLL] at hM
  clear hS1 hLL hb
  go_simp
  repeat' (first | (go_big_may; first | (refine v_get rfl rfl (.inr rfl) rfl hM.at0 Q0.out ?_) | (refine v_get rfl rfl (.inl rfl) rfl hM.at0 Q3.out ?_) | (refine v_getC rfl rfl (.inr rfl) rfl (HCL.out _ hM.below).1 ?_)) | go_values | go_skip | go_guarded | go_step | go_upon | (simp only [Int.not_lt, Int.not_le] at *; go_simp))
  refine (HUP.out _).mono ?_
  rintro r u2 ⟨rfl, hv⟩
  replace hM := hM.call hv
  clear hv
  repeat' (first | (go_big_may; first | (refine v_alloc rfl zer_cmd rfl ?_; intro u xc hN; replace hM := hM.new hN (by decide); clear hN) | (refine v_fill rfl rfl row_cmd rfl rfl hM.at0 HX.out HZC.out ?_; intro u hv hc; replace hM := hM.put0 hc hv; clear hv hc) | (refine v_load rfl rfl row_board rfl hM.at3 HL8.out HA8.out ?_) | (refine v_load rfl rfl row_cmd rfl hM.at0 HLX.out HAX.out ?_)) | go_values | go_skip | go_guarded | go_step | go_upon | (simp only [Int.not_lt, Int.not_le] at *; go_simp))
  refine (HD.out _).mono ?_
  rintro r u3 ⟨rfl, hv⟩
  replace hM := hM.call hv
  clear hv
  repeat' (first | (go_big_may; first | (refine v_alloc rfl zer_board rfl ?_; intro u xb' hN; replace hM := hM.new hN (by decide); clear hN) | (refine v_fill rfl rfl row_board rfl rfl hM.at0 HDB.out HZB.out ?_; intro u hv hc; replace hM := hM.put0 hc hv; clear hv hc) | (refine v_load rfl rfl row_ring rfl hM.at4 HL7.out HA7.out ?_) | (refine v_get rfl rfl (.inl rfl) rfl hM.at2 Q3.out ?_)) | go_values | go_skip | go_guarded | go_step | go_upon | (simp only [Int.not_lt, Int.not_le] at *; go_simp))
  refine (HP.out _ hM.below).mono ?_
  rintro r u4 ⟨v3, rfl, ht⟩
  have H4 : Hid (Vs (rgl v3 R) 6) := rgl_vs (rcs_one ht.1.rcs)
  replace hM := hM.tel ht.1 ht.2
  clear ht
  have HL4 : Hid (0 + 6 ≤ (rgl v3 R).length) := Nat.le_refl _
  have HA4 : Hid (cv (rgl v3 R) 0 6 = rgl v3 R) := rfl
  have H5 : Hid (Vs (mvl (.slice (some ⟨g, off, none⟩) n c) v3 ⟨m.c, R, dB⟩) 606) := mvl_vs rfl (rcs_one (hM.read (b := true) (x := v3) (C := R.C) (by simp))) HWD.out
  have H6 : Hid (Vs (mvl (.slice (some ⟨g, off, none⟩) n c) v3 ⟨ring.onG m.c, R, dB⟩) 606) := mvl_vs rfl (rcs_one (hM.read (b := true) (x := v3) (C := R.C) (by simp))) HWD.out
  have hbm : ∀ w, (Instr.build 43 #[(0, agv (rgl (.slice (some ⟨g, off, none⟩) n c) m.c)), (1, agv (rgl v3 R)), (2, agv DF)]).run Try.prog w = .ok (agv (mvl (.slice (some ⟨g, off, none⟩) n c) v3 ⟨m.c, R, dB⟩)) w := fun w => by
    have := bld_m HGV.out H4.out HDB.out w
    rw [← HDF.out] at this ⊢
    exact this
  have HLP : Hid (3 + 2 ≤ (mvl (.slice (some ⟨g, off, none⟩) n c) v3 ⟨m.c, R, dB⟩).length) := by show _ ≤ _; rw [H5.out.len]; omega
  have HPP : Hid (ptv (mvl (.slice (some ⟨g, off, none⟩) n c) v3 ⟨m.c, R, dB⟩) 3 (mk2 (ring.onG m.c).ga (ring.onG m.c).gb) = mvl (.slice (some ⟨g, off, none⟩) n c) v3 ⟨ring.onG m.c, R, dB⟩) := HPG.out v3 R dB
  have HL6' : Hid (0 + 606 ≤ (mvl (.slice (some ⟨g, off, none⟩) n c) v3 ⟨ring.onG m.c, R, dB⟩).length) := by show _ ≤ _; rw [H6.out.len]; exact Nat.le_refl _
  have HA6' : Hid (cv (mvl (.slice (some ⟨g, off, none⟩) n c) v3 ⟨ring.onG m.c, R, dB⟩) 0 606 = mvl (.slice (some ⟨g, off, none⟩) n c) v3 ⟨ring.onG m.c, R, dB⟩) := cv_all H6.out.len
  have HMK : Hid (Vs (mk2 (ring.onG m.c).ga (ring.onG m.c).gb) 2) := mk2_vs _ _
  clear HPG
  repeat' (first | (go_big_may; first | (refine v_alloc rfl zer_ring rfl ?_; intro u xe hN; replace hM := hM.new hN (by decide); clear hN) | (refine v_fill rfl rfl row_ring rfl rfl hM.at0 H4.out HZR.out ?_; intro u hv hc; replace hM := hM.put0 hc hv; clear hv hc) | (refine v_load rfl rfl row_ring rfl hM.at3 HL9.out HA9.out ?_) | (refine v_load rfl rfl row_ring rfl hM.at0 HL4.out HA4.out ?_) | (refine v_load rfl rfl row_board rfl hM.at1 HDL.out HDA.out ?_) | (refine v_build rfl rfl hbm ?hbv ?_; (case hbv => simp [Act.eval, Act.put])) | (refine v_alloc rfl zer_mach rfl ?_; intro u xo hN; replace hM := hM.new hN (by decide); clear hN) | (refine v_fill rfl rfl row_mach rfl rfl hM.at0 H5.out HZ.out ?_; intro u hv hc; replace hM := hM.put0 hc hv; clear hv hc) | (refine v_load rfl rfl row_mk rfl hM.at4 HLG.out HCG.out ?_) | (refine v_get rfl rfl (.inr rfl) rfl hM.at4 Q0.out ?_)) | go_values | go_skip | go_guarded | go_step | go_upon | (simp only [Int.not_lt, Int.not_le] at *; go_simp))
  refine (HGO.out _).mono ?_
  rintro r u5 ⟨rfl, hv⟩
  replace hM := hM.call hv
  clear hv
  repeat' (first | (go_big_may; first | (refine v_store rfl rfl row_mk rfl rfl hM.at0 HMK.out HLP.out HPP.out ?_; intro u hv hc; replace hM := hM.put0 hc hv; clear hv hc) | (refine v_load rfl rfl row_mach rfl hM.at0 HL6'.out HA6'.out ?_) | (refine v_fill rfl rfl row_mach rfl rfl hM.at5 H6.out HZ.out ?_; intro u hv hc; replace hM := hM.put5 hc hv; clear hv hc)) | go_values | go_skip | go_guarded | go_step | go_upon | (simp only [Int.not_lt, Int.not_le] at *; go_simp))
  exact bodyPost_ret (slots.ret_2 Try.results17 rfl (ld_var row_mach hM.at5 H6.out.len) rfl) rfl ⟨_, rfl, hM.mine (by simp), hM.below⟩
end Go.Proofs.Ythjmcopknkemnaa.host
