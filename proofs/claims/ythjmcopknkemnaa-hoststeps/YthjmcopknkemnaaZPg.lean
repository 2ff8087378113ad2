/- host, the document's answer: what Reaped answers. -/
import Derived.Test.YthjmcopknkemnaaZPf
import Derived.Test.YthjmcopknkemnaaHstE
import Derived.Test.YthjmcopknkemnaaHstK
import Derived.Test.YthjmcopknkemnaaRngO
import Derived.Test.YthjmcopknkemnaaZPb
namespace Go.Proofs.Ythjmcopknkemnaa.host
open Go Go.RowKit
open Go.Proofs.Ythjmcopknkemnaa
open Go.Proofs.Ythjmcopknkemnaa.slots (Row row_board row_cmd Chg ag fl Wf bsq)
open Go.Proofs.Ythjmcopknkemnaa.ring (Ces Rcs rgV rgW Rg Ce ceV named keep below_drewN wp_abs h_take h_call h_value h_skip g_take g_pass wanted_of unwanted_of)
set_option linter.unusedVariables false
set_option linter.unusedSimpArgs false
set_option maxRecDepth 100000

theorem bld_mk (x : Int) (w : World) : (Instr.build 33 #[(0, .int .i64 x)]).run Try.prog w = .ok (agv (mk2 x 0)) w := by kernel_rfl
theorem fld_mk (x y : Int) (w : World) : (Instr.field 33 (agv (mk2 x y)) 0).run Try.prog w = .ok (.int .i64 x) w := by kernel_rfl
set_option maxHeartbeats 4000000 in
theorem reaped_no1 (vc ve : Value) (m : Mc) (w : World) (hi : In w vc ve m) (hr : rtB m = false) : Calls Try.prog 19 #[agv (mvl vc ve m)] w fun e w' => e = .returned (.tuple #[agv (mvl vc ve m), agv (ivs [0, 0, 0]), .bool false]) ∧ Below w.heap.size w w' := by
  have hM : Mv w w [] [(false, vc, m.c.C), (false, ve, m.e.C)] := ((Mv.nil w).old hi.e).old hi.c
  have HV : Hid (Vs (mvl vc ve m) 606) := hi.vs
  have HL0 : Hid (0 + 606 ≤ (mvl vc ve m).length) := by show _ ≤ _; rw [hi.vs.len]; exact Nat.le_refl _
  have HA0 : Hid (cv (mvl vc ve m) 0 606 = mvl vc ve m) := cv_all hi.vs.len
  have HL6 : Hid (0 + 6 ≤ (mvl vc ve m).length) := by show _ ≤ _; rw [hi.vs.len]; omega
  have HA6 : Hid (cv (mvl vc ve m) 0 6 = rgl vc m.c) := cv_c _ _ _
  have HL7 : Hid (6 + 6 ≤ (mvl vc ve m).length) := by show _ ≤ _; rw [hi.vs.len]; omega
  have HA7 : Hid (cv (mvl vc ve m) 6 6 = rgl ve m.e) := cv_e _ _ _
  have HL8 : Hid (12 + 594 ≤ (mvl vc ve m).length) := by show _ ≤ _; rw [hi.vs.len]; exact Nat.le_refl _
  have HA8 : Hid (cv (mvl vc ve m) 12 594 = ivs (fl m.B)) := cv_b _ _ hi.B
  have HZ : Hid (zl.length = 606) := zl_vs.len
  have HZR : Hid ((rgl nilS ring.zR).length = 6) := rfl
  have HZE : Hid ((ivs [0, 0, 0]).length = 3) := rfl
  have HGV : Hid (Vs (rgl ve m.e) 6) := rgl_vs (rcs_one hi.e)
  have HMA : Hid (∀ u, Below w.heap.size w u → Calls Try.prog 38 #[agv (mvl vc ve m)] u fun e w' => e = .returned (.bool (rtB m)) ∧ Below u.heap.size u w') := fun u hb => machine_any vc ve m u (hi.c.below hb) (hi.e.below hb) hi.B hi.wc hi.we
  have hb0 := bld_e0
  have HZV : Hid (Vs (ivs [0, 0, 0]) 3) := ivs_vs rfl
  rw [hr] at HMA
  clear hi hr
  go_enter Try.func19, Try.ntmps19
  repeat' (first | (go_big_may; first | (refine v_box rfl rfl rfl ?_; intro u xm hN; replace hM := hM.new hN (by decide); clear hN) | (refine v_alloc rfl zer_mach rfl ?_; intro u xr hN; replace hM := hM.new hN (by decide); clear hN) | (refine v_alloc rfl zer_event rfl ?_; intro u xv hN; replace hM := hM.new hN (by decide); clear hN) | (refine v_load rfl rfl row_ring rfl hM.at2 HL7.out HA7.out ?_) | (refine v_alloc rfl zer_ring rfl ?_; intro u xg hN; replace hM := hM.new hN (by decide); clear hN) | (refine v_fill rfl rfl row_ring rfl rfl hM.at0 HGV.out HZR.out ?_; intro u hv hc; replace hM := hM.put0 hc hv; clear hv hc)) | go_values | go_skip | go_guarded | go_step | go_upon | (simp only [Int.not_lt, Int.not_le] at *; go_simp))
  go_simp
  refine wp_abs (fun a0 => a0.tmps.size = 82 ∧ (∀ h, a0.tmps[1]'h = .pointer (some ⟨xm, 0, none⟩)) ∧ (∀ h, a0.tmps[5]'h = .pointer (some ⟨xg, 0, none⟩))) ⟨rfl, fun _ => rfl, fun _ => rfl⟩ ?_
  rintro a0 ⟨hsz, s1, sg⟩ ha0
  obtain ⟨LL, hLL⟩ : ∃ LL : List Bk, [(xg, 35, rgl ve m.e), (xv, 52, ivs [0, 0, 0]), (xr, 43, zl), (xm, 43, mvl vc ve m)] = LL := ⟨_, rfl⟩
  rw [hLL] at hM
  refine wp_region_held (S := fun W => Mv w W LL [(false, vc, m.c.C), (false, ve, m.e.C)]) (by kernel_rfl) ?_
  have hS0 := hM.drew
  refine h_take (i := 0) (agv (mvl vc ve m)) rfl (by kernel_rfl) (by kernel_rfl) (by kernel_rfl) (fun _ _ _ h => h) rfl hS0 (fun W hW => by
    rw [← hLL] at hW
    exact ex_loadv rfl row_mach (by simp [go_sem, Act.put, hsz, s1, sg]) hW.at3 HL0.out HA0.out) ?_
  refine h_call (i := 1) 38 #[agv (mvl vc ve m)] rfl (by kernel_rfl) rfl (by simp [execOp, go_sem, Act.put, hsz, s1, sg]) ((HMA.out _ hS0.below).mono ?_)
  rintro e u9 ⟨rfl, hb⟩
  have hS1 := hS0.call hb
  refine ⟨_, rfl, hS1, ?_⟩
  refine h_take (i := 2) (.bool true) rfl (by kernel_rfl) (by kernel_rfl) (by kernel_rfl) (fun _ _ _ h => h) rfl hS1 (fun W hW => by simp [execOp, go_sem, Act.put, hsz, s1, sg]) ?_
  refine h_take (i := 3) (.bool true) rfl (by kernel_rfl) (by kernel_rfl) (by kernel_rfl) (fun _ _ _ h => h) rfl hS1 (fun W hW => by simp [execOp, go_sem, Act.put, hsz, s1, sg]) ?_
  refine g_pass (i := 4) rfl (by kernel_rfl) (by kernel_rfl) (by kernel_rfl) (fun _ _ _ h => h) (unwanted_of 3 false 13 rfl (by kernel_rfl) (by simp [Act.put, Array.getElem?_setIfInBounds, hsz])) hS1 ?_
  refine g_pass (i := 5) rfl (by kernel_rfl) (by kernel_rfl) (by kernel_rfl) (fun _ _ _ h => h) (unwanted_of 3 false 13 rfl (by kernel_rfl) (by simp [Act.put, Array.getElem?_setIfInBounds, hsz])) hS1 ?_
  refine g_pass (i := 6) rfl (by kernel_rfl) (by kernel_rfl) (by kernel_rfl) (fun _ _ _ h => h) (unwanted_of 3 false 13 rfl (by kernel_rfl) (by simp [Act.put, Array.getElem?_setIfInBounds, hsz])) hS1 ?_
  refine g_pass (i := 7) rfl (by kernel_rfl) (by kernel_rfl) (by kernel_rfl) (fun _ _ _ h => h) (unwanted_of 3 false 13 rfl (by kernel_rfl) (by simp [Act.put, Array.getElem?_setIfInBounds, hsz])) hS1 ?_
  refine g_pass (i := 8) rfl (by kernel_rfl) (by kernel_rfl) (by kernel_rfl) (fun _ _ _ h => h) (unwanted_of 3 false 13 rfl (by kernel_rfl) (by simp [Act.put, Array.getElem?_setIfInBounds, hsz])) hS1 ?_
  refine g_pass (i := 9) rfl (by kernel_rfl) (by kernel_rfl) (by kernel_rfl) (fun _ _ _ h => h) (unwanted_of 3 false 13 rfl (by kernel_rfl) (by simp [Act.put, Array.getElem?_setIfInBounds, hsz])) hS1 ?_
  refine g_pass (i := 10) rfl (by kernel_rfl) (by kernel_rfl) (by kernel_rfl) (fun _ _ _ h => h) (unwanted_of 3 false 13 rfl (by kernel_rfl) (by simp [Act.put, Array.getElem?_setIfInBounds, hsz])) hS1 ?_
  refine g_pass (i := 11) rfl (by kernel_rfl) (by kernel_rfl) (by kernel_rfl) (fun _ _ _ h => h) (unwanted_of 3 false 13 rfl (by kernel_rfl) (by simp [Act.put, Array.getElem?_setIfInBounds, hsz])) hS1 ?_
  refine g_pass (i := 12) rfl (by kernel_rfl) (by kernel_rfl) (by kernel_rfl) (fun _ _ _ h => h) (unwanted_of 3 false 13 rfl (by kernel_rfl) (by simp [Act.put, Array.getElem?_setIfInBounds, hsz])) hS1 ?_
  refine g_pass (i := 13) rfl (by kernel_rfl) (by kernel_rfl) (by kernel_rfl) (fun _ _ _ h => h) (unwanted_of 3 false 13 rfl (by kernel_rfl) (by simp [Act.put, Array.getElem?_setIfInBounds, hsz])) hS1 ?_
  refine g_pass (i := 14) rfl (by kernel_rfl) (by kernel_rfl) (by kernel_rfl) (fun _ _ _ h => h) (unwanted_of 3 false 13 rfl (by kernel_rfl) (by simp [Act.put, Array.getElem?_setIfInBounds, hsz])) hS1 ?_
  refine g_pass (i := 15) rfl (by kernel_rfl) (by kernel_rfl) (by kernel_rfl) (fun _ _ _ h => h) (unwanted_of 3 false 13 rfl (by kernel_rfl) (by simp [Act.put, Array.getElem?_setIfInBounds, hsz])) hS1 ?_
  refine h_take (i := 16) (.bool true) rfl (by kernel_rfl) (by kernel_rfl) (by kernel_rfl) (fun _ _ _ h => h) rfl hS1 (fun W hW => by simp [execOp, go_sem, Act.put, hsz, s1, sg]) ?_
  refine wpAnyH_done (by kernel_rfl) ?_ _
  subst ha0
  clear hsz s1 sg hS0 hM
  have hM := hS1
  rw [← hLL] at hM
  clear hS1 hLL hb
  go_simp
  repeat' (first | (go_big_may; first | (refine v_load rfl rfl row_mach rfl hM.at3 HL0.out HA0.out ?_) | (refine v_build rfl rfl hb0 ?hbv ?_; (case hbv => simp [Act.eval, Act.put])) | (refine v_fill rfl rfl row_mach rfl rfl hM.at2 HV.out HZ.out ?_; intro u hv hc; replace hM := hM.put2 hc hv; clear hv hc) | (refine v_fill rfl rfl row_event rfl rfl hM.at1 HZV.out HZE.out ?_; intro u hv hc; replace hM := hM.put1 hc hv; clear hv hc)) | go_values | go_skip | go_guarded | go_step | go_upon | (simp only [Int.not_lt, Int.not_le] at *; go_simp))
  exact bodyPost_ret (ret_cct Try.results19 rfl (ld_var row_mach hM.at2 HV.out.len) rfl (ld_var row_event hM.at1 HZE.out) rfl) rfl ⟨rfl, hM.below⟩
set_option maxHeartbeats 4000000 in
theorem reaped_no2 (vc ve : Value) (m : Mc) (w : World) (hi : In w vc ve m) (hr : rtB m = true) (hg : ring.getB m.e = false) : Calls Try.prog 19 #[agv (mvl vc ve m)] w fun e w' => e = .returned (.tuple #[agv (mvl vc ve m), agv (ivs [0, 0, 0]), .bool false]) ∧ Below w.heap.size w w' := by
  obtain ⟨kk, n, c, g, off, hN⟩ := nx_of hi.e (rt_iff.1 hr).e
  have HN : Hid (Nx w ve m.e kk n c g off) := hN
  have hv := hN.vv
  subst hv
  obtain ⟨xw, hxw⟩ : ∃ y, (ring.atG m.e).1 = y := ⟨_, rfl⟩
  obtain ⟨xb, hxb⟩ : ∃ y, (ring.atG m.e).2.1 = y := ⟨_, rfl⟩
  obtain ⟨gb, hgb⟩ : ∃ y, m.e.gb = y := ⟨_, rfl⟩
  have HCL : Hid (∀ u, Below w.heap.size w u → u.cell? ⟨g, off + kk * 3, none⟩ = some (.int .u64 xw) ∧ u.cell? ⟨g, off + kk * 3 + 1, none⟩ = some (.int .i64 xb)) := by rw [← hxw, ← hxb]; exact hN.cell
  have Q0 : Hid ((rgl (.slice (some ⟨g, off, none⟩) n c) m.e)[0]? = some (.slice (some ⟨g, off, none⟩) n c)) := rfl
  have Q3 : Hid ((rgl (.slice (some ⟨g, off, none⟩) n c) m.e)[3]? = some (.int .i64 (kk : Int))) := by show _ = _; rw [← hN.ga]; rfl
  have Q4 : Hid ((rgl (.slice (some ⟨g, off, none⟩) n c) m.e)[4]? = some (.int .i64 gb)) := by show _ = _; rw [← hgb]; rfl
  have hkn : kk < n := by have := hN.lt; omega
  have hki : (kk : Int) < (n : Int) := by omega
  have hn64 : n ≤ 64 := hN.n64
  have hn3 : 3 ≤ n := hN.n3
  have hnc := hN.c1
  have hcm := hN.c2
  have hgt : (xb != gb) = !ring.getB m.e := by rw [← hxb, ← hgb]; rfl
  have hM : Mv w w [] [(false, vc, m.c.C), (false, (.slice (some ⟨g, off, none⟩) n c), m.e.C)] := ((Mv.nil w).old hi.e).old hi.c
  have HV : Hid (Vs (mvl vc (.slice (some ⟨g, off, none⟩) n c) m) 606) := hi.vs
  have HL0 : Hid (0 + 606 ≤ (mvl vc (.slice (some ⟨g, off, none⟩) n c) m).length) := by show _ ≤ _; rw [hi.vs.len]; exact Nat.le_refl _
  have HA0 : Hid (cv (mvl vc (.slice (some ⟨g, off, none⟩) n c) m) 0 606 = mvl vc (.slice (some ⟨g, off, none⟩) n c) m) := cv_all hi.vs.len
  have HL6 : Hid (0 + 6 ≤ (mvl vc (.slice (some ⟨g, off, none⟩) n c) m).length) := by show _ ≤ _; rw [hi.vs.len]; omega
  have HA6 : Hid (cv (mvl vc (.slice (some ⟨g, off, none⟩) n c) m) 0 6 = rgl vc m.c) := cv_c _ _ _
  have HL7 : Hid (6 + 6 ≤ (mvl vc (.slice (some ⟨g, off, none⟩) n c) m).length) := by show _ ≤ _; rw [hi.vs.len]; omega
  have HA7 : Hid (cv (mvl vc (.slice (some ⟨g, off, none⟩) n c) m) 6 6 = rgl (.slice (some ⟨g, off, none⟩) n c) m.e) := cv_e _ _ _
  have HL8 : Hid (12 + 594 ≤ (mvl vc (.slice (some ⟨g, off, none⟩) n c) m).length) := by show _ ≤ _; rw [hi.vs.len]; exact Nat.le_refl _
  have HA8 : Hid (cv (mvl vc (.slice (some ⟨g, off, none⟩) n c) m) 12 594 = ivs (fl m.B)) := cv_b _ _ hi.B
  have HZ : Hid (zl.length = 606) := zl_vs.len
  have HZR : Hid ((rgl nilS ring.zR).length = 6) := rfl
  have HZE : Hid ((ivs [0, 0, 0]).length = 3) := rfl
  have HGV : Hid (Vs (rgl (.slice (some ⟨g, off, none⟩) n c) m.e) 6) := rgl_vs (rcs_one hi.e)
  have HMA : Hid (∀ u, Below w.heap.size w u → Calls Try.prog 38 #[agv (mvl vc (.slice (some ⟨g, off, none⟩) n c) m)] u fun e w' => e = .returned (.bool (rtB m)) ∧ Below u.heap.size u w') := fun u hb => machine_any vc (.slice (some ⟨g, off, none⟩) n c) m u (hi.c.below hb) (hi.e.below hb) hi.B hi.wc hi.we
  have hb0 := bld_e0
  have HZV : Hid (Vs (ivs [0, 0, 0]) 3) := ivs_vs rfl
  rw [hr] at HMA
  rw [hg] at hgt
  have hgt : (xb != gb) = true := hgt
  clear hi hr hg hxw hxb hgb hN
  go_enter Try.func19, Try.ntmps19
  repeat' (first | (go_big_may; first | (refine v_box rfl rfl rfl ?_; intro u xm hN; replace hM := hM.new hN (by decide); clear hN) | (refine v_alloc rfl zer_mach rfl ?_; intro u xr hN; replace hM := hM.new hN (by decide); clear hN) | (refine v_alloc rfl zer_event rfl ?_; intro u xv hN; replace hM := hM.new hN (by decide); clear hN) | (refine v_load rfl rfl row_ring rfl hM.at2 HL7.out HA7.out ?_) | (refine v_alloc rfl zer_ring rfl ?_; intro u xg hN; replace hM := hM.new hN (by decide); clear hN) | (refine v_fill rfl rfl row_ring rfl rfl hM.at0 HGV.out HZR.out ?_; intro u hv hc; replace hM := hM.put0 hc hv; clear hv hc)) | go_values | go_skip | go_guarded | go_step | go_upon | (simp only [Int.not_lt, Int.not_le] at *; go_simp))
  go_simp
  refine wp_abs (fun a0 => a0.tmps.size = 82 ∧ (∀ h, a0.tmps[1]'h = .pointer (some ⟨xm, 0, none⟩)) ∧ (∀ h, a0.tmps[5]'h = .pointer (some ⟨xg, 0, none⟩))) ⟨rfl, fun _ => rfl, fun _ => rfl⟩ ?_
  rintro a0 ⟨hsz, s1, sg⟩ ha0
  obtain ⟨LL, hLL⟩ : ∃ LL : List Bk, [(xg, 35, rgl (.slice (some ⟨g, off, none⟩) n c) m.e), (xv, 52, ivs [0, 0, 0]), (xr, 43, zl), (xm, 43, mvl vc (.slice (some ⟨g, off, none⟩) n c) m)] = LL := ⟨_, rfl⟩
  rw [hLL] at hM
  refine wp_region_held (S := fun W => Mv w W LL [(false, vc, m.c.C), (false, (.slice (some ⟨g, off, none⟩) n c), m.e.C)]) (by kernel_rfl) ?_
  have hS0 := hM.drew
  refine h_take (i := 0) (agv (mvl vc (.slice (some ⟨g, off, none⟩) n c) m)) rfl (by kernel_rfl) (by kernel_rfl) (by kernel_rfl) (fun _ _ _ h => h) rfl hS0 (fun W hW => by
    rw [← hLL] at hW
    exact ex_loadv rfl row_mach (by simp [go_sem, Act.put, hsz, s1, sg]) hW.at3 HL0.out HA0.out) ?_
  refine h_call (i := 1) 38 #[agv (mvl vc (.slice (some ⟨g, off, none⟩) n c) m)] rfl (by kernel_rfl) rfl (by simp [execOp, go_sem, Act.put, hsz, s1, sg]) ((HMA.out _ hS0.below).mono ?_)
  rintro e u9 ⟨rfl, hb⟩
  have hS1 := hS0.call hb
  refine ⟨_, rfl, hS1, ?_⟩
  refine h_take (i := 2) (.bool false) rfl (by kernel_rfl) (by kernel_rfl) (by kernel_rfl) (fun _ _ _ h => h) rfl hS1 (fun W hW => by simp [execOp, go_sem, Act.put, hsz, s1, sg]) ?_
  refine h_take (i := 3) (.bool false) rfl (by kernel_rfl) (by kernel_rfl) (by kernel_rfl) (fun _ _ _ h => h) rfl hS1 (fun W hW => by simp [execOp, go_sem, Act.put, hsz, s1, sg]) ?_
  refine g_take (i := 4) (.pointer (some ⟨xg, 0, none⟩)) rfl (by kernel_rfl) (by kernel_rfl) (by kernel_rfl) (fun _ _ _ h => h) (wanted_of 3 false 13 rfl (by kernel_rfl) (by simp [Act.put, Array.getElem?_setIfInBounds, hsz])) hS1 (fun W hW => by simp [execOp, go_sem, Act.put, hsz, s1, sg]) ?_
  refine g_take (i := 5) (.slice (some ⟨g, off, none⟩) n c) rfl (by kernel_rfl) (by kernel_rfl) (by kernel_rfl) (fun _ _ _ h => h) (wanted_of 3 false 13 rfl (by kernel_rfl) (by simp [Act.put, Array.getElem?_setIfInBounds, hsz])) hS1 (fun W hW => by rw [← hLL] at hW; exact ex_getc rfl (.inr rfl) (by simp [go_sem, Act.put, hsz, s1, sg]) (bv_cell hW.at0 Q0.out)) ?_
  refine g_take (i := 6) (.pointer (some ⟨xg, 3, none⟩)) rfl (by kernel_rfl) (by kernel_rfl) (by kernel_rfl) (fun _ _ _ h => h) (wanted_of 3 false 13 rfl (by kernel_rfl) (by simp [Act.put, Array.getElem?_setIfInBounds, hsz])) hS1 (fun W hW => by simp [execOp, go_sem, Act.put, hsz, s1, sg]) ?_
  refine g_take (i := 7) (.pointer (some ⟨xg, 3, none⟩)) rfl (by kernel_rfl) (by kernel_rfl) (by kernel_rfl) (fun _ _ _ h => h) (wanted_of 3 false 13 rfl (by kernel_rfl) (by simp [Act.put, Array.getElem?_setIfInBounds, hsz])) hS1 (fun W hW => by simp [execOp, go_sem, Act.put, hsz, s1, sg]) ?_
  refine g_take (i := 8) (.int .i64 (kk : Int)) rfl (by kernel_rfl) (by kernel_rfl) (by kernel_rfl) (fun _ _ _ h => h) (wanted_of 3 false 13 rfl (by kernel_rfl) (by simp [Act.put, Array.getElem?_setIfInBounds, hsz])) hS1 (fun W hW => by rw [← hLL] at hW; exact ex_getc rfl (.inl rfl) (by simp [go_sem, Act.put, hsz, s1, sg]) (bv_cell hW.at0 Q3.out)) ?_
  refine g_take (i := 9) (.pointer (some ⟨g, off + kk * 3, none⟩)) rfl (by kernel_rfl) (by kernel_rfl) (by kernel_rfl) (fun _ _ _ h => h) (wanted_of 3 false 13 rfl (by kernel_rfl) (by simp [Act.put, Array.getElem?_setIfInBounds, hsz])) hS1 (fun W hW => by simp [execOp, go_sem, Act.put, hsz, s1, sg, hki, hkn]) ?_
  refine g_take (i := 10) (.pointer (some ⟨g, off + kk * 3 + 1, none⟩)) rfl (by kernel_rfl) (by kernel_rfl) (by kernel_rfl) (fun _ _ _ h => h) (wanted_of 3 false 13 rfl (by kernel_rfl) (by simp [Act.put, Array.getElem?_setIfInBounds, hsz])) hS1 (fun W hW => by simp [execOp, go_sem, Act.put, hsz, s1, sg]) ?_
  refine g_take (i := 11) (.int .i64 xb) rfl (by kernel_rfl) (by kernel_rfl) (by kernel_rfl) (fun _ _ _ h => h) (wanted_of 3 false 13 rfl (by kernel_rfl) (by simp [Act.put, Array.getElem?_setIfInBounds, hsz])) hS1 (fun W hW => by exact ex_getc rfl (.inl rfl) (by simp [go_sem, Act.put, hsz, s1, sg]) (HCL.out W hW.below).2) ?_
  refine g_take (i := 12) (.pointer (some ⟨xg, 3, none⟩)) rfl (by kernel_rfl) (by kernel_rfl) (by kernel_rfl) (fun _ _ _ h => h) (wanted_of 3 false 13 rfl (by kernel_rfl) (by simp [Act.put, Array.getElem?_setIfInBounds, hsz])) hS1 (fun W hW => by simp [execOp, go_sem, Act.put, hsz, s1, sg]) ?_
  refine g_take (i := 13) (.pointer (some ⟨xg, 4, none⟩)) rfl (by kernel_rfl) (by kernel_rfl) (by kernel_rfl) (fun _ _ _ h => h) (wanted_of 3 false 13 rfl (by kernel_rfl) (by simp [Act.put, Array.getElem?_setIfInBounds, hsz])) hS1 (fun W hW => by simp [execOp, go_sem, Act.put, hsz, s1, sg]) ?_
  refine g_take (i := 14) (.int .i64 gb) rfl (by kernel_rfl) (by kernel_rfl) (by kernel_rfl) (fun _ _ _ h => h) (wanted_of 3 false 13 rfl (by kernel_rfl) (by simp [Act.put, Array.getElem?_setIfInBounds, hsz])) hS1 (fun W hW => by rw [← hLL] at hW; exact ex_getc rfl (.inl rfl) (by simp [go_sem, Act.put, hsz, s1, sg]) (bv_cell hW.at0 Q4.out)) ?_
  refine g_take (i := 15) (.bool (xb != gb)) rfl (by kernel_rfl) (by kernel_rfl) (by kernel_rfl) (fun _ _ _ h => h) (wanted_of 3 false 13 rfl (by kernel_rfl) (by simp [Act.put, Array.getElem?_setIfInBounds, hsz])) hS1 (fun W hW => by simp [execOp, go_sem, Act.put, hsz, s1, sg]) ?_
  refine h_take (i := 16) (.bool (xb != gb)) rfl (by kernel_rfl) (by kernel_rfl) (by kernel_rfl) (fun _ _ _ h => h) rfl hS1 (fun W hW => by simp [execOp, go_sem, Act.put, hsz, s1, sg]) ?_
  refine wpAnyH_done (by kernel_rfl) ?_ _
  subst ha0
  clear hsz s1 sg hS0 hM
  have hM := hS1
  rw [← hLL] at hM
  clear hS1 hLL hb
  go_simp
  repeat' (first | (go_big_may; first | (refine v_load rfl rfl row_mach rfl hM.at3 HL0.out HA0.out ?_) | (refine v_build rfl rfl hb0 ?hbv ?_; (case hbv => simp [Act.eval, Act.put])) | (refine v_fill rfl rfl row_mach rfl rfl hM.at2 HV.out HZ.out ?_; intro u hv hc; replace hM := hM.put2 hc hv; clear hv hc) | (refine v_fill rfl rfl row_event rfl rfl hM.at1 HZV.out HZE.out ?_; intro u hv hc; replace hM := hM.put1 hc hv; clear hv hc)) | go_values | go_skip | go_guarded | go_step | go_upon | (simp only [Int.not_lt, Int.not_le] at *; go_simp))
  exact bodyPost_ret (ret_cct Try.results19 rfl (ld_var row_mach hM.at2 HV.out.len) rfl (ld_var row_event hM.at1 HZE.out) rfl) rfl ⟨rfl, hM.below⟩
set_option maxHeartbeats 8000000 in
theorem reaped_yes0 (vc ve : Value) (m : Mc) (w : World) (hi : In w vc ve m) (hr : rtB m = true) (hg : ring.getB m.e = true) (hpl : ring.plB m.c.C.length (rpE m).2.2 = false) : Calls Try.prog 19 #[agv (mvl vc ve m)] w fun e w' => e = .returned (.tuple #[agv (mvl vc ve (reV m)), agv (ivs [(rpE m).1, (rpE m).2.1, (rpE m).2.2]), .bool true]) ∧ Below w.heap.size w w' := by
  have hR := rt_iff.1 hr
  obtain ⟨kk, n, c, g, off, hN⟩ := nx_of hi.e (rt_iff.1 hr).e
  have HN : Hid (Nx w ve m.e kk n c g off) := hN
  have hv := hN.vv
  subst hv
  obtain ⟨xw, hxw⟩ : ∃ y, (ring.atG m.e).1 = y := ⟨_, rfl⟩
  obtain ⟨xb, hxb⟩ : ∃ y, (ring.atG m.e).2.1 = y := ⟨_, rfl⟩
  obtain ⟨gb, hgb⟩ : ∃ y, m.e.gb = y := ⟨_, rfl⟩
  have HCL : Hid (∀ u, Below w.heap.size w u → u.cell? ⟨g, off + kk * 3, none⟩ = some (.int .u64 xw) ∧ u.cell? ⟨g, off + kk * 3 + 1, none⟩ = some (.int .i64 xb)) := by rw [← hxw, ← hxb]; exact hN.cell
  have Q0 : Hid ((rgl (.slice (some ⟨g, off, none⟩) n c) m.e)[0]? = some (.slice (some ⟨g, off, none⟩) n c)) := rfl
  have Q3 : Hid ((rgl (.slice (some ⟨g, off, none⟩) n c) m.e)[3]? = some (.int .i64 (kk : Int))) := by show _ = _; rw [← hN.ga]; rfl
  have Q4 : Hid ((rgl (.slice (some ⟨g, off, none⟩) n c) m.e)[4]? = some (.int .i64 gb)) := by show _ = _; rw [← hgb]; rfl
  have hkn : kk < n := by have := hN.lt; omega
  have hki : (kk : Int) < (n : Int) := by omega
  have hn64 : n ≤ 64 := hN.n64
  have hn3 : 3 ≤ n := hN.n3
  have hnc := hN.c1
  have hcm := hN.c2
  have hgt : (xb != gb) = !ring.getB m.e := by rw [← hxb, ← hgb]; rfl
  have hM : Mv w w [] [(false, vc, m.c.C), (false, (.slice (some ⟨g, off, none⟩) n c), m.e.C)] := ((Mv.nil w).old hi.e).old hi.c
  have HV : Hid (Vs (mvl vc (.slice (some ⟨g, off, none⟩) n c) m) 606) := hi.vs
  have HL0 : Hid (0 + 606 ≤ (mvl vc (.slice (some ⟨g, off, none⟩) n c) m).length) := by show _ ≤ _; rw [hi.vs.len]; exact Nat.le_refl _
  have HA0 : Hid (cv (mvl vc (.slice (some ⟨g, off, none⟩) n c) m) 0 606 = mvl vc (.slice (some ⟨g, off, none⟩) n c) m) := cv_all hi.vs.len
  have HL6 : Hid (0 + 6 ≤ (mvl vc (.slice (some ⟨g, off, none⟩) n c) m).length) := by show _ ≤ _; rw [hi.vs.len]; omega
  have HA6 : Hid (cv (mvl vc (.slice (some ⟨g, off, none⟩) n c) m) 0 6 = rgl vc m.c) := cv_c _ _ _
  have HL7 : Hid (6 + 6 ≤ (mvl vc (.slice (some ⟨g, off, none⟩) n c) m).length) := by show _ ≤ _; rw [hi.vs.len]; omega
  have HA7 : Hid (cv (mvl vc (.slice (some ⟨g, off, none⟩) n c) m) 6 6 = rgl (.slice (some ⟨g, off, none⟩) n c) m.e) := cv_e _ _ _
  have HL8 : Hid (12 + 594 ≤ (mvl vc (.slice (some ⟨g, off, none⟩) n c) m).length) := by show _ ≤ _; rw [hi.vs.len]; exact Nat.le_refl _
  have HA8 : Hid (cv (mvl vc (.slice (some ⟨g, off, none⟩) n c) m) 12 594 = ivs (fl m.B)) := cv_b _ _ hi.B
  have HZ : Hid (zl.length = 606) := zl_vs.len
  have HZR : Hid ((rgl nilS ring.zR).length = 6) := rfl
  have HZE : Hid ((ivs [0, 0, 0]).length = 3) := rfl
  have HGV : Hid (Vs (rgl (.slice (some ⟨g, off, none⟩) n c) m.e) 6) := rgl_vs (rcs_one hi.e)
  have HMA : Hid (∀ u, Below w.heap.size w u → Calls Try.prog 38 #[agv (mvl vc (.slice (some ⟨g, off, none⟩) n c) m)] u fun e w' => e = .returned (.bool (rtB m)) ∧ Below u.heap.size u w') := fun u hb => machine_any vc (.slice (some ⟨g, off, none⟩) n c) m u (hi.c.below hb) (hi.e.below hb) hi.B hi.wc hi.we
  have hm := atG_mem hR.e
  have hb := hi.we _ hm
  have hcw : ewB (ring.atG m.e).1 = true := List.all_eq_true.1 hR.we _ hm
  have hx24 : xw < 16777216 := by rw [← hxw]; exact of_decide_eq_true hcw
  have hx0 : 0 ≤ xw := by rw [← hxw]; exact hb.1
  obtain ⟨q1, hq1⟩ : ∃ y, xw % 256 = y := ⟨_, rfl⟩
  obtain ⟨q0, hq0⟩ : ∃ y, xw / 256 = y := ⟨_, rfl⟩
  obtain ⟨q2, hq2⟩ : ∃ y, q0 % 256 = y := ⟨_, rfl⟩
  obtain ⟨q3, hq3⟩ : ∃ y, xw / 65536 = y := ⟨_, rfl⟩
  have hrp : rpE m = (q1, q2, q3) := by
    unfold rpE evU
    rw [hxw]
    refine Prod.ext ?_ (Prod.ext ?_ ?_) <;> simp only <;> omega
  have b1 : 0 ≤ q1 := by omega
  have b2 : q1 ≤ 255 := by omega
  have b3 : 0 ≤ q0 := by omega
  have b4 : q0 ≤ 65535 := by omega
  have b5 : 0 ≤ q2 := by omega
  have b6 : q2 ≤ 255 := by omega
  have b7 : 0 ≤ q3 := by omega
  have b8 : q3 ≤ 255 := by omega
  have hw64 : IntKind.i64.wrap xw = xw := by rw [IntKind.wrap_i64]; omega
  rw [hrp] at hpl ⊢
  simp only at hpl
  obtain ⟨ca, nC, cC, hvc⟩ : ∃ a n c, vc = .slice a n c := one_sl hi.c
  have hnC : m.c.C.length = nC := by obtain ⟨a, c, h, _⟩ := hi.c.form; rw [hvc] at h; injection h with _ h _; exact h.symm
  subst hvc
  have hC3 := hR.c.n3
  have hC64 := hR.c.n64
  rw [hnC] at hC3 hC64 hpl
  have HGO : Hid (∀ u, Calls Try.prog 43 #[agv (mk2 (kk : Int) gb), .int .i64 ((n : Int) - 1)] u fun e w' => e = .returned (agv (mk2 (ring.onG m.e).ga (ring.onG m.e).gb)) ∧ Below u.heap.size u w') := fun u => by
    have h1 := hN.lt
    have := ring.goneOn_any n (kk : Int) gb u hN.n3 hN.n64 (by omega) (by omega) (by rw [← hgb]; exact hR.e.gb)
    have e1 : ring.on n (kk : Int) gb = ((ring.onG m.e).ga, (ring.onG m.e).gb) := by
      unfold ring.onG
      simp only
      rw [hN.nn, hN.ga, hgb]
    rw [e1] at this
    exact this
  have HCG : Hid (cv (rgl (.slice (some ⟨g, off, none⟩) n c) m.e) 3 2 = mk2 (kk : Int) gb) := by show _ = _; rw [← hN.ga, ← hgb]; rfl
  have HLG : Hid (3 + 2 ≤ (rgl (.slice (some ⟨g, off, none⟩) n c) m.e).length) := by show 3 + 2 ≤ 6; omega
  have HPR : Hid (ptv (rgl (.slice (some ⟨g, off, none⟩) n c) m.e) 3 (mk2 (ring.onG m.e).ga (ring.onG m.e).gb) = rgl (.slice (some ⟨g, off, none⟩) n c) (ring.onG m.e)) := rfl
  have HMK : Hid (Vs (mk2 (ring.onG m.e).ga (ring.onG m.e).gb) 2) := mk2_vs _ _
  have Q3' : Hid ((rgl (.slice (some ⟨g, off, none⟩) n c) (ring.onG m.e))[3]? = some (.int .i64 (ring.onG m.e).ga)) := rfl
  have HLT5 : Hid (5 < (rgl (.slice (some ⟨g, off, none⟩) n c) (ring.onG m.e)).length) := by show 5 < 6; omega
  have HP6 : Hid ((rgl (.slice (some ⟨g, off, none⟩) n c) (ring.onG m.e)).set 5 (.int .i64 (ring.onG m.e).ga) = rgl (.slice (some ⟨g, off, none⟩) n c) (ring.lrn (ring.onG m.e))) := rfl
  have HVL : Hid (Vs (rgl (.slice (some ⟨g, off, none⟩) n c) (ring.lrn (ring.onG m.e))) 6) := rgl_vs rfl
  have HLL : Hid (0 + 6 ≤ (rgl (.slice (some ⟨g, off, none⟩) n c) (ring.lrn (ring.onG m.e))).length) := Nat.le_refl _
  have HAL : Hid (cv (rgl (.slice (some ⟨g, off, none⟩) n c) (ring.lrn (ring.onG m.e))) 0 6 = rgl (.slice (some ⟨g, off, none⟩) n c) (ring.lrn (ring.onG m.e))) := rfl
  have HP7 : Hid (ptv (mvl (.slice ca nC cC) (.slice (some ⟨g, off, none⟩) n c) m) 6 (rgl (.slice (some ⟨g, off, none⟩) n c) (ring.lrn (ring.onG m.e))) = mvl (.slice ca nC cC) (.slice (some ⟨g, off, none⟩) n c) ⟨m.c, ring.lrn (ring.onG m.e), m.B⟩) := ptv_e _ _ _ _ _
  have H7 : Hid (Vs (mvl (.slice ca nC cC) (.slice (some ⟨g, off, none⟩) n c) ⟨m.c, ring.lrn (ring.onG m.e), m.B⟩) 606) := mvl_vs rfl rfl hi.B
  have QM : Hid ((mvl (.slice ca nC cC) (.slice (some ⟨g, off, none⟩) n c) ⟨m.c, ring.lrn (ring.onG m.e), m.B⟩)[0]? = some (.slice ca nC cC)) := rfl
  have hbe := bld_e3 q1 q2 q3
  have EVS : Hid (Vs (ivs [q1, q2, q3]) 3) := ivs_vs rfl
  have QE2 : Hid ((ivs [q1, q2, q3])[2]? = some (.int .i64 q3)) := rfl
  have HLE : Hid (0 + 3 ≤ (ivs [q1, q2, q3]).length) := Nat.le_refl _
  have HAE : Hid (cv (ivs [q1, q2, q3]) 0 3 = ivs [q1, q2, q3]) := rfl
  have e9 : decide (q3 + 1 < (nC : Int)) = false := by
    rw [decide_eq_false_iff_not]
    intro h
    rw [ring.pl_iff.2 ⟨b7, by omega⟩] at hpl
    cases hpl
  have hsn : snx m.c q3 = m.c.sn := by unfold snx; rw [hnC, if_neg (by rw [hpl]; decide)]
  have hre : reV m = ⟨m.c, ring.lrn (ring.onG m.e), m.B⟩ := by unfold reV; rw [hrp]; show Mc.mk (rgS m.c (snx m.c q3)) _ _ = _; rw [hsn]; rfl
  rw [hre]
  rw [hr] at HMA
  rw [hg] at hgt
  have hgt : (xb != gb) = false := hgt
  obtain ⟨n1, hn1⟩ : ∃ n1 : Int, (n : Int) - 1 = n1 := ⟨_, rfl⟩
  rw [hn1] at HGO
  obtain ⟨n2, hn2⟩ : ∃ n2 : Int, (nC : Int) - 1 = n2 := ⟨_, rfl⟩
  have hLM : Hid (0 + 606 ≤ (mvl (.slice ca nC cC) (.slice (some ⟨g, off, none⟩) n c) ⟨m.c, ring.lrn (ring.onG m.e), m.B⟩).length) := by show _ ≤ _; rw [H7.out.len]; exact Nat.le_refl _
  have hAM : Hid (cv (mvl (.slice ca nC cC) (.slice (some ⟨g, off, none⟩) n c) ⟨m.c, ring.lrn (ring.onG m.e), m.B⟩) 0 606 = mvl (.slice ca nC cC) (.slice (some ⟨g, off, none⟩) n c) ⟨m.c, ring.lrn (ring.onG m.e), m.B⟩) := cv_all H7.out.len
  clear hi hr hg hpl hxw hxb hgb hN hR hm hb hcw hrp hnC hsn hre
  generalize (ring.onG m.e).ga = og at *
  generalize (ring.onG m.e).gb = ogb at *
  go_enter Try.func19, Try.ntmps19
  repeat' (first | (go_big_may; first | (refine v_box rfl rfl rfl ?_; intro u xm hN; replace hM := hM.new hN (by decide); clear hN) | (refine v_alloc rfl zer_mach rfl ?_; intro u xr hN; replace hM := hM.new hN (by decide); clear hN) | (refine v_alloc rfl zer_event rfl ?_; intro u xv hN; replace hM := hM.new hN (by decide); clear hN) | (refine v_load rfl rfl row_ring rfl hM.at2 HL7.out HA7.out ?_) | (refine v_alloc rfl zer_ring rfl ?_; intro u xg hN; replace hM := hM.new hN (by decide); clear hN) | (refine v_fill rfl rfl row_ring rfl rfl hM.at0 HGV.out HZR.out ?_; intro u hv hc; replace hM := hM.put0 hc hv; clear hv hc)) | go_values | go_skip | go_guarded | go_step | go_upon | (simp only [Int.not_lt, Int.not_le] at *; go_simp))
  go_simp
  refine wp_abs (fun a0 => a0.tmps.size = 82 ∧ (∀ h, a0.tmps[1]'h = .pointer (some ⟨xm, 0, none⟩)) ∧ (∀ h, a0.tmps[5]'h = .pointer (some ⟨xg, 0, none⟩))) ⟨rfl, fun _ => rfl, fun _ => rfl⟩ ?_
  rintro a0 ⟨hsz, s1, sg⟩ ha0
  obtain ⟨LL, hLL⟩ : ∃ LL : List Bk, [(xg, 35, rgl (.slice (some ⟨g, off, none⟩) n c) m.e), (xv, 52, ivs [0, 0, 0]), (xr, 43, zl), (xm, 43, mvl (.slice ca nC cC) (.slice (some ⟨g, off, none⟩) n c) m)] = LL := ⟨_, rfl⟩
  rw [hLL] at hM
  refine wp_region_held (S := fun W => Mv w W LL [(false, (.slice ca nC cC), m.c.C), (false, (.slice (some ⟨g, off, none⟩) n c), m.e.C)]) (by kernel_rfl) ?_
  have hS0 := hM.drew
  refine h_take (i := 0) (agv (mvl (.slice ca nC cC) (.slice (some ⟨g, off, none⟩) n c) m)) rfl (by kernel_rfl) (by kernel_rfl) (by kernel_rfl) (fun _ _ _ h => h) rfl hS0 (fun W hW => by
    rw [← hLL] at hW
    exact ex_loadv rfl row_mach (by simp [go_sem, Act.put, hsz, s1, sg]) hW.at3 HL0.out HA0.out) ?_
  refine h_call (i := 1) 38 #[agv (mvl (.slice ca nC cC) (.slice (some ⟨g, off, none⟩) n c) m)] rfl (by kernel_rfl) rfl (by simp [execOp, go_sem, Act.put, hsz, s1, sg]) ((HMA.out _ hS0.below).mono ?_)
  rintro e u9 ⟨rfl, hb⟩
  have hS1 := hS0.call hb
  refine ⟨_, rfl, hS1, ?_⟩
  refine h_take (i := 2) (.bool false) rfl (by kernel_rfl) (by kernel_rfl) (by kernel_rfl) (fun _ _ _ h => h) rfl hS1 (fun W hW => by simp [execOp, go_sem, Act.put, hsz, s1, sg]) ?_
  refine h_take (i := 3) (.bool false) rfl (by kernel_rfl) (by kernel_rfl) (by kernel_rfl) (fun _ _ _ h => h) rfl hS1 (fun W hW => by simp [execOp, go_sem, Act.put, hsz, s1, sg]) ?_
  refine g_take (i := 4) (.pointer (some ⟨xg, 0, none⟩)) rfl (by kernel_rfl) (by kernel_rfl) (by kernel_rfl) (fun _ _ _ h => h) (wanted_of 3 false 13 rfl (by kernel_rfl) (by simp [Act.put, Array.getElem?_setIfInBounds, hsz])) hS1 (fun W hW => by simp [execOp, go_sem, Act.put, hsz, s1, sg]) ?_
  refine g_take (i := 5) (.slice (some ⟨g, off, none⟩) n c) rfl (by kernel_rfl) (by kernel_rfl) (by kernel_rfl) (fun _ _ _ h => h) (wanted_of 3 false 13 rfl (by kernel_rfl) (by simp [Act.put, Array.getElem?_setIfInBounds, hsz])) hS1 (fun W hW => by rw [← hLL] at hW; exact ex_getc rfl (.inr rfl) (by simp [go_sem, Act.put, hsz, s1, sg]) (bv_cell hW.at0 Q0.out)) ?_
  refine g_take (i := 6) (.pointer (some ⟨xg, 3, none⟩)) rfl (by kernel_rfl) (by kernel_rfl) (by kernel_rfl) (fun _ _ _ h => h) (wanted_of 3 false 13 rfl (by kernel_rfl) (by simp [Act.put, Array.getElem?_setIfInBounds, hsz])) hS1 (fun W hW => by simp [execOp, go_sem, Act.put, hsz, s1, sg]) ?_
  refine g_take (i := 7) (.pointer (some ⟨xg, 3, none⟩)) rfl (by kernel_rfl) (by kernel_rfl) (by kernel_rfl) (fun _ _ _ h => h) (wanted_of 3 false 13 rfl (by kernel_rfl) (by simp [Act.put, Array.getElem?_setIfInBounds, hsz])) hS1 (fun W hW => by simp [execOp, go_sem, Act.put, hsz, s1, sg]) ?_
  refine g_take (i := 8) (.int .i64 (kk : Int)) rfl (by kernel_rfl) (by kernel_rfl) (by kernel_rfl) (fun _ _ _ h => h) (wanted_of 3 false 13 rfl (by kernel_rfl) (by simp [Act.put, Array.getElem?_setIfInBounds, hsz])) hS1 (fun W hW => by rw [← hLL] at hW; exact ex_getc rfl (.inl rfl) (by simp [go_sem, Act.put, hsz, s1, sg]) (bv_cell hW.at0 Q3.out)) ?_
  refine g_take (i := 9) (.pointer (some ⟨g, off + kk * 3, none⟩)) rfl (by kernel_rfl) (by kernel_rfl) (by kernel_rfl) (fun _ _ _ h => h) (wanted_of 3 false 13 rfl (by kernel_rfl) (by simp [Act.put, Array.getElem?_setIfInBounds, hsz])) hS1 (fun W hW => by simp [execOp, go_sem, Act.put, hsz, s1, sg, hki, hkn]) ?_
  refine g_take (i := 10) (.pointer (some ⟨g, off + kk * 3 + 1, none⟩)) rfl (by kernel_rfl) (by kernel_rfl) (by kernel_rfl) (fun _ _ _ h => h) (wanted_of 3 false 13 rfl (by kernel_rfl) (by simp [Act.put, Array.getElem?_setIfInBounds, hsz])) hS1 (fun W hW => by simp [execOp, go_sem, Act.put, hsz, s1, sg]) ?_
  refine g_take (i := 11) (.int .i64 xb) rfl (by kernel_rfl) (by kernel_rfl) (by kernel_rfl) (fun _ _ _ h => h) (wanted_of 3 false 13 rfl (by kernel_rfl) (by simp [Act.put, Array.getElem?_setIfInBounds, hsz])) hS1 (fun W hW => by exact ex_getc rfl (.inl rfl) (by simp [go_sem, Act.put, hsz, s1, sg]) (HCL.out W hW.below).2) ?_
  refine g_take (i := 12) (.pointer (some ⟨xg, 3, none⟩)) rfl (by kernel_rfl) (by kernel_rfl) (by kernel_rfl) (fun _ _ _ h => h) (wanted_of 3 false 13 rfl (by kernel_rfl) (by simp [Act.put, Array.getElem?_setIfInBounds, hsz])) hS1 (fun W hW => by simp [execOp, go_sem, Act.put, hsz, s1, sg]) ?_
  refine g_take (i := 13) (.pointer (some ⟨xg, 4, none⟩)) rfl (by kernel_rfl) (by kernel_rfl) (by kernel_rfl) (fun _ _ _ h => h) (wanted_of 3 false 13 rfl (by kernel_rfl) (by simp [Act.put, Array.getElem?_setIfInBounds, hsz])) hS1 (fun W hW => by simp [execOp, go_sem, Act.put, hsz, s1, sg]) ?_
  refine g_take (i := 14) (.int .i64 gb) rfl (by kernel_rfl) (by kernel_rfl) (by kernel_rfl) (fun _ _ _ h => h) (wanted_of 3 false 13 rfl (by kernel_rfl) (by simp [Act.put, Array.getElem?_setIfInBounds, hsz])) hS1 (fun W hW => by rw [← hLL] at hW; exact ex_getc rfl (.inl rfl) (by simp [go_sem, Act.put, hsz, s1, sg]) (bv_cell hW.at0 Q4.out)) ?_
  refine g_take (i := 15) (.bool (xb != gb)) rfl (by kernel_rfl) (by kernel_rfl) (by kernel_rfl) (fun _ _ _ h => h) (wanted_of 3 false 13 rfl (by kernel_rfl) (by simp [Act.put, Array.getElem?_setIfInBounds, hsz])) hS1 (fun W hW => by simp [execOp, go_sem, Act.put, hsz, s1, sg]) ?_
  refine h_take (i := 16) (.bool (xb != gb)) rfl (by kernel_rfl) (by kernel_rfl) (by kernel_rfl) (fun _ _ _ h => h) rfl hS1 (fun W hW => by simp [execOp, go_sem, Act.put, hsz, s1, sg]) ?_
  refine wpAnyH_done (by kernel_rfl) ?_ _
  subst ha0
  clear hsz s1 sg hS0 hM
  have hM := hS1
  rw [← hLL] at hM
  clear hS1 hLL hb
  go_simp
  repeat' (first | (go_big_may; first | (refine v_get rfl rfl (.inr rfl) rfl hM.at0 Q0.out ?_) | (refine v_get rfl rfl (.inl rfl) rfl hM.at0 Q3.out ?_) | (refine v_getC rfl rfl (.inr rfl) rfl (HCL.out _ hM.below).1 ?_) | (refine v_load rfl rfl row_mk rfl hM.at0 HLG.out HCG.out ?_)) | go_values | go_skip | go_guarded | go_step | go_upon | (simp only [Int.not_lt, Int.not_le] at *; go_simp))
  refine (HGO.out _).mono ?_
  rintro r u2 ⟨rfl, hv⟩
  replace hM := hM.call hv
  clear hv
  repeat' (first | (go_big_may; first | (refine v_store rfl rfl row_mk rfl rfl hM.at0 HMK.out HLG.out HPR.out ?_; intro u hv hc; replace hM := hM.put0 hc hv; clear hv hc) | (refine v_get rfl rfl (.inl rfl) rfl hM.at0 Q3'.out ?_) | (refine v_puti rfl rfl rfl rfl hM.at0 HLT5.out ?_; intro u hv hc; rw [HP6.out] at hv; replace hM := hM.put0 hc hv; clear hv hc) | (refine v_load rfl rfl row_ring rfl hM.at0 HLL.out HAL.out ?_) | (refine v_store rfl rfl row_ring rfl rfl hM.at3 HVL.out HL7.out HP7.out ?_; intro u hv hc; replace hM := hM.put3 hc hv; clear hv hc) | (refine v_build rfl rfl hbe ?hbv ?_; (case hbv => simp [Act.eval, Act.put, hq1, hq2, hq3])) | (refine v_alloc rfl zer_event rfl ?_; intro u xe hN; replace hM := hM.new hN (by decide); clear hN) | (refine v_fill rfl rfl row_event rfl rfl hM.at0 EVS.out HZE.out ?_; intro u hv hc; replace hM := hM.put0 hc hv; clear hv hc) | (refine v_get rfl rfl (.inl rfl) rfl hM.at0 QE2.out ?_) | (refine v_get rfl rfl (.inr rfl) rfl hM.at4 QM.out ?_)) | go_values | go_skip | go_guarded | go_step | go_upon | (simp only [Int.not_lt, Int.not_le] at *; go_simp))
  go_simp
  refine wp_abs (fun a0 => a0.tmps.size = 82 ∧ (∀ h, a0.tmps[1]'h = .pointer (some ⟨xm, 0, none⟩)) ∧ (∀ h, a0.tmps[2]'h = .pointer (some ⟨xr, 0, none⟩)) ∧ (∀ h, a0.tmps[3]'h = .pointer (some ⟨xv, 0, none⟩)) ∧ (∀ h, a0.tmps[7]'h = .pointer (some ⟨xe, 0, none⟩))) ⟨rfl, fun _ => rfl, fun _ => rfl, fun _ => rfl, fun _ => rfl⟩ ?_
  rintro a0 ⟨hsz, s1, s2, s3, s9⟩ ha0
  obtain ⟨RR, hRR⟩ : ∃ RR : List (Bool × Value × List Ce), [(false, (.slice ca nC cC), m.c.C), (false, (.slice (some ⟨g, off, none⟩) n c), m.e.C)] = RR := ⟨_, rfl⟩
  rw [hRR] at hM
  refine wp_region_held (S := fun W => ∃ l1 l2 : List Value, l1.length = 606 ∧ l2.length = 3 ∧ Mv w W [(xe, 52, ivs [q1, q2, q3]), (xg, 35, rgl (.slice (some ⟨g, off, none⟩) n c) (ring.lrn (ring.onG m.e))), (xv, 52, l2), (xr, 43, l1), (xm, 43, mvl (.slice ca nC cC) (.slice (some ⟨g, off, none⟩) n c) ⟨m.c, ring.lrn (ring.onG m.e), m.B⟩)] RR) (by kernel_rfl) ?_
  have hd := hM.drew
  have hS0 : ∃ l1 l2 : List Value, l1.length = 606 ∧ l2.length = 3 ∧ Mv w _ [(xe, 52, ivs [q1, q2, q3]), (xg, 35, rgl (.slice (some ⟨g, off, none⟩) n c) (ring.lrn (ring.onG m.e))), (xv, 52, l2), (xr, 43, l1), (xm, 43, mvl (.slice ca nC cC) (.slice (some ⟨g, off, none⟩) n c) ⟨m.c, ring.lrn (ring.onG m.e), m.B⟩)] RR := ⟨_, _, HZ.out, HZE.out, hd⟩
  refine h_take (i := 0) (agv (mvl (.slice ca nC cC) (.slice (some ⟨g, off, none⟩) n c) ⟨m.c, ring.lrn (ring.onG m.e), m.B⟩)) rfl (by kernel_rfl) (by kernel_rfl) (by kernel_rfl) (fun _ _ _ h => h) rfl hS0 (fun W hW => by
    obtain ⟨l1, l2, _, _, hm⟩ := hW
    exact ex_loadv rfl row_mach (by simp [go_sem, Act.put, hsz, s1]) hm.at4 hLM.out hAM.out) ?_
  refine h_take (i := 1) (agv (ivs [q1, q2, q3])) rfl (by kernel_rfl) (by kernel_rfl) (by kernel_rfl) (fun _ _ _ h => h) rfl hS0 (fun W hW => by
    obtain ⟨l1, l2, _, _, hm⟩ := hW
    exact ex_loadv rfl row_event (by simp [go_sem, Act.put, hsz, s9]) hm.at0 HLE.out HAE.out) ?_
  refine h_fillv (i := 2) rfl (by kernel_rfl) rfl rfl row_mach (by simp [go_sem, Act.put, hsz, s2]) (by simp [go_sem, Act.put, hsz]) hd.at3 H7.out HZ.out (fun u7 hl7 hc7 => ?_)
  have hd2 := hd.put3 hc7 hl7
  clear hl7 hc7
  refine ⟨⟨_, _, H7.out.len, HZE.out, hd2⟩, ?_⟩
  refine h_fillv (i := 3) rfl (by kernel_rfl) rfl rfl row_event (by simp [go_sem, Act.put, hsz, s3]) (by simp [go_sem, Act.put, hsz]) hd2.at2 EVS.out HZE.out (fun u8 hl8 hc8 => ?_)
  have hd3 := hd2.put2 hc8 hl8
  clear hl8 hc8
  refine ⟨⟨_, _, H7.out.len, EVS.out.len, hd3⟩, ?_⟩
  have hS3 : ∃ l1 l2 : List Value, l1.length = 606 ∧ l2.length = 3 ∧ Mv w u8 [(xe, 52, ivs [q1, q2, q3]), (xg, 35, rgl (.slice (some ⟨g, off, none⟩) n c) (ring.lrn (ring.onG m.e))), (xv, 52, l2), (xr, 43, l1), (xm, 43, mvl (.slice ca nC cC) (.slice (some ⟨g, off, none⟩) n c) ⟨m.c, ring.lrn (ring.onG m.e), m.B⟩)] RR := ⟨_, _, H7.out.len, EVS.out.len, hd3⟩
  refine h_take (i := 4) (.bool true) rfl (by kernel_rfl) (by kernel_rfl) (by kernel_rfl) (fun _ _ _ h => h) rfl hS3 (fun W hW => by simp [execOp, go_sem, Act.put, hsz, s1, s2, s3, s9]) ?_
  refine wpAnyH_done (by kernel_rfl) ?_ _
  subst ha0
  clear hsz s1 s2 s3 s9 hS0 hS3 hd hd2 hM
  go_simp
  repeat' (first | go_values | go_skip | go_guarded | go_step | go_upon | (simp only [Int.not_lt, Int.not_le] at *; go_simp))
  exact bodyPost_ret (ret_cct Try.results19 rfl (ld_var row_mach hd3.at3 H7.out.len) rfl (ld_var row_event hd3.at2 EVS.out.len) rfl) rfl ⟨rfl, hd3.below⟩
set_option maxHeartbeats 8000000 in
theorem reaped_yes1 (vc ve : Value) (m : Mc) (w : World) (hi : In w vc ve m) (hr : rtB m = true) (hg : ring.getB m.e = true) (hpl : ring.plB m.c.C.length (rpE m).2.2 = true) : Calls Try.prog 19 #[agv (mvl vc ve m)] w fun e w' => e = .returned (.tuple #[agv (mvl vc ve (reV m)), agv (ivs [(rpE m).1, (rpE m).2.1, (rpE m).2.2]), .bool true]) ∧ Below w.heap.size w w' := by
  have hR := rt_iff.1 hr
  obtain ⟨kk, n, c, g, off, hN⟩ := nx_of hi.e (rt_iff.1 hr).e
  have HN : Hid (Nx w ve m.e kk n c g off) := hN
  have hv := hN.vv
  subst hv
  obtain ⟨xw, hxw⟩ : ∃ y, (ring.atG m.e).1 = y := ⟨_, rfl⟩
  obtain ⟨xb, hxb⟩ : ∃ y, (ring.atG m.e).2.1 = y := ⟨_, rfl⟩
  obtain ⟨gb, hgb⟩ : ∃ y, m.e.gb = y := ⟨_, rfl⟩
  have HCL : Hid (∀ u, Below w.heap.size w u → u.cell? ⟨g, off + kk * 3, none⟩ = some (.int .u64 xw) ∧ u.cell? ⟨g, off + kk * 3 + 1, none⟩ = some (.int .i64 xb)) := by rw [← hxw, ← hxb]; exact hN.cell
  have Q0 : Hid ((rgl (.slice (some ⟨g, off, none⟩) n c) m.e)[0]? = some (.slice (some ⟨g, off, none⟩) n c)) := rfl
  have Q3 : Hid ((rgl (.slice (some ⟨g, off, none⟩) n c) m.e)[3]? = some (.int .i64 (kk : Int))) := by show _ = _; rw [← hN.ga]; rfl
  have Q4 : Hid ((rgl (.slice (some ⟨g, off, none⟩) n c) m.e)[4]? = some (.int .i64 gb)) := by show _ = _; rw [← hgb]; rfl
  have hkn : kk < n := by have := hN.lt; omega
  have hki : (kk : Int) < (n : Int) := by omega
  have hn64 : n ≤ 64 := hN.n64
  have hn3 : 3 ≤ n := hN.n3
  have hnc := hN.c1
  have hcm := hN.c2
  have hgt : (xb != gb) = !ring.getB m.e := by rw [← hxb, ← hgb]; rfl
  have hM : Mv w w [] [(false, vc, m.c.C), (false, (.slice (some ⟨g, off, none⟩) n c), m.e.C)] := ((Mv.nil w).old hi.e).old hi.c
  have HV : Hid (Vs (mvl vc (.slice (some ⟨g, off, none⟩) n c) m) 606) := hi.vs
  have HL0 : Hid (0 + 606 ≤ (mvl vc (.slice (some ⟨g, off, none⟩) n c) m).length) := by show _ ≤ _; rw [hi.vs.len]; exact Nat.le_refl _
  have HA0 : Hid (cv (mvl vc (.slice (some ⟨g, off, none⟩) n c) m) 0 606 = mvl vc (.slice (some ⟨g, off, none⟩) n c) m) := cv_all hi.vs.len
  have HL6 : Hid (0 + 6 ≤ (mvl vc (.slice (some ⟨g, off, none⟩) n c) m).length) := by show _ ≤ _; rw [hi.vs.len]; omega
  have HA6 : Hid (cv (mvl vc (.slice (some ⟨g, off, none⟩) n c) m) 0 6 = rgl vc m.c) := cv_c _ _ _
  have HL7 : Hid (6 + 6 ≤ (mvl vc (.slice (some ⟨g, off, none⟩) n c) m).length) := by show _ ≤ _; rw [hi.vs.len]; omega
  have HA7 : Hid (cv (mvl vc (.slice (some ⟨g, off, none⟩) n c) m) 6 6 = rgl (.slice (some ⟨g, off, none⟩) n c) m.e) := cv_e _ _ _
  have HL8 : Hid (12 + 594 ≤ (mvl vc (.slice (some ⟨g, off, none⟩) n c) m).length) := by show _ ≤ _; rw [hi.vs.len]; exact Nat.le_refl _
  have HA8 : Hid (cv (mvl vc (.slice (some ⟨g, off, none⟩) n c) m) 12 594 = ivs (fl m.B)) := cv_b _ _ hi.B
  have HZ : Hid (zl.length = 606) := zl_vs.len
  have HZR : Hid ((rgl nilS ring.zR).length = 6) := rfl
  have HZE : Hid ((ivs [0, 0, 0]).length = 3) := rfl
  have HGV : Hid (Vs (rgl (.slice (some ⟨g, off, none⟩) n c) m.e) 6) := rgl_vs (rcs_one hi.e)
  have HMA : Hid (∀ u, Below w.heap.size w u → Calls Try.prog 38 #[agv (mvl vc (.slice (some ⟨g, off, none⟩) n c) m)] u fun e w' => e = .returned (.bool (rtB m)) ∧ Below u.heap.size u w') := fun u hb => machine_any vc (.slice (some ⟨g, off, none⟩) n c) m u (hi.c.below hb) (hi.e.below hb) hi.B hi.wc hi.we
  have hm := atG_mem hR.e
  have hb := hi.we _ hm
  have hcw : ewB (ring.atG m.e).1 = true := List.all_eq_true.1 hR.we _ hm
  have hx24 : xw < 16777216 := by rw [← hxw]; exact of_decide_eq_true hcw
  have hx0 : 0 ≤ xw := by rw [← hxw]; exact hb.1
  obtain ⟨q1, hq1⟩ : ∃ y, xw % 256 = y := ⟨_, rfl⟩
  obtain ⟨q0, hq0⟩ : ∃ y, xw / 256 = y := ⟨_, rfl⟩
  obtain ⟨q2, hq2⟩ : ∃ y, q0 % 256 = y := ⟨_, rfl⟩
  obtain ⟨q3, hq3⟩ : ∃ y, xw / 65536 = y := ⟨_, rfl⟩
  have hrp : rpE m = (q1, q2, q3) := by
    unfold rpE evU
    rw [hxw]
    refine Prod.ext ?_ (Prod.ext ?_ ?_) <;> simp only <;> omega
  have b1 : 0 ≤ q1 := by omega
  have b2 : q1 ≤ 255 := by omega
  have b3 : 0 ≤ q0 := by omega
  have b4 : q0 ≤ 65535 := by omega
  have b5 : 0 ≤ q2 := by omega
  have b6 : q2 ≤ 255 := by omega
  have b7 : 0 ≤ q3 := by omega
  have b8 : q3 ≤ 255 := by omega
  have hw64 : IntKind.i64.wrap xw = xw := by rw [IntKind.wrap_i64]; omega
  rw [hrp] at hpl ⊢
  simp only at hpl
  obtain ⟨ca, nC, cC, hvc⟩ : ∃ a n c, vc = .slice a n c := one_sl hi.c
  have hnC : m.c.C.length = nC := by obtain ⟨a, c, h, _⟩ := hi.c.form; rw [hvc] at h; injection h with _ h _; exact h.symm
  subst hvc
  have hC3 := hR.c.n3
  have hC64 := hR.c.n64
  rw [hnC] at hC3 hC64 hpl
  have HGO : Hid (∀ u, Calls Try.prog 43 #[agv (mk2 (kk : Int) gb), .int .i64 ((n : Int) - 1)] u fun e w' => e = .returned (agv (mk2 (ring.onG m.e).ga (ring.onG m.e).gb)) ∧ Below u.heap.size u w') := fun u => by
    have h1 := hN.lt
    have := ring.goneOn_any n (kk : Int) gb u hN.n3 hN.n64 (by omega) (by omega) (by rw [← hgb]; exact hR.e.gb)
    have e1 : ring.on n (kk : Int) gb = ((ring.onG m.e).ga, (ring.onG m.e).gb) := by
      unfold ring.onG
      simp only
      rw [hN.nn, hN.ga, hgb]
    rw [e1] at this
    exact this
  have HCG : Hid (cv (rgl (.slice (some ⟨g, off, none⟩) n c) m.e) 3 2 = mk2 (kk : Int) gb) := by show _ = _; rw [← hN.ga, ← hgb]; rfl
  have HLG : Hid (3 + 2 ≤ (rgl (.slice (some ⟨g, off, none⟩) n c) m.e).length) := by show 3 + 2 ≤ 6; omega
  have HPR : Hid (ptv (rgl (.slice (some ⟨g, off, none⟩) n c) m.e) 3 (mk2 (ring.onG m.e).ga (ring.onG m.e).gb) = rgl (.slice (some ⟨g, off, none⟩) n c) (ring.onG m.e)) := rfl
  have HMK : Hid (Vs (mk2 (ring.onG m.e).ga (ring.onG m.e).gb) 2) := mk2_vs _ _
  have Q3' : Hid ((rgl (.slice (some ⟨g, off, none⟩) n c) (ring.onG m.e))[3]? = some (.int .i64 (ring.onG m.e).ga)) := rfl
  have HLT5 : Hid (5 < (rgl (.slice (some ⟨g, off, none⟩) n c) (ring.onG m.e)).length) := by show 5 < 6; omega
  have HP6 : Hid ((rgl (.slice (some ⟨g, off, none⟩) n c) (ring.onG m.e)).set 5 (.int .i64 (ring.onG m.e).ga) = rgl (.slice (some ⟨g, off, none⟩) n c) (ring.lrn (ring.onG m.e))) := rfl
  have HVL : Hid (Vs (rgl (.slice (some ⟨g, off, none⟩) n c) (ring.lrn (ring.onG m.e))) 6) := rgl_vs rfl
  have HLL : Hid (0 + 6 ≤ (rgl (.slice (some ⟨g, off, none⟩) n c) (ring.lrn (ring.onG m.e))).length) := Nat.le_refl _
  have HAL : Hid (cv (rgl (.slice (some ⟨g, off, none⟩) n c) (ring.lrn (ring.onG m.e))) 0 6 = rgl (.slice (some ⟨g, off, none⟩) n c) (ring.lrn (ring.onG m.e))) := rfl
  have HP7 : Hid (ptv (mvl (.slice ca nC cC) (.slice (some ⟨g, off, none⟩) n c) m) 6 (rgl (.slice (some ⟨g, off, none⟩) n c) (ring.lrn (ring.onG m.e))) = mvl (.slice ca nC cC) (.slice (some ⟨g, off, none⟩) n c) ⟨m.c, ring.lrn (ring.onG m.e), m.B⟩) := ptv_e _ _ _ _ _
  have H7 : Hid (Vs (mvl (.slice ca nC cC) (.slice (some ⟨g, off, none⟩) n c) ⟨m.c, ring.lrn (ring.onG m.e), m.B⟩) 606) := mvl_vs rfl rfl hi.B
  have QM : Hid ((mvl (.slice ca nC cC) (.slice (some ⟨g, off, none⟩) n c) ⟨m.c, ring.lrn (ring.onG m.e), m.B⟩)[0]? = some (.slice ca nC cC)) := rfl
  have hbe := bld_e3 q1 q2 q3
  have EVS : Hid (Vs (ivs [q1, q2, q3]) 3) := ivs_vs rfl
  have QE2 : Hid ((ivs [q1, q2, q3])[2]? = some (.int .i64 q3)) := rfl
  have HLE : Hid (0 + 3 ≤ (ivs [q1, q2, q3]).length) := Nat.le_refl _
  have HAE : Hid (cv (ivs [q1, q2, q3]) 0 3 = ivs [q1, q2, q3]) := rfl
  have hpl2 := ring.pl_iff.1 hpl
  have e9 : decide (q3 + 1 < (nC : Int)) = true := by simp; omega
  have HG2 : Hid (∀ u, Calls Try.prog 43 #[agv (mk2 q3 0), .int .i64 ((nC : Int) - 1)] u fun e w' => e = .returned (agv (mk2 (ring.on nC q3 0).1 (ring.on nC q3 0).2)) ∧ Below u.heap.size u w') := fun u => ring.goneOn_any nC q3 0 u hC3 hC64 hpl2.1 hpl2.2 (.inl rfl)
  have hsn : snx m.c q3 = (ring.on nC q3 0).1 := by unfold snx; rw [hnC, if_pos hpl]
  have hre : reV m = ⟨rgS m.c (ring.on nC q3 0).1, ring.lrn (ring.onG m.e), m.B⟩ := by unfold reV; rw [hrp]; show Mc.mk (rgS m.c (snx m.c q3)) _ _ = _; rw [hsn]
  have HP8 : Hid ((mvl (.slice ca nC cC) (.slice (some ⟨g, off, none⟩) n c) ⟨m.c, ring.lrn (ring.onG m.e), m.B⟩).set 5 (.int .i64 (ring.on nC q3 0).1) = mvl (.slice ca nC cC) (.slice (some ⟨g, off, none⟩) n c) (reV m)) := by show _ = _; rw [hre]; rfl
  have HLT8 : Hid (5 < (mvl (.slice ca nC cC) (.slice (some ⟨g, off, none⟩) n c) ⟨m.c, ring.lrn (ring.onG m.e), m.B⟩).length) := by show _ < _; rw [H7.out.len]; omega
  have H8 : Hid (Vs (mvl (.slice ca nC cC) (.slice (some ⟨g, off, none⟩) n c) (reV m)) 606) := mvl_vs rfl rfl hi.B
  have hbk := bld_mk q3
  generalize (ring.on nC q3 0).1 = o1 at *
  generalize (ring.on nC q3 0).2 = o2 at *
  have hfk := fld_mk o1 o2
  rw [hr] at HMA
  rw [hg] at hgt
  have hgt : (xb != gb) = false := hgt
  obtain ⟨n1, hn1⟩ : ∃ n1 : Int, (n : Int) - 1 = n1 := ⟨_, rfl⟩
  rw [hn1] at HGO
  obtain ⟨n2, hn2⟩ : ∃ n2 : Int, (nC : Int) - 1 = n2 := ⟨_, rfl⟩
  rw [hn2] at HG2
  have hLM : Hid (0 + 606 ≤ (mvl (.slice ca nC cC) (.slice (some ⟨g, off, none⟩) n c) (reV m)).length) := by show _ ≤ _; rw [H8.out.len]; exact Nat.le_refl _
  have hAM : Hid (cv (mvl (.slice ca nC cC) (.slice (some ⟨g, off, none⟩) n c) (reV m)) 0 606 = mvl (.slice ca nC cC) (.slice (some ⟨g, off, none⟩) n c) (reV m)) := cv_all H8.out.len
  clear hi hr hg hpl hxw hxb hgb hN hR hm hb hcw hrp hnC hsn hre hpl2
  generalize (ring.onG m.e).ga = og at *
  generalize (ring.onG m.e).gb = ogb at *
  go_enter Try.func19, Try.ntmps19
  repeat' (first | (go_big_may; first | (refine v_box rfl rfl rfl ?_; intro u xm hN; replace hM := hM.new hN (by decide); clear hN) | (refine v_alloc rfl zer_mach rfl ?_; intro u xr hN; replace hM := hM.new hN (by decide); clear hN) | (refine v_alloc rfl zer_event rfl ?_; intro u xv hN; replace hM := hM.new hN (by decide); clear hN) | (refine v_load rfl rfl row_ring rfl hM.at2 HL7.out HA7.out ?_) | (refine v_alloc rfl zer_ring rfl ?_; intro u xg hN; replace hM := hM.new hN (by decide); clear hN) | (refine v_fill rfl rfl row_ring rfl rfl hM.at0 HGV.out HZR.out ?_; intro u hv hc; replace hM := hM.put0 hc hv; clear hv hc)) | go_values | go_skip | go_guarded | go_step | go_upon | (simp only [Int.not_lt, Int.not_le] at *; go_simp))
  go_simp
  refine wp_abs (fun a0 => a0.tmps.size = 82 ∧ (∀ h, a0.tmps[1]'h = .pointer (some ⟨xm, 0, none⟩)) ∧ (∀ h, a0.tmps[5]'h = .pointer (some ⟨xg, 0, none⟩))) ⟨rfl, fun _ => rfl, fun _ => rfl⟩ ?_
  rintro a0 ⟨hsz, s1, sg⟩ ha0
  obtain ⟨LL, hLL⟩ : ∃ LL : List Bk, [(xg, 35, rgl (.slice (some ⟨g, off, none⟩) n c) m.e), (xv, 52, ivs [0, 0, 0]), (xr, 43, zl), (xm, 43, mvl (.slice ca nC cC) (.slice (some ⟨g, off, none⟩) n c) m)] = LL := ⟨_, rfl⟩
  rw [hLL] at hM
  refine wp_region_held (S := fun W => Mv w W LL [(false, (.slice ca nC cC), m.c.C), (false, (.slice (some ⟨g, off, none⟩) n c), m.e.C)]) (by kernel_rfl) ?_
  have hS0 := hM.drew
  refine h_take (i := 0) (agv (mvl (.slice ca nC cC) (.slice (some ⟨g, off, none⟩) n c) m)) rfl (by kernel_rfl) (by kernel_rfl) (by kernel_rfl) (fun _ _ _ h => h) rfl hS0 (fun W hW => by
    rw [← hLL] at hW
    exact ex_loadv rfl row_mach (by simp [go_sem, Act.put, hsz, s1, sg]) hW.at3 HL0.out HA0.out) ?_
  refine h_call (i := 1) 38 #[agv (mvl (.slice ca nC cC) (.slice (some ⟨g, off, none⟩) n c) m)] rfl (by kernel_rfl) rfl (by simp [execOp, go_sem, Act.put, hsz, s1, sg]) ((HMA.out _ hS0.below).mono ?_)
  rintro e u9 ⟨rfl, hb⟩
  have hS1 := hS0.call hb
  refine ⟨_, rfl, hS1, ?_⟩
  refine h_take (i := 2) (.bool false) rfl (by kernel_rfl) (by kernel_rfl) (by kernel_rfl) (fun _ _ _ h => h) rfl hS1 (fun W hW => by simp [execOp, go_sem, Act.put, hsz, s1, sg]) ?_
  refine h_take (i := 3) (.bool false) rfl (by kernel_rfl) (by kernel_rfl) (by kernel_rfl) (fun _ _ _ h => h) rfl hS1 (fun W hW => by simp [execOp, go_sem, Act.put, hsz, s1, sg]) ?_
  refine g_take (i := 4) (.pointer (some ⟨xg, 0, none⟩)) rfl (by kernel_rfl) (by kernel_rfl) (by kernel_rfl) (fun _ _ _ h => h) (wanted_of 3 false 13 rfl (by kernel_rfl) (by simp [Act.put, Array.getElem?_setIfInBounds, hsz])) hS1 (fun W hW => by simp [execOp, go_sem, Act.put, hsz, s1, sg]) ?_
  refine g_take (i := 5) (.slice (some ⟨g, off, none⟩) n c) rfl (by kernel_rfl) (by kernel_rfl) (by kernel_rfl) (fun _ _ _ h => h) (wanted_of 3 false 13 rfl (by kernel_rfl) (by simp [Act.put, Array.getElem?_setIfInBounds, hsz])) hS1 (fun W hW => by rw [← hLL] at hW; exact ex_getc rfl (.inr rfl) (by simp [go_sem, Act.put, hsz, s1, sg]) (bv_cell hW.at0 Q0.out)) ?_
  refine g_take (i := 6) (.pointer (some ⟨xg, 3, none⟩)) rfl (by kernel_rfl) (by kernel_rfl) (by kernel_rfl) (fun _ _ _ h => h) (wanted_of 3 false 13 rfl (by kernel_rfl) (by simp [Act.put, Array.getElem?_setIfInBounds, hsz])) hS1 (fun W hW => by simp [execOp, go_sem, Act.put, hsz, s1, sg]) ?_
  refine g_take (i := 7) (.pointer (some ⟨xg, 3, none⟩)) rfl (by kernel_rfl) (by kernel_rfl) (by kernel_rfl) (fun _ _ _ h => h) (wanted_of 3 false 13 rfl (by kernel_rfl) (by simp [Act.put, Array.getElem?_setIfInBounds, hsz])) hS1 (fun W hW => by simp [execOp, go_sem, Act.put, hsz, s1, sg]) ?_
  refine g_take (i := 8) (.int .i64 (kk : Int)) rfl (by kernel_rfl) (by kernel_rfl) (by kernel_rfl) (fun _ _ _ h => h) (wanted_of 3 false 13 rfl (by kernel_rfl) (by simp [Act.put, Array.getElem?_setIfInBounds, hsz])) hS1 (fun W hW => by rw [← hLL] at hW; exact ex_getc rfl (.inl rfl) (by simp [go_sem, Act.put, hsz, s1, sg]) (bv_cell hW.at0 Q3.out)) ?_
  refine g_take (i := 9) (.pointer (some ⟨g, off + kk * 3, none⟩)) rfl (by kernel_rfl) (by kernel_rfl) (by kernel_rfl) (fun _ _ _ h => h) (wanted_of 3 false 13 rfl (by kernel_rfl) (by simp [Act.put, Array.getElem?_setIfInBounds, hsz])) hS1 (fun W hW => by simp [execOp, go_sem, Act.put, hsz, s1, sg, hki, hkn]) ?_
  refine g_take (i := 10) (.pointer (some ⟨g, off + kk * 3 + 1, none⟩)) rfl (by kernel_rfl) (by kernel_rfl) (by kernel_rfl) (fun _ _ _ h => h) (wanted_of 3 false 13 rfl (by kernel_rfl) (by simp [Act.put, Array.getElem?_setIfInBounds, hsz])) hS1 (fun W hW => by simp [execOp, go_sem, Act.put, hsz, s1, sg]) ?_
  refine g_take (i := 11) (.int .i64 xb) rfl (by kernel_rfl) (by kernel_rfl) (by kernel_rfl) (fun _ _ _ h => h) (wanted_of 3 false 13 rfl (by kernel_rfl) (by simp [Act.put, Array.getElem?_setIfInBounds, hsz])) hS1 (fun W hW => by exact ex_getc rfl (.inl rfl) (by simp [go_sem, Act.put, hsz, s1, sg]) (HCL.out W hW.below).2) ?_
  refine g_take (i := 12) (.pointer (some ⟨xg, 3, none⟩)) rfl (by kernel_rfl) (by kernel_rfl) (by kernel_rfl) (fun _ _ _ h => h) (wanted_of 3 false 13 rfl (by kernel_rfl) (by simp [Act.put, Array.getElem?_setIfInBounds, hsz])) hS1 (fun W hW => by simp [execOp, go_sem, Act.put, hsz, s1, sg]) ?_
  refine g_take (i := 13) (.pointer (some ⟨xg, 4, none⟩)) rfl (by kernel_rfl) (by kernel_rfl) (by kernel_rfl) (fun _ _ _ h => h) (wanted_of 3 false 13 rfl (by kernel_rfl) (by simp [Act.put, Array.getElem?_setIfInBounds, hsz])) hS1 (fun W hW => by simp [execOp, go_sem, Act.put, hsz, s1, sg]) ?_
  refine g_take (i := 14) (.int .i64 gb) rfl (by kernel_rfl) (by kernel_rfl) (by kernel_rfl) (fun _ _ _ h => h) (wanted_of 3 false 13 rfl (by kernel_rfl) (by simp [Act.put, Array.getElem?_setIfInBounds, hsz])) hS1 (fun W hW => by rw [← hLL] at hW; exact ex_getc rfl (.inl rfl) (by simp [go_sem, Act.put, hsz, s1, sg]) (bv_cell hW.at0 Q4.out)) ?_
  refine g_take (i := 15) (.bool (xb != gb)) rfl (by kernel_rfl) (by kernel_rfl) (by kernel_rfl) (fun _ _ _ h => h) (wanted_of 3 false 13 rfl (by kernel_rfl) (by simp [Act.put, Array.getElem?_setIfInBounds, hsz])) hS1 (fun W hW => by simp [execOp, go_sem, Act.put, hsz, s1, sg]) ?_
  refine h_take (i := 16) (.bool (xb != gb)) rfl (by kernel_rfl) (by kernel_rfl) (by kernel_rfl) (fun _ _ _ h => h) rfl hS1 (fun W hW => by simp [execOp, go_sem, Act.put, hsz, s1, sg]) ?_
  refine wpAnyH_done (by kernel_rfl) ?_ _
  subst ha0
  clear hsz s1 sg hS0 hM
  have hM := hS1
  rw [← hLL] at hM
  clear hS1 hLL hb
  go_simp
  repeat' (first | (go_big_may; first | (refine v_get rfl rfl (.inr rfl) rfl hM.at0 Q0.out ?_) | (refine v_get rfl rfl (.inl rfl) rfl hM.at0 Q3.out ?_) | (refine v_getC rfl rfl (.inr rfl) rfl (HCL.out _ hM.below).1 ?_) | (refine v_load rfl rfl row_mk rfl hM.at0 HLG.out HCG.out ?_)) | go_values | go_skip | go_guarded | go_step | go_upon | (simp only [Int.not_lt, Int.not_le] at *; go_simp))
  refine (HGO.out _).mono ?_
  rintro r u2 ⟨rfl, hv⟩
  replace hM := hM.call hv
  clear hv
  repeat' (first | (go_big_may; first | (refine v_store rfl rfl row_mk rfl rfl hM.at0 HMK.out HLG.out HPR.out ?_; intro u hv hc; replace hM := hM.put0 hc hv; clear hv hc) | (refine v_get rfl rfl (.inl rfl) rfl hM.at0 Q3'.out ?_) | (refine v_puti rfl rfl rfl rfl hM.at0 HLT5.out ?_; intro u hv hc; rw [HP6.out] at hv; replace hM := hM.put0 hc hv; clear hv hc) | (refine v_load rfl rfl row_ring rfl hM.at0 HLL.out HAL.out ?_) | (refine v_store rfl rfl row_ring rfl rfl hM.at3 HVL.out HL7.out HP7.out ?_; intro u hv hc; replace hM := hM.put3 hc hv; clear hv hc) | (refine v_build rfl rfl hbe ?hbv ?_; (case hbv => simp [Act.eval, Act.put, hq1, hq2, hq3])) | (refine v_alloc rfl zer_event rfl ?_; intro u xe hN; replace hM := hM.new hN (by decide); clear hN) | (refine v_fill rfl rfl row_event rfl rfl hM.at0 EVS.out HZE.out ?_; intro u hv hc; replace hM := hM.put0 hc hv; clear hv hc) | (refine v_get rfl rfl (.inl rfl) rfl hM.at0 QE2.out ?_) | (refine v_get rfl rfl (.inr rfl) rfl hM.at4 QM.out ?_) | (refine v_build rfl rfl hbk ?hbv ?_; (case hbv => simp [Act.eval, Act.put]))) | go_values | go_skip | go_guarded | go_step | go_upon | (simp only [Int.not_lt, Int.not_le] at *; go_simp))
  refine (HG2.out _).mono ?_
  rintro r u3 ⟨rfl, hv⟩
  replace hM := hM.call hv
  clear hv
  repeat' (first | (go_big_may; first | (refine v_puti rfl rfl rfl rfl hM.at4 HLT8.out ?_; intro u hv hc; rw [HP8.out] at hv; replace hM := hM.put4 hc hv; clear hv hc)) | go_values | go_skip | go_guarded | go_step | go_upon | (simp only [Int.not_lt, Int.not_le] at *; go_simp))
  go_simp
  refine wp_abs (fun a0 => a0.tmps.size = 82 ∧ (∀ h, a0.tmps[1]'h = .pointer (some ⟨xm, 0, none⟩)) ∧ (∀ h, a0.tmps[2]'h = .pointer (some ⟨xr, 0, none⟩)) ∧ (∀ h, a0.tmps[3]'h = .pointer (some ⟨xv, 0, none⟩)) ∧ (∀ h, a0.tmps[7]'h = .pointer (some ⟨xe, 0, none⟩))) ⟨rfl, fun _ => rfl, fun _ => rfl, fun _ => rfl, fun _ => rfl⟩ ?_
  rintro a0 ⟨hsz, s1, s2, s3, s9⟩ ha0
  obtain ⟨RR, hRR⟩ : ∃ RR : List (Bool × Value × List Ce), [(false, (.slice ca nC cC), m.c.C), (false, (.slice (some ⟨g, off, none⟩) n c), m.e.C)] = RR := ⟨_, rfl⟩
  rw [hRR] at hM
  refine wp_region_held (S := fun W => ∃ l1 l2 : List Value, l1.length = 606 ∧ l2.length = 3 ∧ Mv w W [(xe, 52, ivs [q1, q2, q3]), (xg, 35, rgl (.slice (some ⟨g, off, none⟩) n c) (ring.lrn (ring.onG m.e))), (xv, 52, l2), (xr, 43, l1), (xm, 43, mvl (.slice ca nC cC) (.slice (some ⟨g, off, none⟩) n c) (reV m))] RR) (by kernel_rfl) ?_
  have hd := hM.drew
  have hS0 : ∃ l1 l2 : List Value, l1.length = 606 ∧ l2.length = 3 ∧ Mv w _ [(xe, 52, ivs [q1, q2, q3]), (xg, 35, rgl (.slice (some ⟨g, off, none⟩) n c) (ring.lrn (ring.onG m.e))), (xv, 52, l2), (xr, 43, l1), (xm, 43, mvl (.slice ca nC cC) (.slice (some ⟨g, off, none⟩) n c) (reV m))] RR := ⟨_, _, HZ.out, HZE.out, hd⟩
  refine h_take (i := 0) (agv (mvl (.slice ca nC cC) (.slice (some ⟨g, off, none⟩) n c) (reV m))) rfl (by kernel_rfl) (by kernel_rfl) (by kernel_rfl) (fun _ _ _ h => h) rfl hS0 (fun W hW => by
    obtain ⟨l1, l2, _, _, hm⟩ := hW
    exact ex_loadv rfl row_mach (by simp [go_sem, Act.put, hsz, s1]) hm.at4 hLM.out hAM.out) ?_
  refine h_take (i := 1) (agv (ivs [q1, q2, q3])) rfl (by kernel_rfl) (by kernel_rfl) (by kernel_rfl) (fun _ _ _ h => h) rfl hS0 (fun W hW => by
    obtain ⟨l1, l2, _, _, hm⟩ := hW
    exact ex_loadv rfl row_event (by simp [go_sem, Act.put, hsz, s9]) hm.at0 HLE.out HAE.out) ?_
  refine h_fillv (i := 2) rfl (by kernel_rfl) rfl rfl row_mach (by simp [go_sem, Act.put, hsz, s2]) (by simp [go_sem, Act.put, hsz]) hd.at3 H8.out HZ.out (fun u7 hl7 hc7 => ?_)
  have hd2 := hd.put3 hc7 hl7
  clear hl7 hc7
  refine ⟨⟨_, _, H8.out.len, HZE.out, hd2⟩, ?_⟩
  refine h_fillv (i := 3) rfl (by kernel_rfl) rfl rfl row_event (by simp [go_sem, Act.put, hsz, s3]) (by simp [go_sem, Act.put, hsz]) hd2.at2 EVS.out HZE.out (fun u8 hl8 hc8 => ?_)
  have hd3 := hd2.put2 hc8 hl8
  clear hl8 hc8
  refine ⟨⟨_, _, H8.out.len, EVS.out.len, hd3⟩, ?_⟩
  have hS3 : ∃ l1 l2 : List Value, l1.length = 606 ∧ l2.length = 3 ∧ Mv w u8 [(xe, 52, ivs [q1, q2, q3]), (xg, 35, rgl (.slice (some ⟨g, off, none⟩) n c) (ring.lrn (ring.onG m.e))), (xv, 52, l2), (xr, 43, l1), (xm, 43, mvl (.slice ca nC cC) (.slice (some ⟨g, off, none⟩) n c) (reV m))] RR := ⟨_, _, H8.out.len, EVS.out.len, hd3⟩
  refine h_take (i := 4) (.bool true) rfl (by kernel_rfl) (by kernel_rfl) (by kernel_rfl) (fun _ _ _ h => h) rfl hS3 (fun W hW => by simp [execOp, go_sem, Act.put, hsz, s1, s2, s3, s9]) ?_
  refine wpAnyH_done (by kernel_rfl) ?_ _
  subst ha0
  clear hsz s1 s2 s3 s9 hS0 hS3 hd hd2 hM
  go_simp
  repeat' (first | go_values | go_skip | go_guarded | go_step | go_upon | (simp only [Int.not_lt, Int.not_le] at *; go_simp))
  exact bodyPost_ret (ret_cct Try.results19 rfl (ld_var row_mach hd3.at3 H8.out.len) rfl (ld_var row_event hd3.at2 EVS.out.len) rfl) rfl ⟨rfl, hd3.below⟩
end Go.Proofs.Ythjmcopknkemnaa.host

/- a machine as an argument, and a slice of deeds: what their cells hold, and what they weigh. -/
namespace Go.Proofs.Ythjmcopknkemnaa.host
open Go.ChangeShapes Go.WideShapes Go.ChangeAt Go.RowKit Go.Deep
open Go Go.Proofs.Ythjmcopknkemnaa
open Go.Proofs.Ythjmcopknkemnaa.slots (fl Wf ag AllI toB toB_wf fl_toB open_slots slots_cells board_cells)
open Go.Proofs.Ythjmcopknkemnaa.ring (Rcs Ce Rg ccell cell_cells cells_cells mark_cells ring_cells int_cells u64_cells bool_cells spot_of range_at open_mark Lt cells_w)
set_option linter.unusedVariables false
set_option maxRecDepth 10000

theorem laid_out : laidOutB Try.prog = true := by kernel_rfl
theorem mach_cells : Try.prog.cellsOf 43 = 606 := by kernel_rfl
theorem deed_cells : Try.prog.cellsOf 73 = 8 := by kernel_rfl
theorem u64_wf {x : Int} (h : (Lit.int .u64 x).wf = true) : 0 ≤ x ∧ x < 18446744073709551616 := by
  have := bounds_u64 h
  omega
/-- a machine that is handed in, whatever it weighs -/
structure Hd (w : World) (vc ve : Value) (m : Mc) : Prop where
  c : Rcs w vc m.c.C
  e : Rcs w ve m.e.C
  B : Wf m.B
  wc : Ws m.c.C
  we : Ws m.e.C
theorem Hd.inn {w : World} {vc ve : Value} {m : Mc} (h : Hd w vc ve m) (hk : m.c.C.length * 24 ≤ reachBytes ∧ m.e.C.length * 24 ≤ reachBytes) : In w vc ve m := ⟨h.c, h.e, h.B, h.wc, h.we, by have := hk.1; unfold reachBytes at this; omega, by have := hk.2; unfold reachBytes at this; omega⟩
section
variable {H : Type} {enc : TypeId × Value → H} {w : World} {base : Nat} {spare : Nat → Bool} {held : Bool}
theorem open_cellW {fuel : Nat} {cs : List Value} {x : DataW H × List MemPlace} (h : DataW.trod enc Try.prog w base spare held fuel 91 cs = some x) : ∃ e : Ce, cs = ccell e ∧ 0 ≤ e.1 ∧ e.1 < 18446744073709551616 := by
  obtain ⟨xs, n, _, hx, hlen, hxl, hfs⟩ := DataW.trod_struct Try.underlying91 h
  rw [cell_cells] at hlen
  match cs, hlen with
  | [c0, c1, c2], _ =>
    have g0 := hfs 0 _ rfl
    have g1 := hfs 1 _ rfl
    have g2 := hfs 2 _ rfl
    match xs, hxl with
    | [y0, y1, y2], _ =>
      simp [int_cells, u64_cells, bool_cells] at g0 g1 g2
      obtain ⟨k0, e0, _, f0⟩ := DataW.trod_int Try.underlying24 g0
      obtain ⟨k1, e1, _, f1⟩ := DataW.trod_int Try.underlying3 g1
      obtain ⟨k2, e2, _⟩ := DataW.trod_bool Try.underlying4 g2
      simp at e0 e1 e2
      subst e0 e1 e2
      exact ⟨(k0, k1, k2), rfl, (u64_wf f0).1, (u64_wf f0).2⟩
theorem open_cellsW {fuel : Nat} {v : Value} {x : DataW H × List MemPlace} (h : DataW.trod enc Try.prog w base spare held fuel 31 [v] = some x) : ∃ L, Rcs w v L ∧ Ws L := by
  rcases open_slice Try.underlying31 h with ⟨hcs, _⟩ | ⟨a, len, cap, m, n, D, Pl, hcs, _, hl, hm, hmm, _, hcell⟩
  · simp at hcs; subst hcs
    exact ⟨[], Rcs.nil w, fun x hx => absurd hx (by simp)⟩
  · simp at hcs; subst hcs
    have hlm : len ≤ m := by rw [hmm]; split <;> omega
    rw [cell_cells] at hcell
    have hE : ∀ i, i < len → ∃ e : Ce, (0 ≤ e.1 ∧ e.1 < 18446744073709551616) ∧ ∀ r y, (ccell e)[r]? = some y → w.cell? ((a.add (i * 3)).add r) = some y := by
      intro i hi
      obtain ⟨cs', h1, h2⟩ := hcell i (by omega)
      obtain ⟨e, rfl, hb1, hb2⟩ := open_cellW h2
      obtain ⟨_, _, h3⟩ := World.cells?_some h1
      refine ⟨e, ⟨hb1, hb2⟩, fun r y hy => ?_⟩
      have hr : r < 3 := (List.getElem?_eq_some_iff.1 hy).1
      rw [h3 r hr]; exact hy
    obtain ⟨E, hE⟩ := choose_lt hE
    refine ⟨(List.range len).map E, ⟨some a, cap, by simp, by simpa using hl, hm, fun hn => ?_⟩, fun x hx => ?_⟩
    · have hn : 0 < len := by simpa using hn
      have h0 := (hE 0 hn).2 0 _ rfl
      obtain ⟨g, off, rfl, hg⟩ := spot_of (a := a) (by simpa [Addr.add] using h0)
      refine ⟨g, off, rfl, hg, fun j y hy => ?_⟩
      obtain ⟨hj, rfl⟩ := range_at hy
      have h1 := (hE j hj).2 0 _ rfl
      have h2 := (hE j hj).2 1 _ rfl
      have h3 := (hE j hj).2 2 _ rfl
      rw [Addr.add_lit, Addr.add_lit] at h1 h2 h3
      exact ⟨h1, h2, h3⟩
    · obtain ⟨i, hi, rfl⟩ := List.mem_map.1 hx
      exact (hE i (by simpa using hi)).1
theorem open_ring {fuel : Nat} {cs : List Value} {x : DataW H × List MemPlace} (h : DataW.trod enc Try.prog w base spare held fuel 35 cs = some x) : ∃ (u : Value) (r : Rg), cs = rgl u r ∧ Rcs w u r.C ∧ Ws r.C ∧ (Lt 35 x.1 → r.C.length * 24 ≤ reachBytes) := by
  obtain ⟨xs, n, _, hx, hlen, hxl, hfs⟩ := DataW.trod_struct Try.underlying35 h
  rw [ring_cells] at hlen
  match cs, hlen with
  | [c0, c1, c2, c3, c4, c5], _ =>
    match xs, hxl with
    | [y0, y1, y2, y3], _ =>
      have g0 := hfs 0 _ rfl
      have g1 := hfs 1 _ rfl
      have g2 := hfs 2 _ rfl
      have g3 := hfs 3 _ rfl
      simp [int_cells, cells_cells, mark_cells] at g0 g1 g2 g3
      obtain ⟨L, hL, hW⟩ := open_cellsW g0
      obtain ⟨pa, pb, e1⟩ := open_mark g1
      obtain ⟨ga, gb, e2⟩ := open_mark g2
      obtain ⟨sn, e3, _, _⟩ := DataW.trod_int Try.underlying3 g3
      simp only [List.cons.injEq, and_true] at e1 e2 e3
      obtain ⟨rfl, rfl⟩ := e1
      obtain ⟨rfl, rfl⟩ := e2
      subst e3
      refine ⟨c0, ⟨L, pa, pb, ga, gb, sn⟩, rfl, hL, hW, fun hw => ?_⟩
      have hx1 := congrArg Prod.fst hx
      rw [hx1] at hw
      exact cells_w g0 (hw.part Try.underlying35 (j := 0) rfl rfl) hL
theorem mc_all {v : Value} {r : Reach} {b0 : Nat} {x : DataW H} {p : List MemPlace} (hv : Value.okWide Try.prog w r b0 43 v) (h : DataW.Trod enc Try.prog w base spare held 43 v x p) :
    ∃ (vc ve : Value) (m : Mc), v = agv (mvl vc ve m) ∧ Hd w vc ve m ∧ (Lt 43 x → m.c.C.length * 24 ≤ reachBytes ∧ m.e.C.length * 24 ≤ reachBytes) := by
  obtain ⟨cs, rfl, hsz⟩ := okWide_struct Try.underlying43 hv
  rw [mach_cells] at hsz
  obtain ⟨fuel, hf⟩ := h
  obtain ⟨xs, n, _, hx, hlen, hxl, hfs⟩ := DataW.trod_struct Try.underlying43 hf
  obtain ⟨l⟩ := cs
  have hl : l.length = 606 := hsz
  match xs, hxl with
  | [y0, y1, y2], _ =>
    have g0 : DataW.trod enc Try.prog w base spare held n 35 ((l.drop 0).take (Try.prog.cellsOf 35)) = some y0 := hfs 0 _ rfl
    have g1 : DataW.trod enc Try.prog w base spare held n 35 ((l.drop 6).take (Try.prog.cellsOf 35)) = some y1 := hfs 1 _ rfl
    have g2 : DataW.trod enc Try.prog w base spare held n 41 ((l.drop 12).take (Try.prog.cellsOf 41)) = some y2 := hfs 2 _ rfl
    rw [ring_cells] at g0 g1
    rw [board_cells] at g2
    obtain ⟨vc, rc, ec, hc, hwc, hkc⟩ := open_ring g0
    obtain ⟨ve, re, ee, he, hwe, hke⟩ := open_ring g1
    obtain ⟨zs, n2, _, hx2, hlen2, hxl2, hfs2⟩ := DataW.trod_struct Try.underlying41 g2
    match zs, hxl2 with
    | [z0], _ =>
      have k0 : DataW.trod enc Try.prog w base spare held n2 39 ((((l.drop 12).take 594).drop 0).take (Try.prog.cellsOf 39)) = some z0 := hfs2 0 _ rfl
      rw [slots_cells] at k0
      have a0 := open_slots k0
      have e0 : List.take 594 (List.drop 0 (List.take 594 (List.drop 12 l))) = l.drop 12 := by
        rw [List.drop_zero, List.take_take, Nat.min_self, List.take_of_length_le (by simp; omega)]
      rw [e0] at a0
      obtain ⟨mm, hmm⟩ := a0.list
      have hml : mm.length = 594 := by
        have := congrArg List.length hmm
        simp at this
        omega
      refine ⟨vc, ve, ⟨rc, re, toB mm⟩, ?_, ⟨hc, he, toB_wf hml, hwc, hwe⟩, fun hw => ?_⟩
      · show Value.agg l.toArray = Value.agg (mvl vc ve ⟨rc, re, toB mm⟩).toArray
        congr 2
        have e1 : l = l.take 6 ++ ((l.drop 6).take 6 ++ l.drop 12) := by
          have a : l.drop 6 = (l.drop 6).take 6 ++ (l.drop 6).drop 6 := (List.take_append_drop 6 _).symm
          rw [List.drop_drop] at a
          rw [← a, List.take_append_drop]
        rw [List.drop_zero] at ec
        rw [e1, ec, ee, hmm]
        unfold mvl ivs
        simp only
        rw [fl_toB hml]
      · have hx1 := congrArg Prod.fst hx
        simp only at hx1
        rw [hx1] at hw
        exact ⟨hkc (hw.part Try.underlying43 (j := 0) rfl rfl), hke (hw.part Try.underlying43 (j := 1) rfl rfl)⟩
theorem deed_open1 {fuel : Nat} {cs : List Value} {x : DataW H × List MemPlace} (h : DataW.trod enc Try.prog w base spare held fuel 73 cs = some x) : ∃ d : Dd, cs = ivs (ddL d) := by
  obtain ⟨xs, n, _, hx, hlen, hxl, hfs⟩ := DataW.trod_struct Try.underlying73 h
  rw [deed_cells] at hlen
  match cs, hlen with
  | [c0, c1, c2, c3, c4, c5, c6, c7], _ =>
    match xs, hxl with
    | [y0, y1, y2, y3, y4], _ =>
      have g0 := hfs 0 _ rfl
      have g1 := hfs 1 _ rfl
      have g2 := hfs 2 _ rfl
      have g3 := hfs 3 _ rfl
      have g4 := hfs 4 _ rfl
      simp [int_cells, slots.cmd_cells] at g0 g1 g2 g3 g4
      obtain ⟨k0, e0, _, _⟩ := DataW.trod_int Try.underlying3 g0
      obtain ⟨k, nn, e, a, e1, _⟩ := slots.open_cmd g1
      obtain ⟨k2, e2, _, _⟩ := DataW.trod_int Try.underlying3 g2
      obtain ⟨k3, e3, _, _⟩ := DataW.trod_int Try.underlying3 g3
      obtain ⟨k4, e4, _, _⟩ := DataW.trod_int Try.underlying3 g4
      simp only [List.cons.injEq, and_true] at e0 e1 e2 e3 e4
      obtain ⟨rfl, rfl, rfl, rfl⟩ := e1
      subst e0 e2 e3 e4
      exact ⟨(k0, (k, nn, e, a), k2, k3, k4), rfl⟩
theorem dds_open {r : Reach} {b0 : Nat} {v : Value} {x : DataW H} {p : List MemPlace} (hv : Value.okWide Try.prog w r b0 56 v) (h : DataW.Trod enc Try.prog w base spare held 56 v x p) : ∃ T : List Dd, Rds 8 w v (T.map ddL) := by
  obtain ⟨a0, len0, cap0, rfl⟩ := okWide_slice Try.underlying56 hv
  obtain ⟨fuel, hf⟩ := h
  rcases open_slice Try.underlying56 hf with ⟨hcs, _⟩ | ⟨a, len, cap, m, n, D, Pl, hcs, _, hl, hm, hmm, _, hcell⟩
  · simp [Value.cells] at hcs
    obtain ⟨rfl, rfl, rfl⟩ := hcs
    exact ⟨[], Rds.nil 8 w⟩
  · simp [Value.cells] at hcs
    obtain ⟨rfl, rfl, rfl⟩ := hcs
    have hlm : len0 ≤ m := by rw [hmm]; split <;> omega
    rw [deed_cells] at hcell
    have hE : ∀ i, i < len0 → ∃ e : Dd, ∀ r y, (ivs (ddL e))[r]? = some y → w.cell? ((a.add (i * 8)).add r) = some y := by
      intro i hi
      obtain ⟨cs', h1, h2⟩ := hcell i (by omega)
      obtain ⟨d, rfl⟩ := deed_open1 h2
      obtain ⟨_, _, h3⟩ := World.cells?_some h1
      refine ⟨d, fun r y hy => ?_⟩
      have hr : r < 8 := (List.getElem?_eq_some_iff.1 hy).1
      rw [h3 r hr]; exact hy
    obtain ⟨E, hE⟩ := choose_lt hE
    refine ⟨(List.range len0).map E, some a, cap0, by simp, by simpa using hl, hm, fun y hy => ?_, fun hn => ?_⟩
    · obtain ⟨d, _, rfl⟩ := List.mem_map.1 hy
      rfl
    have hn : 0 < len0 := by simpa using hn
    have h0 := hE 0 hn 0 _ rfl
    obtain ⟨g, off, rfl, hg⟩ := spot_of (a := a) (by simpa [Addr.add] using h0)
    refine ⟨g, off, rfl, hg, fun j y hy => ?_⟩
    rw [List.map_map] at hy
    obtain ⟨hj, rfl⟩ := range_at hy
    intro r z hz
    have := hE j hj r z hz
    rw [Addr.add_lit, Addr.add_lit] at this
    exact this
end
end Go.Proofs.Ythjmcopknkemnaa.host

/- HostSteps: whatever machine is handed in, Submit, Work and Reap answer what the document says. -/
namespace Go.Proofs.Ythjmcopknkemnaa.hostSteps
open Go Go.RowKit
open Go.Proofs.Ythjmcopknkemnaa Go.Proofs.Ythjmcopknkemnaa.host
open Go.Proofs.Ythjmcopknkemnaa.slots (Row row_cmd row_board Chg ag bsq InB Wf fl)
open Go.Proofs.Ythjmcopknkemnaa.ring (Rcs Ces Ce)
set_option linter.unusedVariables false
set_option linter.unusedSimpArgs false
set_option maxRecDepth 100000

theorem reaped_any (vc ve : Value) (m : Mc) (w : World) (hi : In w vc ve m) : Calls Try.prog 19 #[agv (mvl vc ve m)] w fun e w' => e = .returned (.tuple #[agv (mvl vc ve (rpV m)), agv (ivs [(rpX m).1, (rpX m).2.1, (rpX m).2.2]), .bool (rpB m)]) ∧ Below w.heap.size w w' := by
  cases hr : rtB m
  · have h1 : rpB m = false := by unfold rpB; rw [hr]; rfl
    unfold rpV rpX
    rw [h1]
    exact reaped_no1 vc ve m w hi hr
  · cases hg : ring.getB m.e
    · have h1 : rpB m = false := by unfold rpB; rw [hr, hg]; rfl
      unfold rpV rpX
      rw [h1]
      exact reaped_no2 vc ve m w hi hr hg
    · have h1 : rpB m = true := by unfold rpB; rw [hr, hg]; rfl
      unfold rpV rpX
      rw [h1, if_pos rfl, if_pos rfl]
      cases hp : ring.plB m.c.C.length (rpE m).2.2
      · exact reaped_yes0 vc ve m w hi hr hg hp
      · exact reaped_yes1 vc ve m w hi hr hg hp
theorem worked_no (vc ve : Value) (m : Mc) (w : World) (hi : In w vc ve m) (h : (rtB m && stB m) = false) : Calls Try.prog 17 #[agv (mvl vc ve m)] w fun e w' => e = .returned (.tuple #[agv (mvl vc ve m), .bool false]) ∧ Below w.heap.size w w' := by
  cases hr : rtB m
  · exact worked_no1 vc ve m w hi hr
  · rw [hr, Bool.true_and] at h
    unfold stB at h
    cases hg : ring.getB m.c
    · exact worked_no2 vc ve m w hi hr hg
    · rw [hg, Bool.true_and] at h
      exact worked_no3 vc ve m w hi hr hg h
theorem worked_is (vc ve : Value) (m : Mc) (w : World) (hi : In w vc ve m) (hr : rtB m = true) (h : stB m = true) : Calls Try.prog 17 #[agv (mvl vc ve m)] w fun e w' => ∃ ve', e = .returned (.tuple #[agv (mvl vc ve' (stV m)), .bool true]) ∧ Ces w' w.heap.size ve' (stV m).e.C ∧ Below w.heap.size w w' := by
  unfold stB at h
  rw [Bool.and_eq_true] at h
  exact worked_yes vc ve m w hi hr h.1 h.2
theorem submitted_any (vc ve : Value) (m : Mc) (x : Cm) (w : World) (hi : In w vc ve m) : Calls Try.prog 14 #[agv (mvl vc ve m), cmV x] w fun e w' => ∃ v', e = .returned (.tuple #[agv (mvl v' ve (sbV m x)), .int .i64 (sbC m x)]) ∧ (v' = vc ∧ (sbV m x).c.C = m.c.C ∨ Ces w' w.heap.size v' (sbV m x).c.C) ∧ Below w.heap.size w w' := by
  by_cases hs : sbC m x = 0
  · rw [hs]
    exact (submitted_yes vc ve m x w hi hs).mono fun e w' ⟨v', h1, h2, h3⟩ => ⟨v', h1, .inr h2, h3⟩
  · have hv : sbV m x = m := by
      unfold sbC at hs
      unfold sbV
      split
      · rfl
      · rename_i h1
        rw [if_neg h1] at hs
        split
        · rfl
        · rename_i h2
          rw [if_neg h2] at hs
          split
          · rename_i h3
            rw [if_pos h3] at hs
            exact absurd rfl hs
          · rfl
    refine (submitted_no vc ve m x w hi hs).mono fun e w' ⟨h1, h2⟩ => ⟨vc, ?_, .inl ⟨rfl, ?_⟩, h2⟩
    · rw [hv]; exact h1
    · rw [hv]
theorem sbV_e (m : Mc) (x : Cm) : (sbV m x).e = m.e ∧ (sbV m x).B = m.B := by
  unfold sbV
  split
  · exact ⟨rfl, rfl⟩
  · split
    · exact ⟨rfl, rfl⟩
    · split <;> exact ⟨rfl, rfl⟩
theorem rpV_c (m : Mc) : (rpV m).c.C = m.c.C ∧ (rpV m).e.C = m.e.C ∧ (rpV m).B = m.B := by
  unfold rpV
  split <;> exact ⟨rfl, rfl, rfl⟩
/-- a machine in order -/
structure Od (m : Mc) : Prop where
  B : Wf m.B
  wc : Ws m.c.C
  we : Ws m.e.C
  l1 : m.c.C.length ≤ 5864062014634
  l2 : m.e.C.length ≤ 5864062014634
theorem Od.inn {w : World} {vc ve : Value} {m : Mc} (h : Od m) (hc : Rcs w vc m.c.C) (he : Rcs w ve m.e.C) : In w vc ve m := ⟨hc, he, h.B, h.wc, h.we, h.l1, h.l2⟩
theorem Od.st {m : Mc} (h : Od m) (hr : rtB m = true) : Od (stV m) := by
  have := (Fit.st ⟨hr, h.B, h.wc, h.we⟩ : Fit (stV m))
  exact ⟨this.B, this.wc, this.we, this.l1, this.l2⟩
def ctn (n : Int) (M : Mc) : Bool := rtB M && decide (n ≤ 1000)
structure Lp (w wr : World) (xy xx xm : Nat) (vc ve x1 x2 : Value) (m : Mc) (n : Int) (j : Nat) (b : Bool) (ve' : Value) (M : Mc) : Prop where
  mv : Mv w wr [(xy, 43, mvl vc ve' M), (xx, 43, mvl x1 x2 (wrV m n)), (xm, 43, mvl vc ve m)] [(b, ve', M.e.C), (true, x1, (wrV m n).c.C), (true, x2, (wrV m n).e.C), (false, vc, m.c.C), (false, ve, m.e.C)]
  cc : M.c.C = m.c.C
  od : Od M
  v : wrV m n = if ctn n M = true then wkV (n.toNat - j) M else M
  c : wrN m n = (j : Int) + if ctn n M = true then (wkN (n.toNat - j) M : Int) else 0
  le : (j : Int) ≤ 1000
theorem lp_first (m : Mc) (n : Int) : (wrV m n = if ctn n m = true then wkV (n.toNat - 0) m else m) ∧ wrN m n = ((0 : Nat) : Int) + if ctn n m = true then (wkN (n.toNat - 0) m : Int) else 0 := by
  unfold wrV wrN wkB ctn
  cases rtB m
  · simp
  · by_cases h1 : n ≤ 1000
    · by_cases h2 : 1 ≤ n
      · simp [h1, h2]
      · have : n.toNat = 0 := by omega
        simp [h1, h2, this, wkV, wkN]
    · simp [h1]
set_option maxHeartbeats 16000000 in
theorem walk0 (vc ve : Value) (m : Mc) (x : Cm) (n : Int) (w : World) (hi : In w vc ve m) (hn0 : -9223372036854775808 ≤ n) (hn9 : n ≤ 9223372036854775807) : Calls Try.prog 4 #[agv (mvl vc ve m), cmV x, .int .i64 n] w fun r w' => r = .returned (.bool true) ∧ Below w.heap.size w w' := by
  have hM : Mv w w [] [(false, vc, m.c.C), (false, ve, m.e.C)] := ((Mv.nil w).old hi.e).old hi.c
  have HI : Hid (In w vc ve m) := hi
  have HV : Hid (Vs (mvl vc ve m) 606) := hi.vs
  have HL0 : Hid (0 + 606 ≤ (mvl vc ve m).length) := by show _ ≤ _; rw [hi.vs.len]; exact Nat.le_refl _
  have HA0 : Hid (cv (mvl vc ve m) 0 606 = mvl vc ve m) := cv_all hi.vs.len
  have HZ : Hid (zl.length = 606) := zl_vs.len
  have HZE : Hid ((ivs [0, 0, 0]).length = 3) := rfl
  have HOVC : Hid (vc.oneCell' = true) := rcs_one hi.c
  have HOVE : Hid (ve.oneCell' = true) := rcs_one hi.e
  have HSB : Hid (∀ u, Below w.heap.size w u → Calls Try.prog 13 #[agv (mvl vc ve m), cmV x] u fun e w' => ∃ vc' ve', e = .returned (.tuple #[agv (mvl vc' ve' (sbV m x)), .int .i64 (sbC m x)]) ∧ Tl u vc' ve' (sbV m x) w') := fun u hb => submit_any vc ve m x u (hi.below hb)
  have HSD : Hid (∀ u, Below w.heap.size w u → Calls Try.prog 14 #[agv (mvl vc ve m), cmV x] u fun e w' => ∃ v', e = .returned (.tuple #[agv (mvl v' ve (sbV m x)), .int .i64 (sbC m x)]) ∧ (v' = vc ∧ (sbV m x).c.C = m.c.C ∨ Ces w' u.heap.size v' (sbV m x).c.C) ∧ Below u.heap.size u w') := fun u hb => submitted_any vc ve m x u (hi.below hb)
  have HWK : Hid (∀ u, Below w.heap.size w u → Calls Try.prog 16 #[agv (mvl vc ve m), .int .i64 n] u fun e w' => ∃ vc' ve', e = .returned (.tuple #[agv (mvl vc' ve' (wrV m n)), .int .i64 (wrN m n)]) ∧ Tl u vc' ve' (wrV m n) w') := fun u hb => work_any vc ve m n u (hi.below hb)
  have HRP : Hid (∀ u, Below w.heap.size w u → Calls Try.prog 18 #[agv (mvl vc ve m)] u fun e w' => ∃ vc' ve', e = .returned (.tuple #[agv (mvl vc' ve' (rpV m)), agv (ivs [(rpX m).1, (rpX m).2.1, (rpX m).2.2]), .bool (rpB m)]) ∧ Tl u vc' ve' (rpV m) w') := fun u hb => reap_any vc ve m u (hi.below hb)
  have HRD : Hid (∀ u, Below w.heap.size w u → Calls Try.prog 19 #[agv (mvl vc ve m)] u fun e w' => e = .returned (.tuple #[agv (mvl vc ve (rpV m)), agv (ivs [(rpX m).1, (rpX m).2.1, (rpX m).2.2]), .bool (rpB m)]) ∧ Below u.heap.size u w') := fun u hb => reaped_any vc ve m u (hi.below hb)
  have HLX : Hid (0 + 4 ≤ (ivs [x.1, x.2.1, x.2.2.1, x.2.2.2]).length) := Nat.le_refl _
  have HAX : Hid (cv (ivs [x.1, x.2.1, x.2.2.1, x.2.2.2]) 0 4 = ivs [x.1, x.2.1, x.2.2.1, x.2.2.2]) := rfl
  have HSW : Hid (Wf (sbV m x).B) := by show Wf _; rw [(sbV_e m x).2]; exact hi.B
  have HSE : Hid ((sbV m x).e.C = m.e.C) := by show _ = _; rw [(sbV_e m x).1]
  have HSS : Hid (∀ a1 a2 v' u, Rcs u a1 (sbV m x).c.C → Rcs u a2 (sbV m x).e.C → Rcs u v' (sbV m x).c.C → Rcs u ve (sbV m x).e.C → Calls Try.prog 15 #[agv (mvl a1 a2 (sbV m x)), agv (mvl v' ve (sbV m x))] u fun e w' => e = .returned (.bool true) ∧ Below u.heap.size u w') := fun a1 a2 v' u h1 h2 h3 h4 => same_mc a1 a2 v' ve _ u h1 h2 h3 h4 HSW.out
  have HRW : Hid (Wf (rpV m).B) := by show Wf _; rw [(rpV_c m).2.2]; exact hi.B
  have HRC : Hid ((rpV m).c.C = m.c.C ∧ (rpV m).e.C = m.e.C) := ⟨(rpV_c m).1, (rpV_c m).2.1⟩
  have HSR : Hid (∀ a1 a2 u, Rcs u a1 (rpV m).c.C → Rcs u a2 (rpV m).e.C → Rcs u vc (rpV m).c.C → Rcs u ve (rpV m).e.C → Calls Try.prog 15 #[agv (mvl a1 a2 (rpV m)), agv (mvl vc ve (rpV m))] u fun e w' => e = .returned (.bool true) ∧ Below u.heap.size u w') := fun a1 a2 u h1 h2 h3 h4 => same_mc a1 a2 vc ve _ u h1 h2 h3 h4 HRW.out
  have HQV : Hid (Vs (mvl vc ve (rpV m)) 606) := mvl_vs HOVC.out HOVE.out HRW.out
  have GQ : Hid (0 + 606 ≤ (mvl vc ve (rpV m)).length) := by show _ ≤ _; rw [HQV.out.len]; exact Nat.le_refl _
  have AQ : Hid (cv (mvl vc ve (rpV m)) 0 606 = mvl vc ve (rpV m)) := cv_all HQV.out.len
  have HEL : Hid ([(rpX m).1, (rpX m).2.1, (rpX m).2.2].length = 3) := rfl
  have HEV : Hid (Vs (ivs [(rpX m).1, (rpX m).2.1, (rpX m).2.2]) 3) := ivs_vs rfl
  have HLE : Hid (0 + 3 ≤ (ivs [(rpX m).1, (rpX m).2.1, (rpX m).2.2]).length) := Nat.le_refl _
  have HAE : Hid (cv (ivs [(rpX m).1, (rpX m).2.1, (rpX m).2.2]) 0 3 = ivs [(rpX m).1, (rpX m).2.1, (rpX m).2.2]) := rfl
  have HOD : Hid (Od m) := ⟨hi.B, hi.wc, hi.we, hi.l1, hi.l2⟩
  have HF0 := lp_first m n
  have HF0' : Hid _ := HF0
  have HWW : Hid (Wf (wrV m n).B) := by
    show Wf _
    unfold wrV
    split
    · rename_i q
      unfold wkB at q
      exact (wk_both _ (rt_iff.1 ((Bool.and_eq_true _ _).mp q).1) hi.B).2
    · exact hi.B
  unfold cmV at HSB HSD ⊢
  generalize ivs [x.1, x.2.1, x.2.2.1, x.2.2.2] = X at *
  generalize hEVL : [(rpX m).1, (rpX m).2.1, (rpX m).2.2] = EVL at *
  have e1 : (sbC m x != sbC m x) = false := by simp
  have eb : (rpB m == rpB m) = true := by simp
  generalize sbC m x = sc at *
  generalize rpB m = rb at *
  clear hi hEVL HF0
  go_enter Try.func4, Try.ntmps4
  repeat' (first | (go_big_may; first | (refine v_box (l := mvl vc ve m) rfl rfl rfl ?_; intro u xm hN; replace hM := hM.new hN (by decide); clear hN) | (refine v_box (l := X) rfl rfl rfl ?_; intro u xc hN; replace hM := hM.new hN (by decide); clear hN) | (refine v_load rfl rfl row_mach rfl hM.at1 HL0.out HA0.out ?_) | (refine v_load rfl rfl row_cmd rfl hM.at0 HLX.out HAX.out ?_)) | go_values | go_skip | go_guarded | go_step | go_upon | (simp only [Int.not_lt, Int.not_le] at *; go_simp))
  refine (HSB.out _ hM.below).mono ?_
  rintro r u1 ⟨a1, a2, rfl, ht⟩
  have G1 : Hid (Vs (mvl a1 a2 (sbV m x)) 606) := mvl_vs (rcs_one ht.c.rcs) (rcs_one ht.e.rcs) HSW.out
  have L1 : Hid (0 + 606 ≤ (mvl a1 a2 (sbV m x)).length) := by show _ ≤ _; rw [G1.out.len]; exact Nat.le_refl _
  have A1 : Hid (cv (mvl a1 a2 (sbV m x)) 0 606 = mvl a1 a2 (sbV m x)) := cv_all G1.out.len
  replace hM := (hM.tel ht.c ht.below).add (b := true) (ht.e.mono hM.below.size)
  clear ht
  repeat' (first | (go_big_may; first | (refine v_alloc rfl zer_mach rfl ?_; intro u xa hN; replace hM := hM.new hN (by decide); clear hN) | (refine v_fill rfl rfl row_mach rfl rfl hM.at0 G1.out HZ.out ?_; intro u hv hc; replace hM := hM.put0 hc hv; clear hv hc) | (refine v_load rfl rfl row_mach rfl hM.at2 HL0.out HA0.out ?_) | (refine v_load rfl rfl row_cmd rfl hM.at1 HLX.out HAX.out ?_)) | go_values | go_skip | go_guarded | go_step | go_upon | (simp only [Int.not_lt, Int.not_le] at *; go_simp))
  have hbm := hM.below
  refine (HSD.out _ hM.below).mono ?_
  rintro r u2 ⟨v', rfl, hor, hb⟩
  obtain ⟨bb, hbb⟩ : ∃ bb, Rw w u2 bb v' (sbV m x).c.C := by
    rcases hor with ⟨rfl, hq⟩ | hq
    · refine ⟨false, ?_⟩
      show Rcs w v' _
      rw [hq]
      exact HI.out.c
    · exact ⟨true, hq.mono hbm.size⟩
  replace hM := (hM.call hb).add hbb
  have G2 : Hid (Vs (mvl v' ve (sbV m x)) 606) := mvl_vs (rcs_one (hM.read (b := bb) (x := v') (C := (sbV m x).c.C) (by simp))) HOVE.out HSW.out
  have L2 : Hid (0 + 606 ≤ (mvl v' ve (sbV m x)).length) := by show _ ≤ _; rw [G2.out.len]; exact Nat.le_refl _
  have A2 : Hid (cv (mvl v' ve (sbV m x)) 0 606 = mvl v' ve (sbV m x)) := cv_all G2.out.len
  clear hb hor hbb hbm
  repeat' (first | (go_big_may; first | (refine v_alloc rfl zer_mach rfl ?_; intro u xb hN; replace hM := hM.new hN (by decide); clear hN) | (refine v_fill rfl rfl row_mach rfl rfl hM.at0 G2.out HZ.out ?_; intro u hv hc; replace hM := hM.put0 hc hv; clear hv hc) | (refine v_load rfl rfl row_mach rfl hM.at1 L1.out A1.out ?_) | (refine v_load rfl rfl row_mach rfl hM.at0 L2.out A2.out ?_)) | go_values | go_skip | go_guarded | go_step | go_upon | (simp only [Int.not_lt, Int.not_le] at *; go_simp))
  refine (HSS.out a1 a2 v' _ (hM.read (b := true) (by simp)) (hM.read (b := true) (by simp)) (hM.read (b := bb) (by simp)) (by rw [HSE.out]; exact hM.read (b := false) (by simp))).mono ?_
  rintro r u3 ⟨rfl, hv⟩
  replace hM := hM.call hv
  clear hv
  repeat' (first | (go_big_may; first | (refine v_load rfl rfl row_mach rfl hM.at3 HL0.out HA0.out ?_)) | go_values | go_skip | go_guarded | go_step | go_upon | (simp only [Int.not_lt, Int.not_le] at *; go_simp))
  refine (HWK.out _ hM.below).mono ?_
  rintro r u4 ⟨x1, x2, rfl, ht⟩
  have HXV : Hid (Vs (mvl x1 x2 (wrV m n)) 606) := mvl_vs (rcs_one ht.c.rcs) (rcs_one ht.e.rcs) HWW.out
  replace hM := (hM.tel ht.c ht.below).add (b := true) (ht.e.mono hM.below.size)
  clear ht
  go_upto_region 6 with (first | (go_big_may; first | (refine v_alloc rfl zer_mach rfl ?_; intro u xx hN; replace hM := hM.new hN (by decide); clear hN) | (refine v_fill rfl rfl row_mach rfl rfl hM.at0 HXV.out HZ.out ?_; intro u hv hc; replace hM := hM.put0 hc hv; clear hv hc)))
  repeat' (first | (go_big_may; first | (refine v_load rfl rfl row_mach rfl hM.at4 HL0.out HA0.out ?_) | (refine v_alloc rfl zer_mach rfl ?_; intro u xy hN; replace hM := hM.new hN (by decide); clear hN) | (refine v_fill rfl rfl row_mach rfl rfl hM.at0 HV.out HZ.out ?_; intro u hv hc; replace hM := hM.put0 hc hv; clear hv hc)) | go_values | go_skip | go_guarded | go_step | go_upon | (simp only [Int.not_lt, Int.not_le] at *; go_simp))
  rename World => u5
  have HL : Hid (Lp w u5 xy xx xm vc ve x1 x2 m n 0 false ve m) := ⟨hM.sub (.cons_cons _ (.cons_cons _ (.cons _ (.cons _ (.cons _ (List.Sublist.refl _)))))) (by simp), rfl, HOD.out, HF0'.out.1, HF0'.out.2, by simp⟩
  clear hM HF0'
  go_loopw [14, 15, 16] (fun jv _ _ wr => ∃ j : Nat, jv = .int .i64 (j : Int) ∧ j ≤ 1000 ∧ Hid (∃ b ve' M, Lp w wr xy xx xm vc ve x1 x2 m n j b ve' M)) (fun jv _ _ _ => 1001 - (intOf jv).toNat)
  case atStart => exact ⟨0, rfl, by omega, false, ve, m, HL.out⟩
  case round =>
    obtain ⟨j, rfl, hj, HA⟩ := hrel
    obtain ⟨b, ve', M, hP⟩ := HA.out
    obtain ⟨hM, hcc, hod, hfv, hfc, hle⟩ := hP
    have HCC : Hid (M.c.C = m.c.C) := hcc
    have HODM : Hid (Od M) := hod
    clear HL HA hcc hod hle
    by_cases hn1 : 1000 < n
    · have hct : ctn n M = false := by unfold ctn; rw [decide_eq_false (by omega)]; simp
      have HF : Hid (wrV m n = M ∧ wrN m n = (j : Int)) := by
        rw [hct] at hfv hfc
        exact ⟨hfv, by simpa using hfc⟩
      have f1 : decide (n ≤ 1000) = false := by simp; omega
      clear hfv hfc hct
      have hMx : wrV m n = M := HF.out.1
      have hkj : wrN m n = (j : Int) := HF.out.2
      have e9 : (wrN m n != (j : Int)) = false := by rw [hkj]; simp
      have HSX : Hid (∀ u, Rcs u x1 (wrV m n).c.C → Rcs u x2 (wrV m n).e.C → Rcs u vc M.c.C → Rcs u ve' M.e.C → Calls Try.prog 15 #[agv (mvl x1 x2 (wrV m n)), agv (mvl vc ve' M)] u fun e w' => e = .returned (.bool true) ∧ Below u.heap.size u w') := fun u h1 h2 h3 h4 => by
        rw [hMx] at h1 h2 ⊢
        exact same_mc x1 x2 vc ve' M u h1 h2 h3 h4 HODM.out.B
      rw [HCC.out] at HSX
      have GX : Hid (0 + 606 ≤ (mvl x1 x2 (wrV m n)).length) := by show _ ≤ _; rw [HXV.out.len]; exact Nat.le_refl _
      have AX : Hid (cv (mvl x1 x2 (wrV m n)) 0 606 = mvl x1 x2 (wrV m n)) := cv_all HXV.out.len
      have HYV : Hid (Vs (mvl vc ve' M) 606) := mvl_vs HOVC.out (rcs_one (hM.read (b := b) (x := ve') (C := M.e.C) (by simp))) HODM.out.B
      have GY : Hid (0 + 606 ≤ (mvl vc ve' M).length) := by show _ ≤ _; rw [HYV.out.len]; exact Nat.le_refl _
      have AY : Hid (cv (mvl vc ve' M) 0 606 = mvl vc ve' M) := cv_all HYV.out.len
      clear hMx hkj
      generalize wrN m n = kN at *
      repeat' (first | (go_big_may; first | (refine v_load rfl rfl row_mach rfl hM.at1 GX.out AX.out ?_) | (refine v_load rfl rfl row_mach rfl hM.at0 GY.out AY.out ?_)) | go_values | go_skip | go_guarded | go_step | go_upon | (simp only [Int.not_lt, Int.not_le] at *; go_simp))
      refine (HSX.out _ (hM.read (b := true) (by simp)) (hM.read (b := true) (by simp)) (hM.read (b := false) (by simp)) (hM.read (b := b) (by simp))).mono ?_
      rintro r v1 ⟨rfl, hv⟩
      replace hM := hM.call hv
      clear hv
      repeat' (first | (go_big_may; first | (refine v_load rfl rfl row_mach rfl hM.at2 HL0.out HA0.out ?_)) | go_values | go_skip | go_guarded | go_step | go_upon | (simp only [Int.not_lt, Int.not_le] at *; go_simp))
      refine (HRP.out _ hM.below).mono ?_
      rintro r v2 ⟨p1, p2, rfl, ht⟩
      have HPV : Hid (Vs (mvl p1 p2 (rpV m)) 606) := mvl_vs (rcs_one ht.c.rcs) (rcs_one ht.e.rcs) HRW.out
      have GP : Hid (0 + 606 ≤ (mvl p1 p2 (rpV m)).length) := by show _ ≤ _; rw [HPV.out.len]; exact Nat.le_refl _
      have AP : Hid (cv (mvl p1 p2 (rpV m)) 0 606 = mvl p1 p2 (rpV m)) := cv_all HPV.out.len
      replace hM := (hM.tel ht.c ht.below).add (b := true) (ht.e.mono hM.below.size)
      clear ht
      repeat' (first | (go_big_may; first | (refine v_alloc rfl zer_mach rfl ?_; intro u xp hN; replace hM := hM.new hN (by decide); clear hN) | (refine v_alloc rfl zer_event rfl ?_; intro u xq hN; replace hM := hM.new hN (by decide); clear hN) | (refine v_fill rfl rfl row_mach rfl rfl hM.at1 HPV.out HZ.out ?_; intro u hv hc; replace hM := hM.put1 hc hv; clear hv hc) | (refine v_fill rfl rfl row_event rfl rfl hM.at0 HEV.out HZE.out ?_; intro u hv hc; replace hM := hM.put0 hc hv; clear hv hc) | (refine v_load rfl rfl row_mach rfl hM.at4 HL0.out HA0.out ?_)) | go_values | go_skip | go_guarded | go_step | go_upon | (simp only [Int.not_lt, Int.not_le] at *; go_simp))
      refine (HRD.out _ hM.below).mono ?_
      rintro r v3 ⟨rfl, hv⟩
      replace hM := hM.call hv
      clear hv
      repeat' (first | (go_big_may; first | (refine v_alloc rfl zer_mach rfl ?_; intro u xs hN; replace hM := hM.new hN (by decide); clear hN) | (refine v_alloc rfl zer_event rfl ?_; intro u xt hN; replace hM := hM.new hN (by decide); clear hN) | (refine v_fill rfl rfl row_mach rfl rfl hM.at1 HQV.out HZ.out ?_; intro u hv hc; replace hM := hM.put1 hc hv; clear hv hc) | (refine v_fill rfl rfl row_event rfl rfl hM.at0 HEV.out HZE.out ?_; intro u hv hc; replace hM := hM.put0 hc hv; clear hv hc) | (refine v_load rfl rfl row_mach rfl hM.at3 GP.out AP.out ?_) | (refine v_load rfl rfl row_mach rfl hM.at1 GQ.out AQ.out ?_)) | go_values | go_skip | go_guarded | go_step | go_upon | (simp only [Int.not_lt, Int.not_le] at *; go_simp))
      refine (HSR.out p1 p2 _ (hM.read (b := true) (by simp)) (hM.read (b := true) (by simp)) (by rw [HRC.out.1]; exact hM.read (b := false) (by simp)) (by rw [HRC.out.2]; exact hM.read (b := false) (by simp))).mono ?_
      rintro r v4 ⟨rfl, hv⟩
      replace hM := hM.call hv
      clear hv
      repeat' (first | (go_big_may; first | (refine v_load rfl rfl row_event rfl hM.at2 HLE.out HAE.out ?_) | (refine v_load rfl rfl row_event rfl hM.at0 HLE.out HAE.out ?_) | (refine slots.a_eql rfl rfl cmp_event (l := EVL) (m := EVL) rfl rfl HEL.out HEL.out ?_; rw [decide_eq_true (rfl : EVL = EVL)])) | go_values | go_skip | go_guarded | go_step | go_upon | (simp only [Int.not_lt, Int.not_le] at *; go_simp))
      go_ret
      exact ⟨rfl, hM.below⟩
    have f1 : decide (n ≤ 1000) = true := by simp; omega
    by_cases hn2 : ¬ (j : Int) < n
    · have HF : Hid (wrV m n = M ∧ wrN m n = (j : Int)) := by
        have hz : n.toNat - j = 0 := by omega
        rw [hz] at hfv hfc
        refine ⟨?_, ?_⟩
        · rw [hfv]; split <;> rfl
        · rw [hfc]; split <;> simp [wkN]
      have f2 : decide ((j : Int) < n) = false := by simp; omega
      clear hfv hfc
      have hMx : wrV m n = M := HF.out.1
      have hkj : wrN m n = (j : Int) := HF.out.2
      have e9 : (wrN m n != (j : Int)) = false := by rw [hkj]; simp
      have HSX : Hid (∀ u, Rcs u x1 (wrV m n).c.C → Rcs u x2 (wrV m n).e.C → Rcs u vc M.c.C → Rcs u ve' M.e.C → Calls Try.prog 15 #[agv (mvl x1 x2 (wrV m n)), agv (mvl vc ve' M)] u fun e w' => e = .returned (.bool true) ∧ Below u.heap.size u w') := fun u h1 h2 h3 h4 => by
        rw [hMx] at h1 h2 ⊢
        exact same_mc x1 x2 vc ve' M u h1 h2 h3 h4 HODM.out.B
      rw [HCC.out] at HSX
      have GX : Hid (0 + 606 ≤ (mvl x1 x2 (wrV m n)).length) := by show _ ≤ _; rw [HXV.out.len]; exact Nat.le_refl _
      have AX : Hid (cv (mvl x1 x2 (wrV m n)) 0 606 = mvl x1 x2 (wrV m n)) := cv_all HXV.out.len
      have HYV : Hid (Vs (mvl vc ve' M) 606) := mvl_vs HOVC.out (rcs_one (hM.read (b := b) (x := ve') (C := M.e.C) (by simp))) HODM.out.B
      have GY : Hid (0 + 606 ≤ (mvl vc ve' M).length) := by show _ ≤ _; rw [HYV.out.len]; exact Nat.le_refl _
      have AY : Hid (cv (mvl vc ve' M) 0 606 = mvl vc ve' M) := cv_all HYV.out.len
      clear hMx hkj
      generalize wrN m n = kN at *
      repeat' (first | (go_big_may; first | (refine v_load rfl rfl row_mach rfl hM.at1 GX.out AX.out ?_) | (refine v_load rfl rfl row_mach rfl hM.at0 GY.out AY.out ?_)) | go_values | go_skip | go_guarded | go_step | go_upon | (simp only [Int.not_lt, Int.not_le] at *; go_simp))
      refine (HSX.out _ (hM.read (b := true) (by simp)) (hM.read (b := true) (by simp)) (hM.read (b := false) (by simp)) (hM.read (b := b) (by simp))).mono ?_
      rintro r v1 ⟨rfl, hv⟩
      replace hM := hM.call hv
      clear hv
      repeat' (first | (go_big_may; first | (refine v_load rfl rfl row_mach rfl hM.at2 HL0.out HA0.out ?_)) | go_values | go_skip | go_guarded | go_step | go_upon | (simp only [Int.not_lt, Int.not_le] at *; go_simp))
      refine (HRP.out _ hM.below).mono ?_
      rintro r v2 ⟨p1, p2, rfl, ht⟩
      have HPV : Hid (Vs (mvl p1 p2 (rpV m)) 606) := mvl_vs (rcs_one ht.c.rcs) (rcs_one ht.e.rcs) HRW.out
      have GP : Hid (0 + 606 ≤ (mvl p1 p2 (rpV m)).length) := by show _ ≤ _; rw [HPV.out.len]; exact Nat.le_refl _
      have AP : Hid (cv (mvl p1 p2 (rpV m)) 0 606 = mvl p1 p2 (rpV m)) := cv_all HPV.out.len
      replace hM := (hM.tel ht.c ht.below).add (b := true) (ht.e.mono hM.below.size)
      clear ht
      repeat' (first | (go_big_may; first | (refine v_alloc rfl zer_mach rfl ?_; intro u xp hN; replace hM := hM.new hN (by decide); clear hN) | (refine v_alloc rfl zer_event rfl ?_; intro u xq hN; replace hM := hM.new hN (by decide); clear hN) | (refine v_fill rfl rfl row_mach rfl rfl hM.at1 HPV.out HZ.out ?_; intro u hv hc; replace hM := hM.put1 hc hv; clear hv hc) | (refine v_fill rfl rfl row_event rfl rfl hM.at0 HEV.out HZE.out ?_; intro u hv hc; replace hM := hM.put0 hc hv; clear hv hc) | (refine v_load rfl rfl row_mach rfl hM.at4 HL0.out HA0.out ?_)) | go_values | go_skip | go_guarded | go_step | go_upon | (simp only [Int.not_lt, Int.not_le] at *; go_simp))
      refine (HRD.out _ hM.below).mono ?_
      rintro r v3 ⟨rfl, hv⟩
      replace hM := hM.call hv
      clear hv
      repeat' (first | (go_big_may; first | (refine v_alloc rfl zer_mach rfl ?_; intro u xs hN; replace hM := hM.new hN (by decide); clear hN) | (refine v_alloc rfl zer_event rfl ?_; intro u xt hN; replace hM := hM.new hN (by decide); clear hN) | (refine v_fill rfl rfl row_mach rfl rfl hM.at1 HQV.out HZ.out ?_; intro u hv hc; replace hM := hM.put1 hc hv; clear hv hc) | (refine v_fill rfl rfl row_event rfl rfl hM.at0 HEV.out HZE.out ?_; intro u hv hc; replace hM := hM.put0 hc hv; clear hv hc) | (refine v_load rfl rfl row_mach rfl hM.at3 GP.out AP.out ?_) | (refine v_load rfl rfl row_mach rfl hM.at1 GQ.out AQ.out ?_)) | go_values | go_skip | go_guarded | go_step | go_upon | (simp only [Int.not_lt, Int.not_le] at *; go_simp))
      refine (HSR.out p1 p2 _ (hM.read (b := true) (by simp)) (hM.read (b := true) (by simp)) (by rw [HRC.out.1]; exact hM.read (b := false) (by simp)) (by rw [HRC.out.2]; exact hM.read (b := false) (by simp))).mono ?_
      rintro r v4 ⟨rfl, hv⟩
      replace hM := hM.call hv
      clear hv
      repeat' (first | (go_big_may; first | (refine v_load rfl rfl row_event rfl hM.at2 HLE.out HAE.out ?_) | (refine v_load rfl rfl row_event rfl hM.at0 HLE.out HAE.out ?_) | (refine slots.a_eql rfl rfl cmp_event (l := EVL) (m := EVL) rfl rfl HEL.out HEL.out ?_; rw [decide_eq_true (rfl : EVL = EVL)])) | go_values | go_skip | go_guarded | go_step | go_upon | (simp only [Int.not_lt, Int.not_le] at *; go_simp))
      go_ret
      exact ⟨rfl, hM.below⟩
    have hn2 : (j : Int) < n := by omega
    have f2 : decide ((j : Int) < n) = true := by simp; omega
    have hsub : n.toNat - j = (n.toNat - (j + 1)) + 1 := by omega
    have HYV0 : Hid (Vs (mvl vc ve' M) 606) := mvl_vs HOVC.out (rcs_one (hM.read (b := b) (x := ve') (C := M.e.C) (by simp))) HODM.out.B
    have GY0 : Hid (0 + 606 ≤ (mvl vc ve' M).length) := by show _ ≤ _; rw [HYV0.out.len]; exact Nat.le_refl _
    have AY0 : Hid (cv (mvl vc ve' M) 0 606 = mvl vc ve' M) := cv_all HYV0.out.len
    cases hst : (rtB M && stB M)
    · have HWO : Hid (∀ u, Rcs u vc m.c.C → Rcs u ve' M.e.C → Calls Try.prog 17 #[agv (mvl vc ve' M)] u fun e w' => e = .returned (.tuple #[agv (mvl vc ve' M), .bool false]) ∧ Below u.heap.size u w') := fun u h1 h2 => worked_no vc ve' M u (HODM.out.inn (by rw [HCC.out]; exact h1) h2) hst
      have HF : Hid (wrV m n = M ∧ wrN m n = (j : Int)) := by
        cases hr : rtB M
        · have hct : ctn n M = false := by unfold ctn; rw [hr]; rfl
          rw [hct] at hfv hfc
          exact ⟨hfv, by simpa using hfc⟩
        · rw [hr, Bool.true_and] at hst
          rw [hsub, wk_at, hst] at hfv
          rw [hsub, wn_at, hst] at hfc
          have e : ∀ c : Bool, (if c = true then (if (false : Bool) = true then wkV (n.toNat - (j + 1)) (stV M) else M) else M) = M := fun c => by cases c <;> rfl
          rw [e] at hfv
          refine ⟨hfv, ?_⟩
          rw [hfc]
          split <;> simp
      clear hfv hfc hst hsub
      repeat' (first | (go_big_may; first | (refine v_load rfl rfl row_mach rfl hM.at0 GY0.out AY0.out ?_)) | go_values | go_skip | go_guarded | go_step | go_upon | (simp only [Int.not_lt, Int.not_le] at *; go_simp))
      refine (HWO.out _ (hM.read (b := false) (by simp)) (hM.read (b := b) (by simp))).mono ?_
      rintro r v0 ⟨rfl, hv⟩
      replace hM := hM.call hv
      clear hv
      have hMx : wrV m n = M := HF.out.1
      have hkj : wrN m n = (j : Int) := HF.out.2
      have e9 : (wrN m n != (j : Int)) = false := by rw [hkj]; simp
      have HSX : Hid (∀ u, Rcs u x1 (wrV m n).c.C → Rcs u x2 (wrV m n).e.C → Rcs u vc M.c.C → Rcs u ve' M.e.C → Calls Try.prog 15 #[agv (mvl x1 x2 (wrV m n)), agv (mvl vc ve' M)] u fun e w' => e = .returned (.bool true) ∧ Below u.heap.size u w') := fun u h1 h2 h3 h4 => by
        rw [hMx] at h1 h2 ⊢
        exact same_mc x1 x2 vc ve' M u h1 h2 h3 h4 HODM.out.B
      rw [HCC.out] at HSX
      have GX : Hid (0 + 606 ≤ (mvl x1 x2 (wrV m n)).length) := by show _ ≤ _; rw [HXV.out.len]; exact Nat.le_refl _
      have AX : Hid (cv (mvl x1 x2 (wrV m n)) 0 606 = mvl x1 x2 (wrV m n)) := cv_all HXV.out.len
      have HYV : Hid (Vs (mvl vc ve' M) 606) := mvl_vs HOVC.out (rcs_one (hM.read (b := b) (x := ve') (C := M.e.C) (by simp))) HODM.out.B
      have GY : Hid (0 + 606 ≤ (mvl vc ve' M).length) := by show _ ≤ _; rw [HYV.out.len]; exact Nat.le_refl _
      have AY : Hid (cv (mvl vc ve' M) 0 606 = mvl vc ve' M) := cv_all HYV.out.len
      clear hMx hkj
      generalize wrN m n = kN at *
      repeat' (first | (go_big_may; first | (refine v_alloc rfl zer_mach rfl ?_; intro u xz hN; replace hM := hM.new hN (by decide); clear hN) | (refine v_fill rfl rfl row_mach rfl rfl hM.at0 HYV0.out HZ.out ?_; intro u hv hc; replace hM := hM.put0 hc hv; clear hv hc) | (refine v_load rfl rfl row_mach rfl hM.at2 GX.out AX.out ?_) | (refine v_load rfl rfl row_mach rfl hM.at1 GY.out AY.out ?_)) | go_values | go_skip | go_guarded | go_step | go_upon | (simp only [Int.not_lt, Int.not_le] at *; go_simp))
      replace hM := hM.tail
      refine (HSX.out _ (hM.read (b := true) (by simp)) (hM.read (b := true) (by simp)) (hM.read (b := false) (by simp)) (hM.read (b := b) (by simp))).mono ?_
      rintro r v1 ⟨rfl, hv⟩
      replace hM := hM.call hv
      clear hv
      repeat' (first | (go_big_may; first | (refine v_load rfl rfl row_mach rfl hM.at2 HL0.out HA0.out ?_)) | go_values | go_skip | go_guarded | go_step | go_upon | (simp only [Int.not_lt, Int.not_le] at *; go_simp))
      refine (HRP.out _ hM.below).mono ?_
      rintro r v2 ⟨p1, p2, rfl, ht⟩
      have HPV : Hid (Vs (mvl p1 p2 (rpV m)) 606) := mvl_vs (rcs_one ht.c.rcs) (rcs_one ht.e.rcs) HRW.out
      have GP : Hid (0 + 606 ≤ (mvl p1 p2 (rpV m)).length) := by show _ ≤ _; rw [HPV.out.len]; exact Nat.le_refl _
      have AP : Hid (cv (mvl p1 p2 (rpV m)) 0 606 = mvl p1 p2 (rpV m)) := cv_all HPV.out.len
      replace hM := (hM.tel ht.c ht.below).add (b := true) (ht.e.mono hM.below.size)
      clear ht
      repeat' (first | (go_big_may; first | (refine v_alloc rfl zer_mach rfl ?_; intro u xp hN; replace hM := hM.new hN (by decide); clear hN) | (refine v_alloc rfl zer_event rfl ?_; intro u xq hN; replace hM := hM.new hN (by decide); clear hN) | (refine v_fill rfl rfl row_mach rfl rfl hM.at1 HPV.out HZ.out ?_; intro u hv hc; replace hM := hM.put1 hc hv; clear hv hc) | (refine v_fill rfl rfl row_event rfl rfl hM.at0 HEV.out HZE.out ?_; intro u hv hc; replace hM := hM.put0 hc hv; clear hv hc) | (refine v_load rfl rfl row_mach rfl hM.at4 HL0.out HA0.out ?_)) | go_values | go_skip | go_guarded | go_step | go_upon | (simp only [Int.not_lt, Int.not_le] at *; go_simp))
      refine (HRD.out _ hM.below).mono ?_
      rintro r v3 ⟨rfl, hv⟩
      replace hM := hM.call hv
      clear hv
      repeat' (first | (go_big_may; first | (refine v_alloc rfl zer_mach rfl ?_; intro u xs hN; replace hM := hM.new hN (by decide); clear hN) | (refine v_alloc rfl zer_event rfl ?_; intro u xt hN; replace hM := hM.new hN (by decide); clear hN) | (refine v_fill rfl rfl row_mach rfl rfl hM.at1 HQV.out HZ.out ?_; intro u hv hc; replace hM := hM.put1 hc hv; clear hv hc) | (refine v_fill rfl rfl row_event rfl rfl hM.at0 HEV.out HZE.out ?_; intro u hv hc; replace hM := hM.put0 hc hv; clear hv hc) | (refine v_load rfl rfl row_mach rfl hM.at3 GP.out AP.out ?_) | (refine v_load rfl rfl row_mach rfl hM.at1 GQ.out AQ.out ?_)) | go_values | go_skip | go_guarded | go_step | go_upon | (simp only [Int.not_lt, Int.not_le] at *; go_simp))
      refine (HSR.out p1 p2 _ (hM.read (b := true) (by simp)) (hM.read (b := true) (by simp)) (by rw [HRC.out.1]; exact hM.read (b := false) (by simp)) (by rw [HRC.out.2]; exact hM.read (b := false) (by simp))).mono ?_
      rintro r v4 ⟨rfl, hv⟩
      replace hM := hM.call hv
      clear hv
      repeat' (first | (go_big_may; first | (refine v_load rfl rfl row_event rfl hM.at2 HLE.out HAE.out ?_) | (refine v_load rfl rfl row_event rfl hM.at0 HLE.out HAE.out ?_) | (refine slots.a_eql rfl rfl cmp_event (l := EVL) (m := EVL) rfl rfl HEL.out HEL.out ?_; rw [decide_eq_true (rfl : EVL = EVL)])) | go_values | go_skip | go_guarded | go_step | go_upon | (simp only [Int.not_lt, Int.not_le] at *; go_simp))
      go_ret
      exact ⟨rfl, hM.below⟩
    · have hst2 := (Bool.and_eq_true _ _).mp hst
      have hct : ctn n M = true := by unfold ctn; rw [hst2.1, f1]; rfl
      have HWO : Hid (∀ u, Rcs u vc m.c.C → Rcs u ve' M.e.C → Calls Try.prog 17 #[agv (mvl vc ve' M)] u fun e w' => ∃ ve2, e = .returned (.tuple #[agv (mvl vc ve2 (stV M)), .bool true]) ∧ Ces w' u.heap.size ve2 (stV M).e.C ∧ Below u.heap.size u w') := fun u h1 h2 => worked_is vc ve' M u (HODM.out.inn (by rw [HCC.out]; exact h1) h2) hst2.1 hst2.2
      have HF2 : Hid ((wrV m n = if ctn n (stV M) = true then wkV (n.toNat - (j + 1)) (stV M) else stV M) ∧ wrN m n = ((j + 1 : Nat) : Int) + (if ctn n (stV M) = true then (wkN (n.toNat - (j + 1)) (stV M) : Int) else 0)) := by
        have hr2 : rtB (stV M) = true := (Fit.st ⟨hst2.1, HODM.out.B, HODM.out.wc, HODM.out.we⟩ : Fit (stV M)).r
        have hct2 : ctn n (stV M) = true := by unfold ctn; rw [hr2, f1]; rfl
        rw [hct, if_pos rfl, hsub, wk_at, hst2.2, if_pos rfl] at hfv
        rw [hct, if_pos rfl, hsub, wn_at, hst2.2, if_pos rfl] at hfc
        rw [hct2, if_pos rfl, if_pos rfl]
        exact ⟨hfv, by rw [hfc]; omega⟩
      have HO2 : Hid (Od (stV M)) := HODM.out.st hst2.1
      have HC2 : Hid ((stV M).c.C = m.c.C) := HCC.out
      clear hfv hfc hst hst2 hsub hct
      generalize hM2 : stV M = M2 at *
      clear hM2
      repeat' (first | (go_big_may; first | (refine v_load rfl rfl row_mach rfl hM.at0 GY0.out AY0.out ?_)) | go_values | go_skip | go_guarded | go_step | go_upon | (simp only [Int.not_lt, Int.not_le] at *; go_simp))
      refine (HWO.out _ (hM.read (b := false) (by simp)) (hM.read (b := b) (by simp))).mono ?_
      rintro r v0 ⟨ve2, rfl, hces, hb⟩
      have H6 : Hid (Vs (mvl vc ve2 M2) 606) := mvl_vs HOVC.out (rcs_one hces.rcs) HO2.out.B
      have GL6 : Hid (0 + 606 ≤ (mvl vc ve2 M2).length) := by show _ ≤ _; rw [H6.out.len]; exact Nat.le_refl _
      have GA6 : Hid (cv (mvl vc ve2 M2) 0 606 = mvl vc ve2 M2) := cv_all H6.out.len
      replace hM := hM.tel hces hb
      clear hces hb
      repeat' (first | (go_big_may; first | (refine v_alloc rfl zer_mach rfl ?_; intro u xz hN; replace hM := hM.new hN (by decide); clear hN) | (refine v_fill rfl rfl row_mach rfl rfl hM.at0 H6.out HZ.out ?_; intro u hv hc; replace hM := hM.put0 hc hv; clear hv hc) | (refine v_load rfl rfl row_mach rfl hM.at0 GL6.out GA6.out ?_) | (refine v_fill rfl rfl row_mach rfl rfl hM.at1 H6.out HYV0.out.len ?_; intro u hv hc; replace hM := hM.put1 hc hv; clear hv hc)) | go_values | go_skip | go_guarded | go_step | go_upon | (simp only [Int.not_lt, Int.not_le] at *; go_simp))
      go_roundw
      case rel => exact ⟨j + 1, by go_num, by omega, true, ve2, M2, hM.tail.sub (List.Sublist.refl _) (by intro y hy; simp only [List.mem_cons, List.not_mem_nil, or_false] at hy ⊢; rcases hy with h | h | h | h | h <;> simp [h]), HC2.out, HO2.out, HF2.out.1, HF2.out.2, by omega⟩
      case measure => simp [intOf]; omega
theorem walk (vc ve : Value) (m : Mc) (k n e a : Int) (num : Int) (wn : (Lit.int .i64 num).wf = true) (w : World) (hp : Hd w vc ve m) (hk : m.c.C.length * 24 ≤ reachBytes ∧ m.e.C.length * 24 ≤ reachBytes) (hc : InB k n e a) : Calls Try.prog 4 #[agv (mvl vc ve m), ag [k, n, e, a], .int .i64 num] w fun r w' => r = .returned (.bool true) ∧ Below w.heap.size w w' := by
  have hb := bounds_i64 wn
  exact walk0 vc ve m (k, n, e, a) num w (hp.inn hk) hb.1 hb.2
end Go.Proofs.Ythjmcopknkemnaa.hostSteps
