/- bulk: what take tells. -/
import Derived.Test.YtecknicmonhcaabDoorBulE
import Derived.Test.YtecknicmonhcaabDoorBulF
import Derived.Test.YtecknicmonhcaabDoorBulG
namespace Go.Proofs.YtecknicmonhcaabDoor.bulk
open Go Go.RowKit Go.PlainAid Go.Proofs.YtecknicmonhcaabDoor.lane Go.Proofs.YtecknicmonhcaabDoor.pipe Go.Proofs.YtecknicmonhcaabDoor.strike
open Go.Proofs.YtecknicmonhcaabDoor.scsi (Dk chkC chk_iff check_any)
set_option linter.unusedVariables false
set_option linter.unusedSimpArgs false
set_option maxRecDepth 100000

set_option maxHeartbeats 8000000 in
theorem take_any (v : Value) (d : Dk) (s t : ByteArray) (w : World) (h : Rts w v d.b) (hs : s.size ≤ maxLen) (ht : t.size ≤ maxLen) :
    Calls Tryd.prog 17 #[ag (dkl v d.s), .string s, .string t] w fun e w' => e = .returned (.tuple #[ag (wpl (tkW d s)), ag (vdl (tkV d s)), .int .i64 (tkE d s t)]) ∧ Below w.heap.size w w' := by
  have HK : Hid (∀ u, Rts u v d.b → Calls Tryd.prog 31 #[ag (dkl v d.s)] u fun e w' => e = .returned (.int .i64 (chkC d)) ∧ Below u.heap.size u w') := fun u hu => check_any v d.b d.s u hu
  have HRW : Hid (∀ u, Calls Tryd.prog 32 #[.string s] u fun e w' => e = .returned (.tuple #[ag (wpl (rdW s)), .int .i64 (rdC s)]) ∧ Below u.heap.size u w') := fun u => readWrap_any s hs u
  have HO : Hid (v.oneCell' = true) := txs_one h
  have hC0 := rtp h
  have hM := Mm.nil w
  by_cases h1 : chkC d ≠ 0
  · have HW : Hid (tkW d s = wp0 ∧ tkV d s = vd0 ∧ tkE d s t = chkC d) := ⟨if_pos h1, if_pos h1, if_pos h1⟩
    rw [HW.out.1, HW.out.2.1, HW.out.2.2]
    have e1 : (chkC d != 0) = true := by rw [bne_iff_ne]; exact h1
    generalize chkC d = z at *
    clear h1 HRW hs ht h HW
    go_enter Tryd.func17, Tryd.ntmps17
    repeat' (first | (go_big_may; first | (refine v_box rfl rfl rfl ?_; intro u zd hN; replace hM := hM.new hN; clear hN) | (refine v_alloc rfl zer_wrap rfl ?_; intro u za hN; replace hM := hM.new hN; clear hN) | (refine v_alloc rfl zer_verdict rfl ?_; intro u zb hN; replace hM := hM.new hN; clear hN) | (refine v_load rfl rfl row_disk rfl hM.at2 (Nat.le_refl _) (cut_all rfl) ?_)) | go_values | go_skip | go_guarded | go_step | go_upon | (simp only [Int.not_lt, Int.not_le] at *; go_simp))
    refine (HK.out _ (hC0.call hM.below).out).mono ?_
    rintro e u1 ⟨rfl, hb⟩
    replace hM := hM.call hb
    clear hb HK hC0
    repeat' (first | (go_big_may; first | (refine v_build rfl rfl bld_wrap0 ?hbv ?_; (case hbv => simp [Act.eval, Act.put])) | (refine v_build rfl rfl bld_verdict0 ?hbv ?_; (case hbv => simp [Act.eval, Act.put])) | (refine v_fill rfl rfl row_wrap rfl rfl hM.at1 (wpl_vs _) rfl ?_; intro u hv hc; replace hM := hM.put1 hc hv; clear hv hc) | (refine v_fill rfl rfl row_verdict rfl rfl hM.at0 (vdl_vs _) rfl ?_; intro u hv hc; replace hM := hM.put0 hc hv; clear hv hc)) | go_values | go_skip | go_guarded | go_step | go_upon | (simp only [Int.not_lt, Int.not_le] at *; go_simp))
    exact bodyPost_ret (ret_cct rfl rfl (ld_var row_wrap hM.at1 rfl) rfl (ld_var row_verdict hM.at0 rfl) rfl) rfl ⟨rfl, hM.below⟩
  have hd : chkC d = 0 := Classical.not_not.1 h1
  by_cases h2 : rdC s ≠ 0 ∨ (rdW s).unit ≠ 0
  · have HW : Hid (tkW d s = wp0 ∧ tkV d s = vd0 ∧ tkE d s t = 8) := ⟨(if_neg h1).trans (if_pos h2), (if_neg h1).trans (if_pos h2), (if_neg h1).trans (if_pos h2)⟩
    rw [HW.out.1, HW.out.2.1, HW.out.2.2]
    rw [hd] at HK
    generalize rdW s = x at *
    generalize rdC s = z at *
    by_cases hz : z = 0
    · have e1 : (z != 0) = false := by simpa using hz
      have e2 : (x.unit != 0) = true := by
        rcases h2 with q | q
        · exact absurd hz q
        · simpa using q
      clear h1 hs ht h HW hd h2 hz
      go_enter Tryd.func17, Tryd.ntmps17
      repeat' (first | (go_big_may; first | (refine v_box rfl rfl rfl ?_; intro u zd hN; replace hM := hM.new hN; clear hN) | (refine v_alloc rfl zer_wrap rfl ?_; intro u za hN; replace hM := hM.new hN; clear hN) | (refine v_alloc rfl zer_verdict rfl ?_; intro u zb hN; replace hM := hM.new hN; clear hN) | (refine v_load rfl rfl row_disk rfl hM.at2 (Nat.le_refl _) (cut_all rfl) ?_)) | go_values | go_skip | go_guarded | go_step | go_upon | (simp only [Int.not_lt, Int.not_le] at *; go_simp))
      refine (HK.out _ (hC0.call hM.below).out).mono ?_
      rintro e u1 ⟨rfl, hb⟩
      replace hM := hM.call hb
      clear hb HK hC0
      repeat' (first | go_values | go_skip | go_guarded | go_step | go_upon | (simp only [Int.not_lt, Int.not_le] at *; go_simp))
      refine (HRW.out _).mono ?_
      rintro e u2 ⟨rfl, hb⟩
      replace hM := hM.call hb
      clear hb HRW
      repeat' (first | (go_big_may; first | (refine v_alloc rfl zer_wrap rfl ?_; intro u zw hN; replace hM := hM.new hN; clear hN) | (refine v_fill rfl rfl row_wrap rfl rfl hM.at0 (wpl_vs x) rfl ?_; intro u hv hc; replace hM := hM.put0 hc hv; clear hv hc) | (refine v_get rfl rfl (by first | exact lod_int | exact lod_str | exact lod_fcs | exact lod_err | exact lod_bool | exact lod_txs) rfl hM.at0 rfl ?_) | (refine v_build rfl rfl bld_wrap0 ?hbv ?_; (case hbv => simp [Act.eval, Act.put])) | (refine v_build rfl rfl bld_verdict0 ?hbv ?_; (case hbv => simp [Act.eval, Act.put])) | (refine v_fill rfl rfl row_wrap rfl rfl hM.at2 (wpl_vs wp0) rfl ?_; intro u hv hc; replace hM := hM.put2 hc hv; clear hv hc) | (refine v_fill rfl rfl row_verdict rfl rfl hM.at1 (vdl_vs _) rfl ?_; intro u hv hc; replace hM := hM.put1 hc hv; clear hv hc)) | go_values | go_skip | go_guarded | go_step | go_upon | (simp only [Int.not_lt, Int.not_le] at *; go_simp))
      exact bodyPost_ret (ret_cct rfl rfl (ld_var row_wrap hM.at2 rfl) rfl (ld_var row_verdict hM.at1 rfl) rfl) rfl ⟨rfl, hM.below⟩
    · have e1 : (z != 0) = true := by simpa using hz
      clear h1 hs ht h HW hd h2 hz
      go_enter Tryd.func17, Tryd.ntmps17
      repeat' (first | (go_big_may; first | (refine v_box rfl rfl rfl ?_; intro u zd hN; replace hM := hM.new hN; clear hN) | (refine v_alloc rfl zer_wrap rfl ?_; intro u za hN; replace hM := hM.new hN; clear hN) | (refine v_alloc rfl zer_verdict rfl ?_; intro u zb hN; replace hM := hM.new hN; clear hN) | (refine v_load rfl rfl row_disk rfl hM.at2 (Nat.le_refl _) (cut_all rfl) ?_)) | go_values | go_skip | go_guarded | go_step | go_upon | (simp only [Int.not_lt, Int.not_le] at *; go_simp))
      refine (HK.out _ (hC0.call hM.below).out).mono ?_
      rintro e u1 ⟨rfl, hb⟩
      replace hM := hM.call hb
      clear hb HK hC0
      repeat' (first | go_values | go_skip | go_guarded | go_step | go_upon | (simp only [Int.not_lt, Int.not_le] at *; go_simp))
      refine (HRW.out _).mono ?_
      rintro e u2 ⟨rfl, hb⟩
      replace hM := hM.call hb
      clear hb HRW
      repeat' (first | (go_big_may; first | (refine v_alloc rfl zer_wrap rfl ?_; intro u zw hN; replace hM := hM.new hN; clear hN) | (refine v_fill rfl rfl row_wrap rfl rfl hM.at0 (wpl_vs x) rfl ?_; intro u hv hc; replace hM := hM.put0 hc hv; clear hv hc) | (refine v_build rfl rfl bld_wrap0 ?hbv ?_; (case hbv => simp [Act.eval, Act.put])) | (refine v_build rfl rfl bld_verdict0 ?hbv ?_; (case hbv => simp [Act.eval, Act.put])) | (refine v_fill rfl rfl row_wrap rfl rfl hM.at2 (wpl_vs wp0) rfl ?_; intro u hv hc; replace hM := hM.put2 hc hv; clear hv hc) | (refine v_fill rfl rfl row_verdict rfl rfl hM.at1 (vdl_vs _) rfl ?_; intro u hv hc; replace hM := hM.put1 hc hv; clear hv hc)) | go_values | go_skip | go_guarded | go_step | go_upon | (simp only [Int.not_lt, Int.not_le] at *; go_simp))
      exact bodyPost_ret (ret_cct rfl rfl (ld_var row_wrap hM.at2 rfl) rfl (ld_var row_verdict hM.at1 rfl) rfl) rfl ⟨rfl, hM.below⟩
  have hr : rdC s = 0 := Classical.not_not.1 fun q => h2 (.inl q)
  have hu : (rdW s).unit = 0 := Classical.not_not.1 fun q => h2 (.inr q)
  obtain ⟨i1, i2, i3, i4⟩ := rd_is hr
  have hwk : wk (rdW s) = true := by rw [i1]; exact i2
  have hcm : (rdW s).cmd.size ≤ maxLen := by have := ((wk_iff _).1 hwk).2.2.2.2; unfold maxLen; omega
  have hcode : jdC (hsV (rdW s)) (dvV d (rdW s).cmd) = 0 := (sv_facts hd hwk).1
  have HW : Hid (tkW d s = rdW s ∧ tkV d s = svV d (rdW s) ∧ tkE d s t = if (hsV (rdW s)).dir = 2 ∧ (svV d (rdW s)).code ≠ 2 ∧ (t.size : Int) ≠ (rdW s).len then 3 else 0) := ⟨(if_neg h1).trans (if_neg h2), (if_neg h1).trans (if_neg h2), (if_neg h1).trans (if_neg h2)⟩
  rw [HW.out.1, HW.out.2.1, HW.out.2.2]
  rw [hd] at HK
  rw [hr] at HRW
  generalize rdW s = x at *
  have HHM : Hid (∀ u, Calls Tryd.prog 33 #[ag (wpl x)] u fun e w' => e = .returned (ag (mvl (hsV x))) ∧ Below u.heap.size u w') := fun u => hostMove_any x u
  have HDM : Hid (∀ u, Rts u v d.b → Calls Tryd.prog 34 #[ag (dkl v d.s), .string x.cmd] u fun e w' => e = .returned (ag (mvl (dvV d x.cmd))) ∧ Below u.heap.size u w') := fun u hu => deviceMove_any v d x.cmd u hu hd hcm
  have HJ : Hid (∀ u, Calls Tryd.prog 12 #[ag (mvl (hsV x)), ag (mvl (dvV d x.cmd))] u fun e w' => e = .returned (.tuple #[ag (vdl (svV d x)), .int .i64 0]) ∧ Below u.heap.size u w') := fun u => by
    have := judge_any (hsV x) (dvV d x.cmd) u
    rw [hcode] at this
    exact this
  have e1 : (x.unit != 0) = false := by simpa using hu
  generalize svV d x = V at *
  generalize dvV d x.cmd = D at *
  generalize hsV x = H at *
  clear h1 h2 hr hu i1 i2 i3 i4 hwk hcm hcode hd HW h hs
  go_enter Tryd.func17, Tryd.ntmps17
  repeat' (first | (go_big_may; first | (refine v_box rfl rfl rfl ?_; intro u zd hN; replace hM := hM.new hN; clear hN) | (refine v_alloc rfl zer_wrap rfl ?_; intro u za hN; replace hM := hM.new hN; clear hN) | (refine v_alloc rfl zer_verdict rfl ?_; intro u zb hN; replace hM := hM.new hN; clear hN) | (refine v_load rfl rfl row_disk rfl hM.at2 (Nat.le_refl _) (cut_all rfl) ?_)) | go_values | go_skip | go_guarded | go_step | go_upon | (simp only [Int.not_lt, Int.not_le] at *; go_simp))
  refine (HK.out _ (hC0.call hM.below).out).mono ?_
  rintro e u1 ⟨rfl, hb⟩
  replace hM := hM.call hb
  clear hb HK
  repeat' (first | go_values | go_skip | go_guarded | go_step | go_upon | (simp only [Int.not_lt, Int.not_le] at *; go_simp))
  refine (HRW.out _).mono ?_
  rintro e u2 ⟨rfl, hb⟩
  replace hM := hM.call hb
  clear hb HRW
  repeat' (first | (go_big_may; first | (refine v_alloc rfl zer_wrap rfl ?_; intro u zw hN; replace hM := hM.new hN; clear hN) | (refine v_fill rfl rfl row_wrap rfl rfl hM.at0 (wpl_vs x) rfl ?_; intro u hv hc; replace hM := hM.put0 hc hv; clear hv hc) | (refine v_get rfl rfl (by first | exact lod_int | exact lod_str | exact lod_fcs | exact lod_err | exact lod_bool | exact lod_txs) rfl hM.at0 rfl ?_) | (refine v_load rfl rfl row_wrap rfl hM.at0 (Nat.le_refl _) (cut_all rfl) ?_)) | go_values | go_skip | go_guarded | go_step | go_upon | (simp only [Int.not_lt, Int.not_le] at *; go_simp))
  refine (HHM.out _).mono ?_
  rintro e u3 ⟨rfl, hb⟩
  replace hM := hM.call hb
  clear hb HHM
  repeat' (first | (go_big_may; first | (refine v_alloc rfl zer_move rfl ?_; intro u zh hN; replace hM := hM.new hN; clear hN) | (refine v_fill rfl rfl row_move rfl rfl hM.at0 (mvl_vs H) rfl ?_; intro u hv hc; replace hM := hM.put0 hc hv; clear hv hc)) | go_values | go_skip | go_guarded | go_step | go_upon | (simp only [Int.not_lt, Int.not_le] at *; go_simp))
  have hCr := hC0.call hM.below
  go_simp
  go_cut [11, 13] from 37 to 46 (fun cv pv wx => ∃ zv : Nat, cv = .int .i64 0 ∧ pv = .pointer (some ⟨zv, 0, none⟩) ∧ Hid (Mm w wx [(zv, 44, vdl V), (zh, 48, mvl H), (zw, 31, wpl x), (zb, 44, vdl vd0), (za, 31, wpl wp0), (zd, 24, dkl v d.s)]))
  case first =>
    refine reg.wp_abs (fun a0 => a0.tmps.size = 66 ∧ (∀ h, a0.tmps[3]'h = .pointer (some ⟨zd, 0, none⟩)) ∧ (∀ h, a0.tmps[10]'h = .pointer (some ⟨zw, 0, none⟩)) ∧ (∀ h, a0.tmps[12]'h = .pointer (some ⟨zh, 0, none⟩))) ⟨rfl, fun _ => rfl, fun _ => rfl, fun _ => rfl⟩ ?_
    rintro a0 ⟨hsz, s3, s10, s12⟩ ha0
    refine reg.wp_region_E (S := fun W => Ls W [(zh, 48, (mvl H)), (zw, 31, (wpl x)), (zd, 24, (dkl v d.s))]) (E := fun _ => false) (by kernel_rfl) ?_
    replace hM := hM.drew
    replace hCr := hCr.call (Below.refl _ _).drew
    refine reg.e_take (i := 0) (ag ((mvl H))) rfl (by kernel_rfl) (by kernel_rfl) (by kernel_rfl) (by kernel_rfl) (fun _ _ _ h => h) (reg.wanted_none rfl) (hM.ls (by simp)) (fun W hW => ex_load rfl row_move (by simp [go_sem, Act.put, hsz, s3, s10, s12]) hW.at0 (Nat.le_refl 2) (cut_all rfl)) ?_
    refine reg.e_take (i := 1) (ag ((dkl v d.s))) rfl (by kernel_rfl) (by kernel_rfl) (by kernel_rfl) (by kernel_rfl) (fun _ _ _ h => h) (reg.wanted_none rfl) (hM.ls (by simp)) (fun W hW => ex_load rfl row_disk (by simp [go_sem, Act.put, hsz, s3, s10, s12]) hW.at2 (Nat.le_refl 2) (cut_all rfl)) ?_
    refine reg.e_take (i := 2) (.pointer (some ⟨zw, 4, none⟩)) rfl (by kernel_rfl) (by kernel_rfl) (by kernel_rfl) (by kernel_rfl) (fun _ _ _ h => h) (reg.wanted_none rfl) (hM.ls (by simp)) (fun W hW => by simp [execOp, go_sem, Act.put, hsz, s3, s10, s12]) ?_
    refine reg.e_take (i := 3) (.string x.cmd) rfl (by kernel_rfl) (by kernel_rfl) (by kernel_rfl) (by kernel_rfl) (fun _ _ _ h => h) (reg.wanted_none rfl) (hM.ls (by simp)) (fun W hW => ex_get rfl (by simp [go_sem, Act.put, hsz, s3, s10, s12]) hW.at1 (show (wpl x)[4]? = some _ from rfl)) ?_
    refine reg.e_two 4 9 (by kernel_rfl) rfl rfl ?_ ?_
    · refine reg.r_call (i := 4) 34 #[ag ((dkl v d.s)), .string x.cmd] rfl (reg.wanted_none rfl) (by simp [execOp, go_sem, Act.put, hsz, s3, s10, s12]) ((HDM.out _ hCr.out).mono ?_)
      rintro re ru1 ⟨rfl, rhv⟩
      replace hM := hM.call rhv
      replace hCr := hCr.call rhv
      clear rhv
      refine ⟨_, rfl, hM.ls (by simp), ?_⟩
      refine reg.e_two 5 9 (by kernel_rfl) rfl rfl ?_ ?_
      · refine reg.r_call (i := 5) 12 #[ag ((mvl H)), ag (mvl D)] rfl (reg.wanted_none rfl) (by simp [execOp, go_sem, Act.put, hsz, s3, s10, s12]) ((HJ.out _).mono ?_)
        rintro re ru2 ⟨rfl, rhv⟩
        replace hM := hM.call rhv
        replace hCr := hCr.call rhv
        clear rhv
        refine ⟨_, rfl, hM.ls (by simp), ?_⟩
        refine reg.e_take (i := 6) (.tuple #[ag (vdl V), .int .i64 0]) rfl (by kernel_rfl) (by kernel_rfl) (by kernel_rfl) (by kernel_rfl) (fun _ _ _ h => h) (reg.wanted_none rfl) (hM.ls (by simp)) (fun W hW => by simp [execOp, go_sem, Act.put, hsz, s3, s10, s12]) ?_
        refine reg.e_take (i := 7) (ag (vdl V)) rfl (by kernel_rfl) (by kernel_rfl) (by kernel_rfl) (by kernel_rfl) (fun _ _ _ h => h) (reg.wanted_none rfl) (hM.ls (by simp)) (fun W hW => by simp [execOp, go_sem, Act.put, hsz, s3, s10, s12]) ?_
        refine reg.e_take (i := 8) (.int .i64 0) rfl (by kernel_rfl) (by kernel_rfl) (by kernel_rfl) (by kernel_rfl) (fun _ _ _ h => h) (reg.wanted_none rfl) (hM.ls (by simp)) (fun W hW => by simp [execOp, go_sem, Act.put, hsz, s3, s10, s12]) ?_
        refine reg.e_one 9 (by kernel_rfl) rfl ?_
        refine r_alloc (i := 9) rfl (reg.wanted_none rfl) rfl zer_verdict ?_
        intro ru3 zv rhn
        replace hCr := hCr.call rhn.below
        replace hM := hM.new rhn
        clear rhn
        refine ⟨hM.ls (by simp), ?_⟩
        refine reg.e_one 10 (by kernel_rfl) rfl ?_
        refine r_fill (i := 10) rfl (reg.wanted_none rfl) rfl row_verdict (by simp [go_sem, Act.put, hsz, s3, s10, s12]) (by simp [go_sem, Act.put, hsz, s3, s10, s12]) hM.at0 (vdl_vs V) rfl ?_
        intro ru4 rhv rhc
        replace hM := hM.put0 rhc rhv
        clear rhc rhv
        refine ⟨hM.ls (by simp), ?_⟩
        refine reg.e_take (i := 11) (.int .i64 0) rfl (by kernel_rfl) (by kernel_rfl) (by kernel_rfl) (by kernel_rfl) (fun _ _ _ h => h) (reg.wanted_none rfl) (hM.ls (by simp)) (fun W hW => by simp [execOp, go_sem, Act.put, hsz, s3, s10, s12]) ?_
        refine reg.e_done (by kernel_rfl) ?_ _
        subst ha0
        clear hsz s3 s10 s12
        go_simp
        repeat' (first | go_values | go_skip | go_guarded | go_step | go_upon | (simp only [Int.not_lt, Int.not_le] at *; go_simp))
        go_meet
        case rel => exact ⟨zv, rfl, rfl, hM⟩
      · refine r_alloc (i := 9) rfl (reg.wanted_none rfl) rfl zer_verdict ?_
        intro ru5 zv rhn
        replace hCr := hCr.call rhn.below
        replace hM := hM.new rhn
        clear rhn
        refine ⟨hM.ls (by simp), ?_⟩
        refine reg.e_one 5 (by kernel_rfl) rfl ?_
        refine reg.r_call (i := 5) 12 #[ag ((mvl H)), ag (mvl D)] rfl (reg.wanted_none rfl) (by simp [execOp, go_sem, Act.put, hsz, s3, s10, s12]) ((HJ.out _).mono ?_)
        rintro re ru6 ⟨rfl, rhv⟩
        replace hM := hM.call rhv
        replace hCr := hCr.call rhv
        clear rhv
        refine ⟨_, rfl, hM.ls (by simp), ?_⟩
        refine reg.e_take (i := 6) (.tuple #[ag (vdl V), .int .i64 0]) rfl (by kernel_rfl) (by kernel_rfl) (by kernel_rfl) (by kernel_rfl) (fun _ _ _ h => h) (reg.wanted_none rfl) (hM.ls (by simp)) (fun W hW => by simp [execOp, go_sem, Act.put, hsz, s3, s10, s12]) ?_
        refine reg.e_take (i := 7) (ag (vdl V)) rfl (by kernel_rfl) (by kernel_rfl) (by kernel_rfl) (by kernel_rfl) (fun _ _ _ h => h) (reg.wanted_none rfl) (hM.ls (by simp)) (fun W hW => by simp [execOp, go_sem, Act.put, hsz, s3, s10, s12]) ?_
        refine reg.e_take (i := 8) (.int .i64 0) rfl (by kernel_rfl) (by kernel_rfl) (by kernel_rfl) (by kernel_rfl) (fun _ _ _ h => h) (reg.wanted_none rfl) (hM.ls (by simp)) (fun W hW => by simp [execOp, go_sem, Act.put, hsz, s3, s10, s12]) ?_
        refine reg.e_one 10 (by kernel_rfl) rfl ?_
        refine r_fill (i := 10) rfl (reg.wanted_none rfl) rfl row_verdict (by simp [go_sem, Act.put, hsz, s3, s10, s12]) (by simp [go_sem, Act.put, hsz, s3, s10, s12]) hM.at0 (vdl_vs V) rfl ?_
        intro ru7 rhv rhc
        replace hM := hM.put0 rhc rhv
        clear rhc rhv
        refine ⟨hM.ls (by simp), ?_⟩
        refine reg.e_take (i := 11) (.int .i64 0) rfl (by kernel_rfl) (by kernel_rfl) (by kernel_rfl) (by kernel_rfl) (fun _ _ _ h => h) (reg.wanted_none rfl) (hM.ls (by simp)) (fun W hW => by simp [execOp, go_sem, Act.put, hsz, s3, s10, s12]) ?_
        refine reg.e_done (by kernel_rfl) ?_ _
        subst ha0
        clear hsz s3 s10 s12
        go_simp
        repeat' (first | go_values | go_skip | go_guarded | go_step | go_upon | (simp only [Int.not_lt, Int.not_le] at *; go_simp))
        go_meet
        case rel => exact ⟨zv, rfl, rfl, hM⟩
    · refine r_alloc (i := 9) rfl (reg.wanted_none rfl) rfl zer_verdict ?_
      intro ru8 zv rhn
      replace hCr := hCr.call rhn.below
      replace hM := hM.new rhn
      clear rhn
      refine ⟨hM.ls (by simp), ?_⟩
      refine reg.e_one 4 (by kernel_rfl) rfl ?_
      refine reg.r_call (i := 4) 34 #[ag ((dkl v d.s)), .string x.cmd] rfl (reg.wanted_none rfl) (by simp [execOp, go_sem, Act.put, hsz, s3, s10, s12]) ((HDM.out _ hCr.out).mono ?_)
      rintro re ru9 ⟨rfl, rhv⟩
      replace hM := hM.call rhv
      replace hCr := hCr.call rhv
      clear rhv
      refine ⟨_, rfl, hM.ls (by simp), ?_⟩
      refine reg.e_one 5 (by kernel_rfl) rfl ?_
      refine reg.r_call (i := 5) 12 #[ag ((mvl H)), ag (mvl D)] rfl (reg.wanted_none rfl) (by simp [execOp, go_sem, Act.put, hsz, s3, s10, s12]) ((HJ.out _).mono ?_)
      rintro re ru10 ⟨rfl, rhv⟩
      replace hM := hM.call rhv
      replace hCr := hCr.call rhv
      clear rhv
      refine ⟨_, rfl, hM.ls (by simp), ?_⟩
      refine reg.e_take (i := 6) (.tuple #[ag (vdl V), .int .i64 0]) rfl (by kernel_rfl) (by kernel_rfl) (by kernel_rfl) (by kernel_rfl) (fun _ _ _ h => h) (reg.wanted_none rfl) (hM.ls (by simp)) (fun W hW => by simp [execOp, go_sem, Act.put, hsz, s3, s10, s12]) ?_
      refine reg.e_take (i := 7) (ag (vdl V)) rfl (by kernel_rfl) (by kernel_rfl) (by kernel_rfl) (by kernel_rfl) (fun _ _ _ h => h) (reg.wanted_none rfl) (hM.ls (by simp)) (fun W hW => by simp [execOp, go_sem, Act.put, hsz, s3, s10, s12]) ?_
      refine reg.e_take (i := 8) (.int .i64 0) rfl (by kernel_rfl) (by kernel_rfl) (by kernel_rfl) (by kernel_rfl) (fun _ _ _ h => h) (reg.wanted_none rfl) (hM.ls (by simp)) (fun W hW => by simp [execOp, go_sem, Act.put, hsz, s3, s10, s12]) ?_
      refine reg.e_one 10 (by kernel_rfl) rfl ?_
      refine r_fill (i := 10) rfl (reg.wanted_none rfl) rfl row_verdict (by simp [go_sem, Act.put, hsz, s3, s10, s12]) (by simp [go_sem, Act.put, hsz, s3, s10, s12]) hM.at0 (vdl_vs V) rfl ?_
      intro ru11 rhv rhc
      replace hM := hM.put0 rhc rhv
      clear rhc rhv
      refine ⟨hM.ls (by simp), ?_⟩
      refine reg.e_take (i := 11) (.int .i64 0) rfl (by kernel_rfl) (by kernel_rfl) (by kernel_rfl) (by kernel_rfl) (fun _ _ _ h => h) (reg.wanted_none rfl) (hM.ls (by simp)) (fun W hW => by simp [execOp, go_sem, Act.put, hsz, s3, s10, s12]) ?_
      refine reg.e_done (by kernel_rfl) ?_ _
      subst ha0
      clear hsz s3 s10 s12
      go_simp
      repeat' (first | go_values | go_skip | go_guarded | go_step | go_upon | (simp only [Int.not_lt, Int.not_le] at *; go_simp))
      go_meet
      case rel => exact ⟨zv, rfl, rfl, hM⟩
  case rest =>
  clear hM hCr hC0
  obtain ⟨zv, rfl, rfl, HX⟩ := hcut
  rename World => u4
  have hM := HX.out
  clear HX HDM HJ
  by_cases q1 : H.dir = 2
  case neg =>
    have HR : Hid ((if H.dir = 2 ∧ V.code ≠ 2 ∧ (t.size : Int) ≠ x.len then (3 : Int) else 0) = 0) := if_neg fun q => q1 q.1
    have f1 : (H.dir == 2) = false := by simpa using q1
    clear q1
    repeat' (first | (go_big_may; first | (refine v_get rfl rfl (by first | exact lod_int | exact lod_str | exact lod_fcs | exact lod_err | exact lod_bool | exact lod_txs) rfl hM.at1 rfl ?_) | (refine v_get rfl rfl (by first | exact lod_int | exact lod_str | exact lod_fcs | exact lod_err | exact lod_bool | exact lod_txs) rfl hM.at0 rfl ?_) | (refine v_get rfl rfl (by first | exact lod_int | exact lod_str | exact lod_fcs | exact lod_err | exact lod_bool | exact lod_txs) rfl hM.at2 rfl ?_)) | go_values | go_skip | go_guarded | go_step | go_upon | (simp only [Int.not_lt, Int.not_le] at *; go_simp))
    refine reg.wp_abs (fun a0 => a0.tmps.size = 66 ∧ (∀ h, a0.tmps[6]'h = .pointer (some ⟨za, 0, none⟩)) ∧ (∀ h, a0.tmps[7]'h = .pointer (some ⟨zb, 0, none⟩)) ∧ (∀ h, a0.tmps[10]'h = .pointer (some ⟨zw, 0, none⟩)) ∧ (∀ h, a0.tmps[11]'h = .int .i64 0) ∧ (∀ h, a0.tmps[13]'h = .pointer (some ⟨zv, 0, none⟩))) ⟨rfl, fun _ => rfl, fun _ => rfl, fun _ => rfl, fun _ => rfl, fun _ => rfl⟩ ?_
    rintro a0 ⟨hsz, s6, s7, s10, s11, s13⟩ ha0
    refine reg.wp_region_E (S := fun W => Ls W [(zv, 44, (vdl V)), (zw, 31, (wpl x))]) (E := fun _ => false) (by kernel_rfl) ?_
    replace hM := hM.drew
    refine reg.e_take (i := 0) (ag ((wpl x))) rfl (by kernel_rfl) (by kernel_rfl) (by kernel_rfl) (by kernel_rfl) (fun _ _ _ h => h) (reg.wanted_none rfl) (hM.ls (by simp)) (fun W hW => ex_load rfl row_wrap (by simp [go_sem, Act.put, hsz, s6, s7, s10, s11, s13]) hW.at1 (Nat.le_refl 5) (cut_all rfl)) ?_
    refine reg.e_take (i := 1) (ag ((vdl V))) rfl (by kernel_rfl) (by kernel_rfl) (by kernel_rfl) (by kernel_rfl) (fun _ _ _ h => h) (reg.wanted_none rfl) (hM.ls (by simp)) (fun W hW => ex_load rfl row_verdict (by simp [go_sem, Act.put, hsz, s6, s7, s10, s11, s13]) hW.at0 (Nat.le_refl 4) (cut_all rfl)) ?_
    refine reg.e_take (i := 2) (.int .i64 0) rfl (by kernel_rfl) (by kernel_rfl) (by kernel_rfl) (by kernel_rfl) (fun _ _ _ h => h) (reg.wanted_none rfl) (hM.ls (by simp)) (fun W hW => by simp [execOp, go_sem, Act.put, hsz, s6, s7, s10, s11, s13]) ?_
    refine reg.e_one 3 (by kernel_rfl) rfl ?_
    refine r_fill (i := 3) rfl (reg.wanted_none rfl) rfl row_wrap (by simp [go_sem, Act.put, hsz, s6, s7, s10, s11, s13]) (by simp [go_sem, Act.put, hsz, s6, s7, s10, s11, s13]) hM.at4 (wpl_vs x) rfl ?_
    intro ru1 rhv rhc
    replace hM := hM.put4 rhc rhv
    clear rhc rhv
    refine ⟨hM.ls (by simp), ?_⟩
    refine reg.e_one 4 (by kernel_rfl) rfl ?_
    refine r_fill (i := 4) rfl (reg.wanted_none rfl) rfl row_verdict (by simp [go_sem, Act.put, hsz, s6, s7, s10, s11, s13]) (by simp [go_sem, Act.put, hsz, s6, s7, s10, s11, s13]) hM.at3 (vdl_vs V) rfl ?_
    intro ru2 rhv rhc
    replace hM := hM.put3 rhc rhv
    clear rhc rhv
    refine ⟨hM.ls (by simp), ?_⟩
    refine reg.e_take (i := 5) (.int .i64 0) rfl (by kernel_rfl) (by kernel_rfl) (by kernel_rfl) (by kernel_rfl) (fun _ _ _ h => h) (reg.wanted_none rfl) (hM.ls (by simp)) (fun W hW => by simp [execOp, go_sem, Act.put, hsz, s6, s7, s10, s11, s13]) ?_
    refine reg.e_done (by kernel_rfl) ?_ _
    subst ha0
    clear hsz s6 s7 s10 s11 s13
    go_simp
    repeat' (first | go_values | go_skip | go_guarded | go_step | go_upon | (simp only [Int.not_lt, Int.not_le] at *; go_simp))
    exact bodyPost_ret (ret_cct rfl rfl (ld_var row_wrap hM.at4 rfl) rfl (ld_var row_verdict hM.at3 rfl) rfl) rfl ⟨by rw [HR.out]; rfl, hM.below⟩
  by_cases q2 : V.code = 2
  case pos =>
    have HR : Hid ((if H.dir = 2 ∧ V.code ≠ 2 ∧ (t.size : Int) ≠ x.len then (3 : Int) else 0) = 0) := if_neg fun q => q.2.1 q2
    have f1 : (H.dir == 2) = true := by simpa using q1
    have f2 : (V.code != 2) = false := by simpa using q2
    clear q1 q2
    repeat' (first | (go_big_may; first | (refine v_get rfl rfl (by first | exact lod_int | exact lod_str | exact lod_fcs | exact lod_err | exact lod_bool | exact lod_txs) rfl hM.at1 rfl ?_) | (refine v_get rfl rfl (by first | exact lod_int | exact lod_str | exact lod_fcs | exact lod_err | exact lod_bool | exact lod_txs) rfl hM.at0 rfl ?_) | (refine v_get rfl rfl (by first | exact lod_int | exact lod_str | exact lod_fcs | exact lod_err | exact lod_bool | exact lod_txs) rfl hM.at2 rfl ?_)) | go_values | go_skip | go_guarded | go_step | go_upon | (simp only [Int.not_lt, Int.not_le] at *; go_simp))
    refine reg.wp_abs (fun a0 => a0.tmps.size = 66 ∧ (∀ h, a0.tmps[6]'h = .pointer (some ⟨za, 0, none⟩)) ∧ (∀ h, a0.tmps[7]'h = .pointer (some ⟨zb, 0, none⟩)) ∧ (∀ h, a0.tmps[10]'h = .pointer (some ⟨zw, 0, none⟩)) ∧ (∀ h, a0.tmps[11]'h = .int .i64 0) ∧ (∀ h, a0.tmps[13]'h = .pointer (some ⟨zv, 0, none⟩))) ⟨rfl, fun _ => rfl, fun _ => rfl, fun _ => rfl, fun _ => rfl, fun _ => rfl⟩ ?_
    rintro a0 ⟨hsz, s6, s7, s10, s11, s13⟩ ha0
    refine reg.wp_region_E (S := fun W => Ls W [(zv, 44, (vdl V)), (zw, 31, (wpl x))]) (E := fun _ => false) (by kernel_rfl) ?_
    replace hM := hM.drew
    refine reg.e_take (i := 0) (ag ((wpl x))) rfl (by kernel_rfl) (by kernel_rfl) (by kernel_rfl) (by kernel_rfl) (fun _ _ _ h => h) (reg.wanted_none rfl) (hM.ls (by simp)) (fun W hW => ex_load rfl row_wrap (by simp [go_sem, Act.put, hsz, s6, s7, s10, s11, s13]) hW.at1 (Nat.le_refl 5) (cut_all rfl)) ?_
    refine reg.e_take (i := 1) (ag ((vdl V))) rfl (by kernel_rfl) (by kernel_rfl) (by kernel_rfl) (by kernel_rfl) (fun _ _ _ h => h) (reg.wanted_none rfl) (hM.ls (by simp)) (fun W hW => ex_load rfl row_verdict (by simp [go_sem, Act.put, hsz, s6, s7, s10, s11, s13]) hW.at0 (Nat.le_refl 4) (cut_all rfl)) ?_
    refine reg.e_take (i := 2) (.int .i64 0) rfl (by kernel_rfl) (by kernel_rfl) (by kernel_rfl) (by kernel_rfl) (fun _ _ _ h => h) (reg.wanted_none rfl) (hM.ls (by simp)) (fun W hW => by simp [execOp, go_sem, Act.put, hsz, s6, s7, s10, s11, s13]) ?_
    refine reg.e_one 3 (by kernel_rfl) rfl ?_
    refine r_fill (i := 3) rfl (reg.wanted_none rfl) rfl row_wrap (by simp [go_sem, Act.put, hsz, s6, s7, s10, s11, s13]) (by simp [go_sem, Act.put, hsz, s6, s7, s10, s11, s13]) hM.at4 (wpl_vs x) rfl ?_
    intro ru1 rhv rhc
    replace hM := hM.put4 rhc rhv
    clear rhc rhv
    refine ⟨hM.ls (by simp), ?_⟩
    refine reg.e_one 4 (by kernel_rfl) rfl ?_
    refine r_fill (i := 4) rfl (reg.wanted_none rfl) rfl row_verdict (by simp [go_sem, Act.put, hsz, s6, s7, s10, s11, s13]) (by simp [go_sem, Act.put, hsz, s6, s7, s10, s11, s13]) hM.at3 (vdl_vs V) rfl ?_
    intro ru2 rhv rhc
    replace hM := hM.put3 rhc rhv
    clear rhc rhv
    refine ⟨hM.ls (by simp), ?_⟩
    refine reg.e_take (i := 5) (.int .i64 0) rfl (by kernel_rfl) (by kernel_rfl) (by kernel_rfl) (by kernel_rfl) (fun _ _ _ h => h) (reg.wanted_none rfl) (hM.ls (by simp)) (fun W hW => by simp [execOp, go_sem, Act.put, hsz, s6, s7, s10, s11, s13]) ?_
    refine reg.e_done (by kernel_rfl) ?_ _
    subst ha0
    clear hsz s6 s7 s10 s11 s13
    go_simp
    repeat' (first | go_values | go_skip | go_guarded | go_step | go_upon | (simp only [Int.not_lt, Int.not_le] at *; go_simp))
    exact bodyPost_ret (ret_cct rfl rfl (ld_var row_wrap hM.at4 rfl) rfl (ld_var row_verdict hM.at3 rfl) rfl) rfl ⟨by rw [HR.out]; rfl, hM.below⟩
  by_cases q3 : (t.size : Int) = x.len
  case pos =>
    have HR : Hid ((if H.dir = 2 ∧ V.code ≠ 2 ∧ (t.size : Int) ≠ x.len then (3 : Int) else 0) = 0) := if_neg fun q => q.2.2 q3
    have f1 : (H.dir == 2) = true := by simpa using q1
    have f2 : (V.code != 2) = true := by simpa using q2
    have f3 : ((t.size : Int) != x.len) = false := by simpa using q3
    clear q1 q2 q3
    repeat' (first | (go_big_may; first | (refine v_get rfl rfl (by first | exact lod_int | exact lod_str | exact lod_fcs | exact lod_err | exact lod_bool | exact lod_txs) rfl hM.at1 rfl ?_) | (refine v_get rfl rfl (by first | exact lod_int | exact lod_str | exact lod_fcs | exact lod_err | exact lod_bool | exact lod_txs) rfl hM.at0 rfl ?_) | (refine v_get rfl rfl (by first | exact lod_int | exact lod_str | exact lod_fcs | exact lod_err | exact lod_bool | exact lod_txs) rfl hM.at2 rfl ?_)) | go_values | go_skip | go_guarded | go_step | go_upon | (simp only [Int.not_lt, Int.not_le] at *; go_simp))
    refine reg.wp_abs (fun a0 => a0.tmps.size = 66 ∧ (∀ h, a0.tmps[6]'h = .pointer (some ⟨za, 0, none⟩)) ∧ (∀ h, a0.tmps[7]'h = .pointer (some ⟨zb, 0, none⟩)) ∧ (∀ h, a0.tmps[10]'h = .pointer (some ⟨zw, 0, none⟩)) ∧ (∀ h, a0.tmps[11]'h = .int .i64 0) ∧ (∀ h, a0.tmps[13]'h = .pointer (some ⟨zv, 0, none⟩))) ⟨rfl, fun _ => rfl, fun _ => rfl, fun _ => rfl, fun _ => rfl, fun _ => rfl⟩ ?_
    rintro a0 ⟨hsz, s6, s7, s10, s11, s13⟩ ha0
    refine reg.wp_region_E (S := fun W => Ls W [(zv, 44, (vdl V)), (zw, 31, (wpl x))]) (E := fun _ => false) (by kernel_rfl) ?_
    replace hM := hM.drew
    refine reg.e_take (i := 0) (ag ((wpl x))) rfl (by kernel_rfl) (by kernel_rfl) (by kernel_rfl) (by kernel_rfl) (fun _ _ _ h => h) (reg.wanted_none rfl) (hM.ls (by simp)) (fun W hW => ex_load rfl row_wrap (by simp [go_sem, Act.put, hsz, s6, s7, s10, s11, s13]) hW.at1 (Nat.le_refl 5) (cut_all rfl)) ?_
    refine reg.e_take (i := 1) (ag ((vdl V))) rfl (by kernel_rfl) (by kernel_rfl) (by kernel_rfl) (by kernel_rfl) (fun _ _ _ h => h) (reg.wanted_none rfl) (hM.ls (by simp)) (fun W hW => ex_load rfl row_verdict (by simp [go_sem, Act.put, hsz, s6, s7, s10, s11, s13]) hW.at0 (Nat.le_refl 4) (cut_all rfl)) ?_
    refine reg.e_take (i := 2) (.int .i64 0) rfl (by kernel_rfl) (by kernel_rfl) (by kernel_rfl) (by kernel_rfl) (fun _ _ _ h => h) (reg.wanted_none rfl) (hM.ls (by simp)) (fun W hW => by simp [execOp, go_sem, Act.put, hsz, s6, s7, s10, s11, s13]) ?_
    refine reg.e_one 3 (by kernel_rfl) rfl ?_
    refine r_fill (i := 3) rfl (reg.wanted_none rfl) rfl row_wrap (by simp [go_sem, Act.put, hsz, s6, s7, s10, s11, s13]) (by simp [go_sem, Act.put, hsz, s6, s7, s10, s11, s13]) hM.at4 (wpl_vs x) rfl ?_
    intro ru1 rhv rhc
    replace hM := hM.put4 rhc rhv
    clear rhc rhv
    refine ⟨hM.ls (by simp), ?_⟩
    refine reg.e_one 4 (by kernel_rfl) rfl ?_
    refine r_fill (i := 4) rfl (reg.wanted_none rfl) rfl row_verdict (by simp [go_sem, Act.put, hsz, s6, s7, s10, s11, s13]) (by simp [go_sem, Act.put, hsz, s6, s7, s10, s11, s13]) hM.at3 (vdl_vs V) rfl ?_
    intro ru2 rhv rhc
    replace hM := hM.put3 rhc rhv
    clear rhc rhv
    refine ⟨hM.ls (by simp), ?_⟩
    refine reg.e_take (i := 5) (.int .i64 0) rfl (by kernel_rfl) (by kernel_rfl) (by kernel_rfl) (by kernel_rfl) (fun _ _ _ h => h) (reg.wanted_none rfl) (hM.ls (by simp)) (fun W hW => by simp [execOp, go_sem, Act.put, hsz, s6, s7, s10, s11, s13]) ?_
    refine reg.e_done (by kernel_rfl) ?_ _
    subst ha0
    clear hsz s6 s7 s10 s11 s13
    go_simp
    repeat' (first | go_values | go_skip | go_guarded | go_step | go_upon | (simp only [Int.not_lt, Int.not_le] at *; go_simp))
    exact bodyPost_ret (ret_cct rfl rfl (ld_var row_wrap hM.at4 rfl) rfl (ld_var row_verdict hM.at3 rfl) rfl) rfl ⟨by rw [HR.out]; rfl, hM.below⟩
  case neg =>
    have HR : Hid ((if H.dir = 2 ∧ V.code ≠ 2 ∧ (t.size : Int) ≠ x.len then (3 : Int) else 0) = 3) := if_pos ⟨q1, q2, q3⟩
    have f1 : (H.dir == 2) = true := by simpa using q1
    have f2 : (V.code != 2) = true := by simpa using q2
    have f3 : ((t.size : Int) != x.len) = true := by simpa using q3
    clear q1 q2 q3
    repeat' (first | (go_big_may; first | (refine v_get rfl rfl (by first | exact lod_int | exact lod_str | exact lod_fcs | exact lod_err | exact lod_bool | exact lod_txs) rfl hM.at1 rfl ?_) | (refine v_get rfl rfl (by first | exact lod_int | exact lod_str | exact lod_fcs | exact lod_err | exact lod_bool | exact lod_txs) rfl hM.at0 rfl ?_) | (refine v_get rfl rfl (by first | exact lod_int | exact lod_str | exact lod_fcs | exact lod_err | exact lod_bool | exact lod_txs) rfl hM.at2 rfl ?_)) | go_values | go_skip | go_guarded | go_step | go_upon | (simp only [Int.not_lt, Int.not_le] at *; go_simp))
    refine reg.wp_abs (fun a0 => a0.tmps.size = 66 ∧ (∀ h, a0.tmps[6]'h = .pointer (some ⟨za, 0, none⟩)) ∧ (∀ h, a0.tmps[7]'h = .pointer (some ⟨zb, 0, none⟩)) ∧ (∀ h, a0.tmps[10]'h = .pointer (some ⟨zw, 0, none⟩)) ∧ (∀ h, a0.tmps[11]'h = .int .i64 0) ∧ (∀ h, a0.tmps[13]'h = .pointer (some ⟨zv, 0, none⟩))) ⟨rfl, fun _ => rfl, fun _ => rfl, fun _ => rfl, fun _ => rfl, fun _ => rfl⟩ ?_
    rintro a0 ⟨hsz, s6, s7, s10, s11, s13⟩ ha0
    refine reg.wp_region_E (S := fun W => Ls W [(zv, 44, (vdl V)), (zw, 31, (wpl x))]) (E := fun _ => false) (by kernel_rfl) ?_
    replace hM := hM.drew
    refine reg.e_take (i := 0) (ag ((wpl x))) rfl (by kernel_rfl) (by kernel_rfl) (by kernel_rfl) (by kernel_rfl) (fun _ _ _ h => h) (reg.wanted_none rfl) (hM.ls (by simp)) (fun W hW => ex_load rfl row_wrap (by simp [go_sem, Act.put, hsz, s6, s7, s10, s11, s13]) hW.at1 (Nat.le_refl 5) (cut_all rfl)) ?_
    refine reg.e_take (i := 1) (ag ((vdl V))) rfl (by kernel_rfl) (by kernel_rfl) (by kernel_rfl) (by kernel_rfl) (fun _ _ _ h => h) (reg.wanted_none rfl) (hM.ls (by simp)) (fun W hW => ex_load rfl row_verdict (by simp [go_sem, Act.put, hsz, s6, s7, s10, s11, s13]) hW.at0 (Nat.le_refl 4) (cut_all rfl)) ?_
    refine reg.e_one 2 (by kernel_rfl) rfl ?_
    refine r_fill (i := 2) rfl (reg.wanted_none rfl) rfl row_wrap (by simp [go_sem, Act.put, hsz, s6, s7, s10, s11, s13]) (by simp [go_sem, Act.put, hsz, s6, s7, s10, s11, s13]) hM.at4 (wpl_vs x) rfl ?_
    intro ru1 rhv rhc
    replace hM := hM.put4 rhc rhv
    clear rhc rhv
    refine ⟨hM.ls (by simp), ?_⟩
    refine reg.e_one 3 (by kernel_rfl) rfl ?_
    refine r_fill (i := 3) rfl (reg.wanted_none rfl) rfl row_verdict (by simp [go_sem, Act.put, hsz, s6, s7, s10, s11, s13]) (by simp [go_sem, Act.put, hsz, s6, s7, s10, s11, s13]) hM.at3 (vdl_vs V) rfl ?_
    intro ru2 rhv rhc
    replace hM := hM.put3 rhc rhv
    clear rhc rhv
    refine ⟨hM.ls (by simp), ?_⟩
    refine reg.e_take (i := 4) (.int .i64 3) rfl (by kernel_rfl) (by kernel_rfl) (by kernel_rfl) (by kernel_rfl) (fun _ _ _ h => h) (reg.wanted_none rfl) (hM.ls (by simp)) (fun W hW => by simp [execOp, go_sem, Act.put, hsz, s6, s7, s10, s11, s13]) ?_
    refine reg.e_done (by kernel_rfl) ?_ _
    subst ha0
    clear hsz s6 s7 s10 s11 s13
    go_simp
    repeat' (first | go_values | go_skip | go_guarded | go_step | go_upon | (simp only [Int.not_lt, Int.not_le] at *; go_simp))
    exact bodyPost_ret (ret_cct rfl rfl (ld_var row_wrap hM.at4 rfl) rfl (ld_var row_verdict hM.at3 rfl) rfl) rfl ⟨by rw [HR.out]; rfl, hM.below⟩
end Go.Proofs.YtecknicmonhcaabDoor.bulk
