/- plugref: Served, a part of it. (Written by tools/genbuly.py.) -/
import Derived.Test.YtecknicmonhcaaaBulY
namespace Go.Proofs.Ytecknicmonhcaaa.bulk
open Go Go.RowKit Go.PlainAid Go.Proofs.Ytecknicmonhcaaa.lane Go.Proofs.Ytecknicmonhcaaa.pipe Go.Proofs.Ytecknicmonhcaaa.strike
open Go.Proofs.Ytecknicmonhcaaa.scsi (Dk chkC chk_iff doD doT doC diskRight_any do_none)
set_option linter.unusedVariables false
set_option linter.unusedSimpArgs false
set_option maxRecDepth 100000

set_option maxHeartbeats 32000000 in
theorem served_0 (v : Value) (d : Dk) (s t : ByteArray) (w : World) (h : Rts w v d.b) (hs : s.size ≤ maxLen) (ht : t.size ≤ maxLen) (hd : chkC d = 0) (hz : rdC s = 0) (hu : (rdW s).unit = 0) (hl : (rdW s).len = 0) :
    Calls Try.prog 20 #[ag (dkl v d.s), .string s, .string t] w fun e w' => SdP d s t w e w' := by
  have HK : Hid (∀ u, Rts u v d.b → Calls Try.prog 42 #[ag (dkl v d.s)] u fun e w' => e = .returned (.int .i64 0) ∧ Below u.heap.size u w') := fun u hu => by
    have := diskRight_any v d.b d.s u hu
    rw [show chkC ⟨d.b, d.s⟩ = 0 from hd] at this
    exact this
  have HRW : Hid (∀ u, Calls Try.prog 12 #[.string s] u fun e w' => e = .returned (.tuple #[ag (wpl (rdW s)), .int .i64 0]) ∧ Below u.heap.size u w') := fun u => by
    have := rreadWrap_any s hs u
    rw [hz] at this
    exact this
  have hO := txs_one h
  have hNS := rts_ns h
  have HNS : Hid (∀ x, v ≠ .string x) := hNS
  have hC0 := rtp h
  have hM := Mm.nil w
  obtain ⟨i1, i2, i3, i4⟩ := rd_is hz
  have hwk : wk (rdW s) = true := by rw [i1]; exact i2
  have hka := (wk_iff _).1 hwk
  have hcm : (rdW s).cmd.size ≤ maxLen := by have := hka.2.2.2.2; unfold maxLen; omega
  have hHS : hsV (rdW s) = mv0 := by unfold hsV mvOf; rw [if_pos hl, if_pos hl]; split <;> rfl
  obtain ⟨j1, f2, f3, f4, f5, f6, f7, f8⟩ := sv_facts hd hwk
  have hno : ¬ (rdC s ≠ 0 ∨ (rdW s).unit ≠ 0) := fun q => q.elim (fun z => z hz) (fun z => z hu)
  have htk : tkE d s t = if (hsV (rdW s)).dir = 2 ∧ (svV d (rdW s)).code ≠ 2 ∧ (t.size : Int) ≠ (rdW s).len then 3 else 0 := (if_neg (fun q => q hd)).trans (if_neg hno)
  have HME : Hid (∀ u, Rts u v d.b → Calls Try.prog 43 #[ag (dkl v d.s), .string (rdW s).cmd] u fun e w' => e = .returned (ag (mvl (dvV d (rdW s).cmd))) ∧ Below u.heap.size u w') := fun u hu => meant_any v d (rdW s).cmd u hu hd (by omega) hcm
  have HJ : Hid (∀ u, Calls Try.prog 18 #[ag (mvl mv0), ag (mvl (dvV d (rdW s).cmd))] u fun e w' => e = .returned (.tuple #[ag (vdl (svV d (rdW s))), .int .i64 0]) ∧ Below u.heap.size u w') := fun u => by
    have := judged_any (hsV (rdW s)) (dvV d (rdW s).cmd) u
    rw [j1, hHS] at this
    unfold svV
    rw [hHS]
    exact this
  have HST : Hid (∀ (k : Int) (zw zv : Nat) (u : World), u.heap[zw]? = some (bx 23 (wpl (rdW s))) → u.heap[zv]? = some (bx 39 (vdl (svV d (rdW s)))) → Calls Try.prog 44 #[.int .i64 k, .pointer (some ⟨zw, 0, none⟩), .pointer (some ⟨zv, 0, none⟩)] u fun e w' => e = .returned (.string (stT ⟨(rdW s).tag, (svV d (rdW s)).res, k⟩)) ∧ Below u.heap.size u w') := fun k zw zv u a b => status_any k zw zv _ _ u a b
  have eg := enters_of Try.func44 (by kernel_rfl) rfl
  have EG : Hid _ := eg
  clear eg
  unfold SdP
  by_cases h2 : (svV d (rdW s)).code = 2
  · have he : tkE d s t = 0 := htk.trans (if_neg fun q => q.2.1 h2)
    have hn1 : ¬ tkE d s t ≠ 0 := fun q => q he
    have HV : Hid (svD d s t = d ∧ svA d s t = ⟨#[]⟩ ∧ svT d s t = stT ⟨(rdW s).tag, (svV d (rdW s)).res, 2⟩) := by
      have e : svS d s t = ⟨(rdW s).tag, (svV d (rdW s)).res, 2⟩ := by unfold svS svC; rw [if_pos h2]
      refine ⟨(if_neg hn1).trans (if_pos h2), (if_neg hn1).trans (if_pos h2), ?_⟩
      unfold svT
      rw [if_neg hn1, e]
    rw [HV.out.1, HV.out.2.1, HV.out.2.2, he]
    generalize hxx : rdW s = x at *
    have e2 : decide (0 < x.len) = false := decide_eq_false (by omega)
    have e3 : decide (0 < x.unit) = false := decide_eq_false (by omega)
    generalize svV d x = V at *
    generalize dvV d x.cmd = D at *
    have g1 : (V.code == 2) = true := by simpa using h2
    clear h2 he hn1 HV ht h hs hd hz hu hl i1 i2 i3 i4 hwk hka hcm hHS j1 f2 f3 f4 f5 f6 f7 f8 hno htk hxx
    go_enter Try.func20, Try.ntmps20
    repeat' (first | (go_big_may; first | (refine v_box rfl rfl rfl ?_; intro u zd hN; replace hM := Mm.new (L := []) hM hN; clear hN) | (refine v_alloc rfl zer_disk rfl ?_; intro u zr hN; replace hM := hM.new hN; clear hN) | (refine v_load rfl rfl row_disk rfl hM.at1 (Nat.le_refl _) (cut_all rfl) ?_)) | go_values | go_skip | go_guarded | go_step | go_upon | (simp only [Int.not_lt, Int.not_le] at *; go_simp))
    refine (HK.out _ (hC0.call hM.below).out).mono ?_
    rintro e u1 ⟨rfl, hb⟩
    replace hM := hM.call hb
    clear hb HK
    repeat' (first | go_values | go_skip | go_guarded | go_step | go_upon | (simp only [Int.not_lt, Int.not_le] at *; go_simp))
    refine (HRW.out _).mono ?_
    rintro e u2 ⟨rfl, hb⟩
    replace hM := hM.call hb
    clear hb HRW
    repeat' (first | (go_big_may; first | (refine v_alloc rfl zer_wrap rfl ?_; intro u zw hN; replace hM := hM.new hN; clear hN) | (refine v_fill rfl rfl row_wrap rfl rfl hM.at0 (wpl_vs x) rfl ?_; intro u hv hc; replace hM := hM.put0 hc hv; clear hv hc) | (refine v_get rfl rfl (by first | exact lod_int | exact lod_str | exact lod_fcs | exact lod_err | exact lod_bool | exact lod_txs) rfl hM.at0 rfl ?_) | (refine v_build rfl rfl bld_move0 ?hbv ?_; (case hbv => simp [Act.eval, Act.put])) | (refine v_alloc rfl zer_move rfl ?_; intro u zm hN; replace hM := hM.new hN; clear hN) | (refine v_fill rfl rfl row_move rfl rfl hM.at0 (mvl_vs mv0) rfl ?_; intro u hv hc; replace hM := hM.put0 hc hv; clear hv hc) | (refine v_get rfl rfl lod_int rfl hM.at1 rfl ?_)) | go_values | go_skip | go_guarded | go_step | go_upon | (simp only [Int.not_lt, Int.not_le] at *; go_simp))
    have hCr := hC0.call hM.below
    go_simp
    go_cut [14, 15] from 50 to 58 (fun pv cv wx => ∃ zv : Nat, pv = .pointer (some ⟨zv, 0, none⟩) ∧ cv = .int .i64 0 ∧ Hid (Mm w wx [(zv, 39, vdl V), (zm, 37, mvl mv0), (zw, 23, wpl x), (zr, 45, dkl nilS 0), (zd, 45, dkl v d.s)]))
    case first =>
      refine reg.wp_abs (fun a0 => a0.tmps.size = 105 ∧ (∀ h, a0.tmps[3]'h = .pointer (some ⟨zd, 0, none⟩)) ∧ (∀ h, a0.tmps[11]'h = .pointer (some ⟨zw, 0, none⟩)) ∧ (∀ h, a0.tmps[13]'h = .pointer (some ⟨zm, 0, none⟩))) ⟨rfl, fun _ => rfl, fun _ => rfl, fun _ => rfl⟩ ?_
      rintro a0 ⟨hsz, s3, s11, s13⟩ ha0
      refine reg.wp_region_E (S := fun W => Ls W [(zm, 37, (mvl mv0)), (zw, 23, (wpl x)), (zd, 45, (dkl v d.s))]) (E := fun _ => false) (by kernel_rfl) ?_
      replace hM := hM.drew
      replace hCr := hCr.call (Below.refl _ _).drew
      refine reg.e_take (i := 0) (ag ((mvl mv0))) rfl (by kernel_rfl) (by kernel_rfl) (by kernel_rfl) (by kernel_rfl) (fun _ _ _ h => h) (reg.wanted_none rfl) (hM.ls (by simp)) (fun W hW => ex_load rfl row_move (by simp [go_sem, Act.put, hsz, s3, s11, s13]) hW.at0 (Nat.le_refl 2) (cut_all rfl)) ?_
      refine reg.e_take (i := 1) (ag ((dkl v d.s))) rfl (by kernel_rfl) (by kernel_rfl) (by kernel_rfl) (by kernel_rfl) (fun _ _ _ h => h) (reg.wanted_none rfl) (hM.ls (by simp)) (fun W hW => ex_load rfl row_disk (by simp [go_sem, Act.put, hsz, s3, s11, s13]) hW.at2 (Nat.le_refl 2) (cut_all rfl)) ?_
      refine reg.e_take (i := 2) (.pointer (some ⟨zw, 4, none⟩)) rfl (by kernel_rfl) (by kernel_rfl) (by kernel_rfl) (by kernel_rfl) (fun _ _ _ h => h) (reg.wanted_none rfl) (hM.ls (by simp)) (fun W hW => by simp [execOp, go_sem, Act.put, hsz, s3, s11, s13]) ?_
      refine reg.e_take (i := 3) (.string x.cmd) rfl (by kernel_rfl) (by kernel_rfl) (by kernel_rfl) (by kernel_rfl) (fun _ _ _ h => h) (reg.wanted_none rfl) (hM.ls (by simp)) (fun W hW => ex_get rfl (by simp [go_sem, Act.put, hsz, s3, s11, s13]) hW.at1 (show (wpl x)[4]? = some _ from rfl)) ?_
      refine reg.e_two 4 9 (by kernel_rfl) rfl rfl ?_ ?_
      · refine reg.r_call (i := 4) 43 #[ag ((dkl v d.s)), .string x.cmd] rfl (reg.wanted_none rfl) (by simp [execOp, go_sem, Act.put, hsz, s3, s11, s13]) ((HME.out _ hCr.out).mono ?_)
        rintro re ru1 ⟨rfl, rhv⟩
        replace hM := hM.call rhv
        replace hCr := hCr.call rhv
        clear rhv
        refine ⟨_, rfl, hM.ls (by simp), ?_⟩
        refine reg.e_two 5 9 (by kernel_rfl) rfl rfl ?_ ?_
        · refine reg.r_call (i := 5) 18 #[ag ((mvl mv0)), ag (mvl D)] rfl (reg.wanted_none rfl) (by simp [execOp, go_sem, Act.put, hsz, s3, s11, s13]) ((HJ.out _).mono ?_)
          rintro re ru2 ⟨rfl, rhv⟩
          replace hM := hM.call rhv
          replace hCr := hCr.call rhv
          clear rhv
          refine ⟨_, rfl, hM.ls (by simp), ?_⟩
          refine reg.e_take (i := 6) (.tuple #[ag (vdl V), .int .i64 0]) rfl (by kernel_rfl) (by kernel_rfl) (by kernel_rfl) (by kernel_rfl) (fun _ _ _ h => h) (reg.wanted_none rfl) (hM.ls (by simp)) (fun W hW => by simp [execOp, go_sem, Act.put, hsz, s3, s11, s13]) ?_
          refine reg.e_take (i := 7) (ag (vdl V)) rfl (by kernel_rfl) (by kernel_rfl) (by kernel_rfl) (by kernel_rfl) (fun _ _ _ h => h) (reg.wanted_none rfl) (hM.ls (by simp)) (fun W hW => by simp [execOp, go_sem, Act.put, hsz, s3, s11, s13]) ?_
          refine reg.e_take (i := 8) (.int .i64 0) rfl (by kernel_rfl) (by kernel_rfl) (by kernel_rfl) (by kernel_rfl) (fun _ _ _ h => h) (reg.wanted_none rfl) (hM.ls (by simp)) (fun W hW => by simp [execOp, go_sem, Act.put, hsz, s3, s11, s13]) ?_
          refine reg.e_one 9 (by kernel_rfl) rfl ?_
          refine r_alloc (i := 9) rfl (reg.wanted_none rfl) rfl zer_verdict ?_
          intro ru3 zv rhn
          replace hCr := hCr.call rhn.below
          replace hM := hM.new rhn
          clear rhn
          refine ⟨hM.ls (by simp), ?_⟩
          refine reg.e_one 10 (by kernel_rfl) rfl ?_
          refine r_fill (i := 10) rfl (reg.wanted_none rfl) rfl row_verdict (by simp [go_sem, Act.put, hsz, s3, s11, s13]) (by simp [go_sem, Act.put, hsz, s3, s11, s13]) hM.at0 (vdl_vs V) rfl ?_
          intro ru4 rhv rhc
          replace hM := hM.put0 rhc rhv
          clear rhc rhv
          refine ⟨hM.ls (by simp), ?_⟩
          refine reg.e_take (i := 11) (.int .i64 0) rfl (by kernel_rfl) (by kernel_rfl) (by kernel_rfl) (by kernel_rfl) (fun _ _ _ h => h) (reg.wanted_none rfl) (hM.ls (by simp)) (fun W hW => by simp [execOp, go_sem, Act.put, hsz, s3, s11, s13]) ?_
          refine reg.e_done (by kernel_rfl) ?_ _
          subst ha0
          clear hsz s3 s11 s13
          go_simp
          repeat' (first | go_values | go_skip | go_guarded | go_step | go_upon | (simp only [Int.not_lt, Int.not_le] at *; go_simp))
          go_meet
          case rel => exact ⟨zv, rfl, rfl, hM⟩
        · refine r_alloc (i := 9) rfl (reg.wanted_none rfl) rfl zer_verdict ?_
          intro ru5 zv rhn
          replace hCr := hCr.call rhn.below
          replace hM := hM.new rhn
          clear rhn
          refine ⟨hM.ls (by simp), ?_⟩
          refine reg.e_one 5 (by kernel_rfl) rfl ?_
          refine reg.r_call (i := 5) 18 #[ag ((mvl mv0)), ag (mvl D)] rfl (reg.wanted_none rfl) (by simp [execOp, go_sem, Act.put, hsz, s3, s11, s13]) ((HJ.out _).mono ?_)
          rintro re ru6 ⟨rfl, rhv⟩
          replace hM := hM.call rhv
          replace hCr := hCr.call rhv
          clear rhv
          refine ⟨_, rfl, hM.ls (by simp), ?_⟩
          refine reg.e_take (i := 6) (.tuple #[ag (vdl V), .int .i64 0]) rfl (by kernel_rfl) (by kernel_rfl) (by kernel_rfl) (by kernel_rfl) (fun _ _ _ h => h) (reg.wanted_none rfl) (hM.ls (by simp)) (fun W hW => by simp [execOp, go_sem, Act.put, hsz, s3, s11, s13]) ?_
          refine reg.e_take (i := 7) (ag (vdl V)) rfl (by kernel_rfl) (by kernel_rfl) (by kernel_rfl) (by kernel_rfl) (fun _ _ _ h => h) (reg.wanted_none rfl) (hM.ls (by simp)) (fun W hW => by simp [execOp, go_sem, Act.put, hsz, s3, s11, s13]) ?_
          refine reg.e_take (i := 8) (.int .i64 0) rfl (by kernel_rfl) (by kernel_rfl) (by kernel_rfl) (by kernel_rfl) (fun _ _ _ h => h) (reg.wanted_none rfl) (hM.ls (by simp)) (fun W hW => by simp [execOp, go_sem, Act.put, hsz, s3, s11, s13]) ?_
          refine reg.e_one 10 (by kernel_rfl) rfl ?_
          refine r_fill (i := 10) rfl (reg.wanted_none rfl) rfl row_verdict (by simp [go_sem, Act.put, hsz, s3, s11, s13]) (by simp [go_sem, Act.put, hsz, s3, s11, s13]) hM.at0 (vdl_vs V) rfl ?_
          intro ru7 rhv rhc
          replace hM := hM.put0 rhc rhv
          clear rhc rhv
          refine ⟨hM.ls (by simp), ?_⟩
          refine reg.e_take (i := 11) (.int .i64 0) rfl (by kernel_rfl) (by kernel_rfl) (by kernel_rfl) (by kernel_rfl) (fun _ _ _ h => h) (reg.wanted_none rfl) (hM.ls (by simp)) (fun W hW => by simp [execOp, go_sem, Act.put, hsz, s3, s11, s13]) ?_
          refine reg.e_done (by kernel_rfl) ?_ _
          subst ha0
          clear hsz s3 s11 s13
          go_simp
          repeat' (first | go_values | go_skip | go_guarded | go_step | go_upon | (simp only [Int.not_lt, Int.not_le] at *; go_simp))
          go_meet
          case rel => exact ⟨zv, rfl, rfl, hM⟩
      · refine r_alloc (i := 9) rfl (reg.wanted_none rfl) rfl zer_verdict ?_
        intro ru8 zv rhn
        replace hCr := hCr.call rhn.below
        replace hM := hM.new rhn
        clear rhn
        refine ⟨hM.ls (by simp), ?_⟩
        refine reg.e_one 4 (by kernel_rfl) rfl ?_
        refine reg.r_call (i := 4) 43 #[ag ((dkl v d.s)), .string x.cmd] rfl (reg.wanted_none rfl) (by simp [execOp, go_sem, Act.put, hsz, s3, s11, s13]) ((HME.out _ hCr.out).mono ?_)
        rintro re ru9 ⟨rfl, rhv⟩
        replace hM := hM.call rhv
        replace hCr := hCr.call rhv
        clear rhv
        refine ⟨_, rfl, hM.ls (by simp), ?_⟩
        refine reg.e_one 5 (by kernel_rfl) rfl ?_
        refine reg.r_call (i := 5) 18 #[ag ((mvl mv0)), ag (mvl D)] rfl (reg.wanted_none rfl) (by simp [execOp, go_sem, Act.put, hsz, s3, s11, s13]) ((HJ.out _).mono ?_)
        rintro re ru10 ⟨rfl, rhv⟩
        replace hM := hM.call rhv
        replace hCr := hCr.call rhv
        clear rhv
        refine ⟨_, rfl, hM.ls (by simp), ?_⟩
        refine reg.e_take (i := 6) (.tuple #[ag (vdl V), .int .i64 0]) rfl (by kernel_rfl) (by kernel_rfl) (by kernel_rfl) (by kernel_rfl) (fun _ _ _ h => h) (reg.wanted_none rfl) (hM.ls (by simp)) (fun W hW => by simp [execOp, go_sem, Act.put, hsz, s3, s11, s13]) ?_
        refine reg.e_take (i := 7) (ag (vdl V)) rfl (by kernel_rfl) (by kernel_rfl) (by kernel_rfl) (by kernel_rfl) (fun _ _ _ h => h) (reg.wanted_none rfl) (hM.ls (by simp)) (fun W hW => by simp [execOp, go_sem, Act.put, hsz, s3, s11, s13]) ?_
        refine reg.e_take (i := 8) (.int .i64 0) rfl (by kernel_rfl) (by kernel_rfl) (by kernel_rfl) (by kernel_rfl) (fun _ _ _ h => h) (reg.wanted_none rfl) (hM.ls (by simp)) (fun W hW => by simp [execOp, go_sem, Act.put, hsz, s3, s11, s13]) ?_
        refine reg.e_one 10 (by kernel_rfl) rfl ?_
        refine r_fill (i := 10) rfl (reg.wanted_none rfl) rfl row_verdict (by simp [go_sem, Act.put, hsz, s3, s11, s13]) (by simp [go_sem, Act.put, hsz, s3, s11, s13]) hM.at0 (vdl_vs V) rfl ?_
        intro ru11 rhv rhc
        replace hM := hM.put0 rhc rhv
        clear rhc rhv
        refine ⟨hM.ls (by simp), ?_⟩
        refine reg.e_take (i := 11) (.int .i64 0) rfl (by kernel_rfl) (by kernel_rfl) (by kernel_rfl) (by kernel_rfl) (fun _ _ _ h => h) (reg.wanted_none rfl) (hM.ls (by simp)) (fun W hW => by simp [execOp, go_sem, Act.put, hsz, s3, s11, s13]) ?_
        refine reg.e_done (by kernel_rfl) ?_ _
        subst ha0
        clear hsz s3 s11 s13
        go_simp
        repeat' (first | go_values | go_skip | go_guarded | go_step | go_upon | (simp only [Int.not_lt, Int.not_le] at *; go_simp))
        go_meet
        case rel => exact ⟨zv, rfl, rfl, hM⟩
    case rest =>
    clear hM hCr
    obtain ⟨zv, rfl, rfl, HX⟩ := hcut
    rename World => u4
    have hM := HX.out
    clear HX HME HJ
    repeat' (first | (go_big_may; first | (refine v_get rfl rfl (by first | exact lod_int | exact lod_str | exact lod_fcs | exact lod_err | exact lod_bool | exact lod_txs) rfl hM.at0 rfl ?_)) | go_values | go_skip | go_guarded | go_step | go_upon | (simp only [Int.not_lt, Int.not_le] at *; go_simp))
    refine reg.wp_abs (fun a0 => a0.tmps.size = 105 ∧ (∀ h, a0.tmps[3]'h = .pointer (some ⟨zd, 0, none⟩)) ∧ (∀ h, a0.tmps[6]'h = .pointer (some ⟨zr, 0, none⟩)) ∧ (∀ h, a0.tmps[16]'h = .func (.func 44) #[] #[.pointer (some ⟨zw, 0, none⟩), .pointer (some ⟨zv, 0, none⟩)])) ⟨rfl, fun _ => rfl, fun _ => rfl, fun _ => rfl⟩ ?_
    rintro a0 ⟨hsz, s3, s6, s16⟩ ha0
    refine reg.wp_region_E (S := fun W => Ls W [(zd, 45, (dkl v d.s))]) (E := fun _ => false) (by kernel_rfl) ?_
    replace hM := hM.drew
    refine reg.e_take (i := 0) (ag ((dkl v d.s))) rfl (by kernel_rfl) (by kernel_rfl) (by kernel_rfl) (by kernel_rfl) (fun _ _ _ h => h) (reg.wanted_none rfl) (hM.ls (by simp)) (fun W hW => ex_load rfl row_disk (by simp [go_sem, Act.put, hsz, s3, s6, s16]) hW.at0 (Nat.le_refl 2) (cut_all rfl)) ?_
    refine reg.e_take (i := 1) (.func (.func 44) #[] #[.pointer (some ⟨zw, 0, none⟩), .pointer (some ⟨zv, 0, none⟩)]) rfl (by kernel_rfl) (by kernel_rfl) (by kernel_rfl) (by kernel_rfl) (fun _ _ _ h => h) (reg.wanted_none rfl) (hM.ls (by simp)) (fun W hW => by simp [execOp, go_sem, Act.put, hsz, s3, s6, s16]) ?_
    refine reg.e_one 2 (by kernel_rfl) rfl ?_
    refine reg.r_call (i := 2) 44 #[.int .i64 2, .pointer (some ⟨zw, 0, none⟩), .pointer (some ⟨zv, 0, none⟩)] rfl (reg.wanted_none rfl) (by simp [execOp, go_sem, Act.put, hsz, s3, s6, s16, EG.out]) ((HST.out 2 zw zv _ hM.at2 hM.at0).mono ?_)
    rintro re ru1 ⟨rfl, rhv⟩
    replace hM := hM.call rhv
    clear rhv
    refine ⟨_, rfl, hM.ls (by simp), ?_⟩
    refine reg.e_one 3 (by kernel_rfl) rfl ?_
    refine r_fill (i := 3) rfl (reg.wanted_none rfl) rfl row_disk (by simp [go_sem, Act.put, hsz, s3, s6, s16]) (by simp [go_sem, Act.put, hsz, s3, s6, s16]) hM.at3 (dkl_vs d.s hO) rfl ?_
    intro ru2 rhv rhc
    replace hM := hM.put3 rhc rhv
    clear rhc rhv
    refine ⟨hM.ls (by simp), ?_⟩
    refine reg.e_take (i := 4) (.string { data := #[] }) rfl (by kernel_rfl) (by kernel_rfl) (by kernel_rfl) (by kernel_rfl) (fun _ _ _ h => h) (reg.wanted_none rfl) (hM.ls (by simp)) (fun W hW => by simp [execOp, go_sem, Act.put, hsz, s3, s6, s16]) ?_
    refine reg.e_take (i := 5) (.string (stT ⟨x.tag, V.res, 2⟩)) rfl (by kernel_rfl) (by kernel_rfl) (by kernel_rfl) (by kernel_rfl) (fun _ _ _ h => h) (reg.wanted_none rfl) (hM.ls (by simp)) (fun W hW => by simp [execOp, go_sem, Act.put, hsz, s3, s6, s16]) ?_
    refine reg.e_take (i := 6) (.int .i64 0) rfl (by kernel_rfl) (by kernel_rfl) (by kernel_rfl) (by kernel_rfl) (fun _ _ _ h => h) (reg.wanted_none rfl) (hM.ls (by simp)) (fun W hW => by simp [execOp, go_sem, Act.put, hsz, s3, s6, s16]) ?_
    refine reg.e_done (by kernel_rfl) ?_ _
    subst ha0
    clear hsz s3 s6 s16
    go_simp
    repeat' (first | go_values | go_skip | go_guarded | go_step | go_upon | (simp only [Int.not_lt, Int.not_le] at *; go_simp))
    exact bodyPost_ret (ret_ctt rfl rfl (ld_var row_disk hM.at3 rfl) rfl rfl rfl) rfl ⟨v, rfl, (hC0.call hM.below).out, hM.below⟩
  have he : tkE d s t = 0 := htk.trans (if_neg fun q => by rw [hHS] at q; exact absurd (show (0 : Int) = 2 from q.1) (by decide))
  have hn1 : ¬ tkE d s t ≠ 0 := fun q => q he
  have hG : gvS d s t = ⟨#[]⟩ := by
    unfold gvS gvT
    split
    · rfl
    · rw [show (svV d (rdW s)).moved.toNat = 0 by omega, ext_zero]
  have hcode : (svV d (rdW s)).code = 0 := f5.resolve_right fun q => h2 q.1
  obtain ⟨G, hGG⟩ : ∃ G, gvS d s t = G := ⟨_, rfl⟩
  have hGm : G.size ≤ maxLen := by
    rw [← hGG, hG]
    exact Nat.zero_le _
  obtain ⟨T, hTT⟩ : ∃ T, doT d (rdW s).cmd G = T := ⟨_, rfl⟩
  obtain ⟨C, hCC⟩ : ∃ C, doC d (rdW s).cmd G = C := ⟨_, rfl⟩
  obtain ⟨N, hNN⟩ : ∃ N, (doD d (rdW s).cmd G).b = N := ⟨_, rfl⟩
  obtain ⟨S, hSS⟩ : ∃ S, (doD d (rdW s).cmd G).s = S := ⟨_, rfl⟩
  have HDN : Hid (∀ u, Rts u v d.b → Calls Try.prog 45 #[ag (dkl v d.s), .string (rdW s).cmd, .string G] u fun e w' => ∃ a cp, e = .returned (.tuple #[ag (dkl (.slice a N.length cp) S), .string T, .int .i64 C]) ∧ Rts w' (.slice a N.length cp) N ∧ Below u.heap.size u w') := fun u hu => done_named v d (rdW s).cmd G hcm hGm T C N S hTT hCC hNN hSS u hu
  have hVD : svD d s t = ⟨N, S⟩ := by
    unfold svD
    rw [if_neg hn1, if_neg h2, hGG, ← hNN, ← hSS]
  have hVA : svA d s t = T := by
    unfold svA
    rw [if_neg hn1, if_neg h2, hGG, hTT]
  have hans : C = 0 → T.size = 0 ∧ (T.size : Int) ≤ (svV d (rdW s)).moved := fun q => by
    have := sv_ans (g := G) hd hwk h2 (by rw [hCC]; exact q)
    rw [hTT, hHS] at this
    exact ⟨this.1 (show (0 : Int) ≠ 1 by decide), this.2⟩
  have hGx := hGG.symm.trans hG
  subst hGx
  obtain ⟨nn, hnn⟩ : ∃ nn, N.length = nn := ⟨_, rfl⟩
  rw [hnn] at HDN
  by_cases h4 : C ≠ 0
  · have HV : Hid (svD d s t = ⟨N, S⟩ ∧ svA d s t = ⟨#[]⟩ ∧ svT d s t = stT ⟨(rdW s).tag, (svV d (rdW s)).res, 1⟩) := by
      have e : svS d s t = ⟨(rdW s).tag, (svV d (rdW s)).res, 1⟩ := by unfold svS svC; rw [if_neg h2, hGG, hCC, if_pos h4]
      refine ⟨hVD, ?_, ?_⟩
      · rw [hVA, ← hTT]; exact (do_none (by rw [hCC]; exact h4)).1
      unfold svT
      rw [if_neg hn1, e]
    rw [HV.out.1, HV.out.2.1, HV.out.2.2, he]
    generalize hxx : rdW s = x at *
    have e2 : decide (0 < x.len) = false := decide_eq_false (by omega)
    have e3 : decide (0 < x.unit) = false := decide_eq_false (by omega)
    generalize svV d x = V at *
    generalize dvV d x.cmd = D at *
    have g1 : (V.code == 2) = false := by simpa using h2
    have g3 : (C != 0) = true := by simpa using h4
    clear h2 h4 he hn1 HV ht hcode hGG hG hGm hTT hCC hNN hSS hVD hVA hans hnn h hs hd hz hu hl i1 i2 i3 i4 hwk hka hcm hHS j1 f2 f3 f4 f5 f6 f7 f8 hno htk hxx
    go_enter Try.func20, Try.ntmps20
    repeat' (first | (go_big_may; first | (refine v_box rfl rfl rfl ?_; intro u zd hN; replace hM := Mm.new (L := []) hM hN; clear hN) | (refine v_alloc rfl zer_disk rfl ?_; intro u zr hN; replace hM := hM.new hN; clear hN) | (refine v_load rfl rfl row_disk rfl hM.at1 (Nat.le_refl _) (cut_all rfl) ?_)) | go_values | go_skip | go_guarded | go_step | go_upon | (simp only [Int.not_lt, Int.not_le] at *; go_simp))
    refine (HK.out _ (hC0.call hM.below).out).mono ?_
    rintro e u1 ⟨rfl, hb⟩
    replace hM := hM.call hb
    clear hb HK
    repeat' (first | go_values | go_skip | go_guarded | go_step | go_upon | (simp only [Int.not_lt, Int.not_le] at *; go_simp))
    refine (HRW.out _).mono ?_
    rintro e u2 ⟨rfl, hb⟩
    replace hM := hM.call hb
    clear hb HRW
    repeat' (first | (go_big_may; first | (refine v_alloc rfl zer_wrap rfl ?_; intro u zw hN; replace hM := hM.new hN; clear hN) | (refine v_fill rfl rfl row_wrap rfl rfl hM.at0 (wpl_vs x) rfl ?_; intro u hv hc; replace hM := hM.put0 hc hv; clear hv hc) | (refine v_get rfl rfl (by first | exact lod_int | exact lod_str | exact lod_fcs | exact lod_err | exact lod_bool | exact lod_txs) rfl hM.at0 rfl ?_) | (refine v_build rfl rfl bld_move0 ?hbv ?_; (case hbv => simp [Act.eval, Act.put])) | (refine v_alloc rfl zer_move rfl ?_; intro u zm hN; replace hM := hM.new hN; clear hN) | (refine v_fill rfl rfl row_move rfl rfl hM.at0 (mvl_vs mv0) rfl ?_; intro u hv hc; replace hM := hM.put0 hc hv; clear hv hc) | (refine v_get rfl rfl lod_int rfl hM.at1 rfl ?_)) | go_values | go_skip | go_guarded | go_step | go_upon | (simp only [Int.not_lt, Int.not_le] at *; go_simp))
    have hCr := hC0.call hM.below
    go_simp
    go_cut [14, 15] from 50 to 58 (fun pv cv wx => ∃ zv : Nat, pv = .pointer (some ⟨zv, 0, none⟩) ∧ cv = .int .i64 0 ∧ Hid (Mm w wx [(zv, 39, vdl V), (zm, 37, mvl mv0), (zw, 23, wpl x), (zr, 45, dkl nilS 0), (zd, 45, dkl v d.s)]))
    case first =>
      refine reg.wp_abs (fun a0 => a0.tmps.size = 105 ∧ (∀ h, a0.tmps[3]'h = .pointer (some ⟨zd, 0, none⟩)) ∧ (∀ h, a0.tmps[11]'h = .pointer (some ⟨zw, 0, none⟩)) ∧ (∀ h, a0.tmps[13]'h = .pointer (some ⟨zm, 0, none⟩))) ⟨rfl, fun _ => rfl, fun _ => rfl, fun _ => rfl⟩ ?_
      rintro a0 ⟨hsz, s3, s11, s13⟩ ha0
      refine reg.wp_region_E (S := fun W => Ls W [(zm, 37, (mvl mv0)), (zw, 23, (wpl x)), (zd, 45, (dkl v d.s))]) (E := fun _ => false) (by kernel_rfl) ?_
      replace hM := hM.drew
      replace hCr := hCr.call (Below.refl _ _).drew
      refine reg.e_take (i := 0) (ag ((mvl mv0))) rfl (by kernel_rfl) (by kernel_rfl) (by kernel_rfl) (by kernel_rfl) (fun _ _ _ h => h) (reg.wanted_none rfl) (hM.ls (by simp)) (fun W hW => ex_load rfl row_move (by simp [go_sem, Act.put, hsz, s3, s11, s13]) hW.at0 (Nat.le_refl 2) (cut_all rfl)) ?_
      refine reg.e_take (i := 1) (ag ((dkl v d.s))) rfl (by kernel_rfl) (by kernel_rfl) (by kernel_rfl) (by kernel_rfl) (fun _ _ _ h => h) (reg.wanted_none rfl) (hM.ls (by simp)) (fun W hW => ex_load rfl row_disk (by simp [go_sem, Act.put, hsz, s3, s11, s13]) hW.at2 (Nat.le_refl 2) (cut_all rfl)) ?_
      refine reg.e_take (i := 2) (.pointer (some ⟨zw, 4, none⟩)) rfl (by kernel_rfl) (by kernel_rfl) (by kernel_rfl) (by kernel_rfl) (fun _ _ _ h => h) (reg.wanted_none rfl) (hM.ls (by simp)) (fun W hW => by simp [execOp, go_sem, Act.put, hsz, s3, s11, s13]) ?_
      refine reg.e_take (i := 3) (.string x.cmd) rfl (by kernel_rfl) (by kernel_rfl) (by kernel_rfl) (by kernel_rfl) (fun _ _ _ h => h) (reg.wanted_none rfl) (hM.ls (by simp)) (fun W hW => ex_get rfl (by simp [go_sem, Act.put, hsz, s3, s11, s13]) hW.at1 (show (wpl x)[4]? = some _ from rfl)) ?_
      refine reg.e_two 4 9 (by kernel_rfl) rfl rfl ?_ ?_
      · refine reg.r_call (i := 4) 43 #[ag ((dkl v d.s)), .string x.cmd] rfl (reg.wanted_none rfl) (by simp [execOp, go_sem, Act.put, hsz, s3, s11, s13]) ((HME.out _ hCr.out).mono ?_)
        rintro re ru1 ⟨rfl, rhv⟩
        replace hM := hM.call rhv
        replace hCr := hCr.call rhv
        clear rhv
        refine ⟨_, rfl, hM.ls (by simp), ?_⟩
        refine reg.e_two 5 9 (by kernel_rfl) rfl rfl ?_ ?_
        · refine reg.r_call (i := 5) 18 #[ag ((mvl mv0)), ag (mvl D)] rfl (reg.wanted_none rfl) (by simp [execOp, go_sem, Act.put, hsz, s3, s11, s13]) ((HJ.out _).mono ?_)
          rintro re ru2 ⟨rfl, rhv⟩
          replace hM := hM.call rhv
          replace hCr := hCr.call rhv
          clear rhv
          refine ⟨_, rfl, hM.ls (by simp), ?_⟩
          refine reg.e_take (i := 6) (.tuple #[ag (vdl V), .int .i64 0]) rfl (by kernel_rfl) (by kernel_rfl) (by kernel_rfl) (by kernel_rfl) (fun _ _ _ h => h) (reg.wanted_none rfl) (hM.ls (by simp)) (fun W hW => by simp [execOp, go_sem, Act.put, hsz, s3, s11, s13]) ?_
          refine reg.e_take (i := 7) (ag (vdl V)) rfl (by kernel_rfl) (by kernel_rfl) (by kernel_rfl) (by kernel_rfl) (fun _ _ _ h => h) (reg.wanted_none rfl) (hM.ls (by simp)) (fun W hW => by simp [execOp, go_sem, Act.put, hsz, s3, s11, s13]) ?_
          refine reg.e_take (i := 8) (.int .i64 0) rfl (by kernel_rfl) (by kernel_rfl) (by kernel_rfl) (by kernel_rfl) (fun _ _ _ h => h) (reg.wanted_none rfl) (hM.ls (by simp)) (fun W hW => by simp [execOp, go_sem, Act.put, hsz, s3, s11, s13]) ?_
          refine reg.e_one 9 (by kernel_rfl) rfl ?_
          refine r_alloc (i := 9) rfl (reg.wanted_none rfl) rfl zer_verdict ?_
          intro ru3 zv rhn
          replace hCr := hCr.call rhn.below
          replace hM := hM.new rhn
          clear rhn
          refine ⟨hM.ls (by simp), ?_⟩
          refine reg.e_one 10 (by kernel_rfl) rfl ?_
          refine r_fill (i := 10) rfl (reg.wanted_none rfl) rfl row_verdict (by simp [go_sem, Act.put, hsz, s3, s11, s13]) (by simp [go_sem, Act.put, hsz, s3, s11, s13]) hM.at0 (vdl_vs V) rfl ?_
          intro ru4 rhv rhc
          replace hM := hM.put0 rhc rhv
          clear rhc rhv
          refine ⟨hM.ls (by simp), ?_⟩
          refine reg.e_take (i := 11) (.int .i64 0) rfl (by kernel_rfl) (by kernel_rfl) (by kernel_rfl) (by kernel_rfl) (fun _ _ _ h => h) (reg.wanted_none rfl) (hM.ls (by simp)) (fun W hW => by simp [execOp, go_sem, Act.put, hsz, s3, s11, s13]) ?_
          refine reg.e_done (by kernel_rfl) ?_ _
          subst ha0
          clear hsz s3 s11 s13
          go_simp
          repeat' (first | go_values | go_skip | go_guarded | go_step | go_upon | (simp only [Int.not_lt, Int.not_le] at *; go_simp))
          go_meet
          case rel => exact ⟨zv, rfl, rfl, hM⟩
        · refine r_alloc (i := 9) rfl (reg.wanted_none rfl) rfl zer_verdict ?_
          intro ru5 zv rhn
          replace hCr := hCr.call rhn.below
          replace hM := hM.new rhn
          clear rhn
          refine ⟨hM.ls (by simp), ?_⟩
          refine reg.e_one 5 (by kernel_rfl) rfl ?_
          refine reg.r_call (i := 5) 18 #[ag ((mvl mv0)), ag (mvl D)] rfl (reg.wanted_none rfl) (by simp [execOp, go_sem, Act.put, hsz, s3, s11, s13]) ((HJ.out _).mono ?_)
          rintro re ru6 ⟨rfl, rhv⟩
          replace hM := hM.call rhv
          replace hCr := hCr.call rhv
          clear rhv
          refine ⟨_, rfl, hM.ls (by simp), ?_⟩
          refine reg.e_take (i := 6) (.tuple #[ag (vdl V), .int .i64 0]) rfl (by kernel_rfl) (by kernel_rfl) (by kernel_rfl) (by kernel_rfl) (fun _ _ _ h => h) (reg.wanted_none rfl) (hM.ls (by simp)) (fun W hW => by simp [execOp, go_sem, Act.put, hsz, s3, s11, s13]) ?_
          refine reg.e_take (i := 7) (ag (vdl V)) rfl (by kernel_rfl) (by kernel_rfl) (by kernel_rfl) (by kernel_rfl) (fun _ _ _ h => h) (reg.wanted_none rfl) (hM.ls (by simp)) (fun W hW => by simp [execOp, go_sem, Act.put, hsz, s3, s11, s13]) ?_
          refine reg.e_take (i := 8) (.int .i64 0) rfl (by kernel_rfl) (by kernel_rfl) (by kernel_rfl) (by kernel_rfl) (fun _ _ _ h => h) (reg.wanted_none rfl) (hM.ls (by simp)) (fun W hW => by simp [execOp, go_sem, Act.put, hsz, s3, s11, s13]) ?_
          refine reg.e_one 10 (by kernel_rfl) rfl ?_
          refine r_fill (i := 10) rfl (reg.wanted_none rfl) rfl row_verdict (by simp [go_sem, Act.put, hsz, s3, s11, s13]) (by simp [go_sem, Act.put, hsz, s3, s11, s13]) hM.at0 (vdl_vs V) rfl ?_
          intro ru7 rhv rhc
          replace hM := hM.put0 rhc rhv
          clear rhc rhv
          refine ⟨hM.ls (by simp), ?_⟩
          refine reg.e_take (i := 11) (.int .i64 0) rfl (by kernel_rfl) (by kernel_rfl) (by kernel_rfl) (by kernel_rfl) (fun _ _ _ h => h) (reg.wanted_none rfl) (hM.ls (by simp)) (fun W hW => by simp [execOp, go_sem, Act.put, hsz, s3, s11, s13]) ?_
          refine reg.e_done (by kernel_rfl) ?_ _
          subst ha0
          clear hsz s3 s11 s13
          go_simp
          repeat' (first | go_values | go_skip | go_guarded | go_step | go_upon | (simp only [Int.not_lt, Int.not_le] at *; go_simp))
          go_meet
          case rel => exact ⟨zv, rfl, rfl, hM⟩
      · refine r_alloc (i := 9) rfl (reg.wanted_none rfl) rfl zer_verdict ?_
        intro ru8 zv rhn
        replace hCr := hCr.call rhn.below
        replace hM := hM.new rhn
        clear rhn
        refine ⟨hM.ls (by simp), ?_⟩
        refine reg.e_one 4 (by kernel_rfl) rfl ?_
        refine reg.r_call (i := 4) 43 #[ag ((dkl v d.s)), .string x.cmd] rfl (reg.wanted_none rfl) (by simp [execOp, go_sem, Act.put, hsz, s3, s11, s13]) ((HME.out _ hCr.out).mono ?_)
        rintro re ru9 ⟨rfl, rhv⟩
        replace hM := hM.call rhv
        replace hCr := hCr.call rhv
        clear rhv
        refine ⟨_, rfl, hM.ls (by simp), ?_⟩
        refine reg.e_one 5 (by kernel_rfl) rfl ?_
        refine reg.r_call (i := 5) 18 #[ag ((mvl mv0)), ag (mvl D)] rfl (reg.wanted_none rfl) (by simp [execOp, go_sem, Act.put, hsz, s3, s11, s13]) ((HJ.out _).mono ?_)
        rintro re ru10 ⟨rfl, rhv⟩
        replace hM := hM.call rhv
        replace hCr := hCr.call rhv
        clear rhv
        refine ⟨_, rfl, hM.ls (by simp), ?_⟩
        refine reg.e_take (i := 6) (.tuple #[ag (vdl V), .int .i64 0]) rfl (by kernel_rfl) (by kernel_rfl) (by kernel_rfl) (by kernel_rfl) (fun _ _ _ h => h) (reg.wanted_none rfl) (hM.ls (by simp)) (fun W hW => by simp [execOp, go_sem, Act.put, hsz, s3, s11, s13]) ?_
        refine reg.e_take (i := 7) (ag (vdl V)) rfl (by kernel_rfl) (by kernel_rfl) (by kernel_rfl) (by kernel_rfl) (fun _ _ _ h => h) (reg.wanted_none rfl) (hM.ls (by simp)) (fun W hW => by simp [execOp, go_sem, Act.put, hsz, s3, s11, s13]) ?_
        refine reg.e_take (i := 8) (.int .i64 0) rfl (by kernel_rfl) (by kernel_rfl) (by kernel_rfl) (by kernel_rfl) (fun _ _ _ h => h) (reg.wanted_none rfl) (hM.ls (by simp)) (fun W hW => by simp [execOp, go_sem, Act.put, hsz, s3, s11, s13]) ?_
        refine reg.e_one 10 (by kernel_rfl) rfl ?_
        refine r_fill (i := 10) rfl (reg.wanted_none rfl) rfl row_verdict (by simp [go_sem, Act.put, hsz, s3, s11, s13]) (by simp [go_sem, Act.put, hsz, s3, s11, s13]) hM.at0 (vdl_vs V) rfl ?_
        intro ru11 rhv rhc
        replace hM := hM.put0 rhc rhv
        clear rhc rhv
        refine ⟨hM.ls (by simp), ?_⟩
        refine reg.e_take (i := 11) (.int .i64 0) rfl (by kernel_rfl) (by kernel_rfl) (by kernel_rfl) (by kernel_rfl) (fun _ _ _ h => h) (reg.wanted_none rfl) (hM.ls (by simp)) (fun W hW => by simp [execOp, go_sem, Act.put, hsz, s3, s11, s13]) ?_
        refine reg.e_done (by kernel_rfl) ?_ _
        subst ha0
        clear hsz s3 s11 s13
        go_simp
        repeat' (first | go_values | go_skip | go_guarded | go_step | go_upon | (simp only [Int.not_lt, Int.not_le] at *; go_simp))
        go_meet
        case rel => exact ⟨zv, rfl, rfl, hM⟩
    case rest =>
    clear hM hCr
    obtain ⟨zv, rfl, rfl, HX⟩ := hcut
    rename World => u4
    have hM := HX.out
    clear HX HME HJ
    repeat' (first | (go_big_may; first | (refine v_get rfl rfl (by first | exact lod_int | exact lod_str | exact lod_fcs | exact lod_err | exact lod_bool | exact lod_txs) rfl hM.at0 rfl ?_) | (refine v_get rfl rfl (by first | exact lod_int | exact lod_str | exact lod_fcs | exact lod_err | exact lod_bool | exact lod_txs) rfl hM.at1 rfl ?_) | (refine v_load rfl rfl row_disk rfl hM.at4 (Nat.le_refl _) (cut_all rfl) ?_) | (refine v_get rfl rfl lod_str rfl hM.at2 rfl ?_)) | go_values | go_skip | go_guarded | go_step | go_upon | (simp only [Int.not_lt, Int.not_le] at *; go_simp))
    refine (HDN.out _ (hC0.call hM.below).out).mono ?_
    rintro e u6 ⟨xa, xc, rfl, hrr, hb⟩
    replace hM := hM.call hb
    have hR := rtp hrr
    clear hb hrr HDN
    repeat' (first | (go_big_may; first | (refine v_alloc rfl zer_disk rfl ?_; intro u zn hN; replace hR := hR.call hN.below; replace hM := hM.new hN; clear hN) | (refine v_fill rfl rfl row_disk rfl rfl hM.at0 (dkl_vs (v := .slice xa nn xc) S rfl) rfl ?_; intro u hv hc; replace hR := rtp (rts_chg hR.out hM.at0 (fun x q => by cases q) hc); replace hM := hM.put0 hc hv; clear hv hc)) | go_values | go_skip | go_guarded | go_step | go_upon | (simp only [Int.not_lt, Int.not_le] at *; go_simp))
    refine reg.wp_abs (fun a0 => a0.tmps.size = 105 ∧ (∀ h, a0.tmps[6]'h = .pointer (some ⟨zr, 0, none⟩)) ∧ (∀ h, a0.tmps[16]'h = .func (.func 44) #[] #[.pointer (some ⟨zw, 0, none⟩), .pointer (some ⟨zv, 0, none⟩)]) ∧ (∀ h, a0.tmps[18]'h = .pointer (some ⟨zn, 0, none⟩))) ⟨rfl, fun _ => rfl, fun _ => rfl, fun _ => rfl⟩ ?_
    rintro a0 ⟨hsz, s6, s16, s18⟩ ha0
    refine reg.wp_region_E (S := fun W => Ls W [(zn, 45, (dkl (.slice xa nn xc) S))]) (E := fun _ => false) (by kernel_rfl) ?_
    replace hM := hM.drew
    replace hR := hR.call (Below.refl _ _).drew
    refine reg.e_take (i := 0) (ag ((dkl (.slice xa nn xc) S))) rfl (by kernel_rfl) (by kernel_rfl) (by kernel_rfl) (by kernel_rfl) (fun _ _ _ h => h) (reg.wanted_none rfl) (hM.ls (by simp)) (fun W hW => ex_load rfl row_disk (by simp [go_sem, Act.put, hsz, s6, s16, s18]) hW.at0 (Nat.le_refl 2) (cut_all rfl)) ?_
    refine reg.e_take (i := 1) (.func (.func 44) #[] #[.pointer (some ⟨zw, 0, none⟩), .pointer (some ⟨zv, 0, none⟩)]) rfl (by kernel_rfl) (by kernel_rfl) (by kernel_rfl) (by kernel_rfl) (fun _ _ _ h => h) (reg.wanted_none rfl) (hM.ls (by simp)) (fun W hW => by simp [execOp, go_sem, Act.put, hsz, s6, s16, s18]) ?_
    refine reg.e_one 2 (by kernel_rfl) rfl ?_
    refine reg.r_call (i := 2) 44 #[.int .i64 1, .pointer (some ⟨zw, 0, none⟩), .pointer (some ⟨zv, 0, none⟩)] rfl (reg.wanted_none rfl) (by simp [execOp, go_sem, Act.put, hsz, s6, s16, s18, EG.out]) ((HST.out 1 zw zv _ hM.at3 hM.at1).mono ?_)
    rintro re ru1 ⟨rfl, rhv⟩
    replace hM := hM.call rhv
    replace hR := hR.call rhv
    clear rhv
    refine ⟨_, rfl, hM.ls (by simp), ?_⟩
    refine reg.e_one 3 (by kernel_rfl) rfl ?_
    refine r_fill (i := 3) rfl (reg.wanted_none rfl) rfl row_disk (by simp [go_sem, Act.put, hsz, s6, s16, s18]) (by simp [go_sem, Act.put, hsz, s6, s16, s18]) hM.at4 (dkl_vs (v := .slice xa nn xc) S rfl) rfl ?_
    intro ru2 rhv rhc
    have rhB := hM.at4
    replace hM := hM.put4 rhc rhv
    replace hR := rtp (rts_chg hR.out rhB (fun x q => by cases q) rhc)
    clear rhc rhv rhB
    refine ⟨hM.ls (by simp), ?_⟩
    refine reg.e_take (i := 4) (.string { data := #[] }) rfl (by kernel_rfl) (by kernel_rfl) (by kernel_rfl) (by kernel_rfl) (fun _ _ _ h => h) (reg.wanted_none rfl) (hM.ls (by simp)) (fun W hW => by simp [execOp, go_sem, Act.put, hsz, s6, s16, s18]) ?_
    refine reg.e_take (i := 5) (.string (stT ⟨x.tag, V.res, 1⟩)) rfl (by kernel_rfl) (by kernel_rfl) (by kernel_rfl) (by kernel_rfl) (fun _ _ _ h => h) (reg.wanted_none rfl) (hM.ls (by simp)) (fun W hW => by simp [execOp, go_sem, Act.put, hsz, s6, s16, s18]) ?_
    refine reg.e_take (i := 6) (.int .i64 0) rfl (by kernel_rfl) (by kernel_rfl) (by kernel_rfl) (by kernel_rfl) (fun _ _ _ h => h) (reg.wanted_none rfl) (hM.ls (by simp)) (fun W hW => by simp [execOp, go_sem, Act.put, hsz, s6, s16, s18]) ?_
    refine reg.e_done (by kernel_rfl) ?_ _
    subst ha0
    clear hsz s6 s16 s18
    go_simp
    repeat' (first | go_values | go_skip | go_guarded | go_step | go_upon | (simp only [Int.not_lt, Int.not_le] at *; go_simp))
    exact bodyPost_ret (ret_ctt rfl rfl (ld_var row_disk hM.at4 rfl) rfl rfl rfl) rfl ⟨_, rfl, hR.out, hM.below⟩
  · have h4 : C = 0 := Classical.not_not.1 h4
    have hans := hans h4
    have HV : Hid (svD d s t = ⟨N, S⟩ ∧ svA d s t = T ∧ svT d s t = stT ⟨(rdW s).tag, (svV d (rdW s)).res, 0⟩) := by
      have e : svS d s t = ⟨(rdW s).tag, (svV d (rdW s)).res, 0⟩ := by unfold svS svC; rw [if_neg h2, hGG, hCC, if_neg (fun q => q h4)]
      refine ⟨hVD, hVA, ?_⟩
      unfold svT
      rw [if_neg hn1, e]
    rw [HV.out.1, HV.out.2.1, HV.out.2.2, he]
    have hmv : 0 ≤ (svV d (rdW s)).moved := f2
    generalize hxx : rdW s = x at *
    have e2 : decide (0 < x.len) = false := decide_eq_false (by omega)
    have e3 : decide (0 < x.unit) = false := decide_eq_false (by omega)
    generalize svV d x = V at *
    generalize dvV d x.cmd = D at *
    have g1 : (V.code == 2) = false := by simpa using h2
    have g3 : (C != 0) = false := by simpa using h4
    have hTe : T = ⟨#[]⟩ := by apply nums_inj; apply List.eq_nil_of_length_eq_zero; rw [nums_length]; exact hans.1
    have HTE : Hid (T = ⟨#[]⟩) := hTe
    have hmn : min (0 : Int) V.moved = 0 := by omega
    have HSL : Hid (∀ W, (Instr.slice 9 (.string ⟨#[]⟩) none (some (.int .i64 0)) none).run Try.prog W = .ok (.string ⟨#[]⟩) W) := fun W => by
      have := run_slice_string_h (P := Try.prog) (w := W) (t := 9) (s := ⟨#[]⟩) (ht := Try.underlying9) .i64 0 (by omega) (by decide)
      rw [show Int.toNat 0 = 0 from rfl, ext_zero] at this
      exact this
    have HMN : Hid (min (0 : Int) V.moved = 0) := hmn
    clear hmn hTe
    clear h2 h4 he hn1 HV ht hcode hGG hG hGm hTT hCC hNN hSS hVD hVA hans hnn hmv h hs hd hz hu hl i1 i2 i3 i4 hwk hka hcm hHS j1 f2 f3 f4 f5 f6 f7 f8 hno htk hxx
    go_enter Try.func20, Try.ntmps20
    repeat' (first | (go_big_may; first | (refine v_box rfl rfl rfl ?_; intro u zd hN; replace hM := Mm.new (L := []) hM hN; clear hN) | (refine v_alloc rfl zer_disk rfl ?_; intro u zr hN; replace hM := hM.new hN; clear hN) | (refine v_load rfl rfl row_disk rfl hM.at1 (Nat.le_refl _) (cut_all rfl) ?_)) | go_values | go_skip | go_guarded | go_step | go_upon | (simp only [Int.not_lt, Int.not_le] at *; go_simp))
    refine (HK.out _ (hC0.call hM.below).out).mono ?_
    rintro e u1 ⟨rfl, hb⟩
    replace hM := hM.call hb
    clear hb HK
    repeat' (first | go_values | go_skip | go_guarded | go_step | go_upon | (simp only [Int.not_lt, Int.not_le] at *; go_simp))
    refine (HRW.out _).mono ?_
    rintro e u2 ⟨rfl, hb⟩
    replace hM := hM.call hb
    clear hb HRW
    repeat' (first | (go_big_may; first | (refine v_alloc rfl zer_wrap rfl ?_; intro u zw hN; replace hM := hM.new hN; clear hN) | (refine v_fill rfl rfl row_wrap rfl rfl hM.at0 (wpl_vs x) rfl ?_; intro u hv hc; replace hM := hM.put0 hc hv; clear hv hc) | (refine v_get rfl rfl (by first | exact lod_int | exact lod_str | exact lod_fcs | exact lod_err | exact lod_bool | exact lod_txs) rfl hM.at0 rfl ?_) | (refine v_build rfl rfl bld_move0 ?hbv ?_; (case hbv => simp [Act.eval, Act.put])) | (refine v_alloc rfl zer_move rfl ?_; intro u zm hN; replace hM := hM.new hN; clear hN) | (refine v_fill rfl rfl row_move rfl rfl hM.at0 (mvl_vs mv0) rfl ?_; intro u hv hc; replace hM := hM.put0 hc hv; clear hv hc) | (refine v_get rfl rfl lod_int rfl hM.at1 rfl ?_)) | go_values | go_skip | go_guarded | go_step | go_upon | (simp only [Int.not_lt, Int.not_le] at *; go_simp))
    have hCr := hC0.call hM.below
    go_simp
    go_cut [14, 15] from 50 to 58 (fun pv cv wx => ∃ zv : Nat, pv = .pointer (some ⟨zv, 0, none⟩) ∧ cv = .int .i64 0 ∧ Hid (Mm w wx [(zv, 39, vdl V), (zm, 37, mvl mv0), (zw, 23, wpl x), (zr, 45, dkl nilS 0), (zd, 45, dkl v d.s)]))
    case first =>
      refine reg.wp_abs (fun a0 => a0.tmps.size = 105 ∧ (∀ h, a0.tmps[3]'h = .pointer (some ⟨zd, 0, none⟩)) ∧ (∀ h, a0.tmps[11]'h = .pointer (some ⟨zw, 0, none⟩)) ∧ (∀ h, a0.tmps[13]'h = .pointer (some ⟨zm, 0, none⟩))) ⟨rfl, fun _ => rfl, fun _ => rfl, fun _ => rfl⟩ ?_
      rintro a0 ⟨hsz, s3, s11, s13⟩ ha0
      refine reg.wp_region_E (S := fun W => Ls W [(zm, 37, (mvl mv0)), (zw, 23, (wpl x)), (zd, 45, (dkl v d.s))]) (E := fun _ => false) (by kernel_rfl) ?_
      replace hM := hM.drew
      replace hCr := hCr.call (Below.refl _ _).drew
      refine reg.e_take (i := 0) (ag ((mvl mv0))) rfl (by kernel_rfl) (by kernel_rfl) (by kernel_rfl) (by kernel_rfl) (fun _ _ _ h => h) (reg.wanted_none rfl) (hM.ls (by simp)) (fun W hW => ex_load rfl row_move (by simp [go_sem, Act.put, hsz, s3, s11, s13]) hW.at0 (Nat.le_refl 2) (cut_all rfl)) ?_
      refine reg.e_take (i := 1) (ag ((dkl v d.s))) rfl (by kernel_rfl) (by kernel_rfl) (by kernel_rfl) (by kernel_rfl) (fun _ _ _ h => h) (reg.wanted_none rfl) (hM.ls (by simp)) (fun W hW => ex_load rfl row_disk (by simp [go_sem, Act.put, hsz, s3, s11, s13]) hW.at2 (Nat.le_refl 2) (cut_all rfl)) ?_
      refine reg.e_take (i := 2) (.pointer (some ⟨zw, 4, none⟩)) rfl (by kernel_rfl) (by kernel_rfl) (by kernel_rfl) (by kernel_rfl) (fun _ _ _ h => h) (reg.wanted_none rfl) (hM.ls (by simp)) (fun W hW => by simp [execOp, go_sem, Act.put, hsz, s3, s11, s13]) ?_
      refine reg.e_take (i := 3) (.string x.cmd) rfl (by kernel_rfl) (by kernel_rfl) (by kernel_rfl) (by kernel_rfl) (fun _ _ _ h => h) (reg.wanted_none rfl) (hM.ls (by simp)) (fun W hW => ex_get rfl (by simp [go_sem, Act.put, hsz, s3, s11, s13]) hW.at1 (show (wpl x)[4]? = some _ from rfl)) ?_
      refine reg.e_two 4 9 (by kernel_rfl) rfl rfl ?_ ?_
      · refine reg.r_call (i := 4) 43 #[ag ((dkl v d.s)), .string x.cmd] rfl (reg.wanted_none rfl) (by simp [execOp, go_sem, Act.put, hsz, s3, s11, s13]) ((HME.out _ hCr.out).mono ?_)
        rintro re ru1 ⟨rfl, rhv⟩
        replace hM := hM.call rhv
        replace hCr := hCr.call rhv
        clear rhv
        refine ⟨_, rfl, hM.ls (by simp), ?_⟩
        refine reg.e_two 5 9 (by kernel_rfl) rfl rfl ?_ ?_
        · refine reg.r_call (i := 5) 18 #[ag ((mvl mv0)), ag (mvl D)] rfl (reg.wanted_none rfl) (by simp [execOp, go_sem, Act.put, hsz, s3, s11, s13]) ((HJ.out _).mono ?_)
          rintro re ru2 ⟨rfl, rhv⟩
          replace hM := hM.call rhv
          replace hCr := hCr.call rhv
          clear rhv
          refine ⟨_, rfl, hM.ls (by simp), ?_⟩
          refine reg.e_take (i := 6) (.tuple #[ag (vdl V), .int .i64 0]) rfl (by kernel_rfl) (by kernel_rfl) (by kernel_rfl) (by kernel_rfl) (fun _ _ _ h => h) (reg.wanted_none rfl) (hM.ls (by simp)) (fun W hW => by simp [execOp, go_sem, Act.put, hsz, s3, s11, s13]) ?_
          refine reg.e_take (i := 7) (ag (vdl V)) rfl (by kernel_rfl) (by kernel_rfl) (by kernel_rfl) (by kernel_rfl) (fun _ _ _ h => h) (reg.wanted_none rfl) (hM.ls (by simp)) (fun W hW => by simp [execOp, go_sem, Act.put, hsz, s3, s11, s13]) ?_
          refine reg.e_take (i := 8) (.int .i64 0) rfl (by kernel_rfl) (by kernel_rfl) (by kernel_rfl) (by kernel_rfl) (fun _ _ _ h => h) (reg.wanted_none rfl) (hM.ls (by simp)) (fun W hW => by simp [execOp, go_sem, Act.put, hsz, s3, s11, s13]) ?_
          refine reg.e_one 9 (by kernel_rfl) rfl ?_
          refine r_alloc (i := 9) rfl (reg.wanted_none rfl) rfl zer_verdict ?_
          intro ru3 zv rhn
          replace hCr := hCr.call rhn.below
          replace hM := hM.new rhn
          clear rhn
          refine ⟨hM.ls (by simp), ?_⟩
          refine reg.e_one 10 (by kernel_rfl) rfl ?_
          refine r_fill (i := 10) rfl (reg.wanted_none rfl) rfl row_verdict (by simp [go_sem, Act.put, hsz, s3, s11, s13]) (by simp [go_sem, Act.put, hsz, s3, s11, s13]) hM.at0 (vdl_vs V) rfl ?_
          intro ru4 rhv rhc
          replace hM := hM.put0 rhc rhv
          clear rhc rhv
          refine ⟨hM.ls (by simp), ?_⟩
          refine reg.e_take (i := 11) (.int .i64 0) rfl (by kernel_rfl) (by kernel_rfl) (by kernel_rfl) (by kernel_rfl) (fun _ _ _ h => h) (reg.wanted_none rfl) (hM.ls (by simp)) (fun W hW => by simp [execOp, go_sem, Act.put, hsz, s3, s11, s13]) ?_
          refine reg.e_done (by kernel_rfl) ?_ _
          subst ha0
          clear hsz s3 s11 s13
          go_simp
          repeat' (first | go_values | go_skip | go_guarded | go_step | go_upon | (simp only [Int.not_lt, Int.not_le] at *; go_simp))
          go_meet
          case rel => exact ⟨zv, rfl, rfl, hM⟩
        · refine r_alloc (i := 9) rfl (reg.wanted_none rfl) rfl zer_verdict ?_
          intro ru5 zv rhn
          replace hCr := hCr.call rhn.below
          replace hM := hM.new rhn
          clear rhn
          refine ⟨hM.ls (by simp), ?_⟩
          refine reg.e_one 5 (by kernel_rfl) rfl ?_
          refine reg.r_call (i := 5) 18 #[ag ((mvl mv0)), ag (mvl D)] rfl (reg.wanted_none rfl) (by simp [execOp, go_sem, Act.put, hsz, s3, s11, s13]) ((HJ.out _).mono ?_)
          rintro re ru6 ⟨rfl, rhv⟩
          replace hM := hM.call rhv
          replace hCr := hCr.call rhv
          clear rhv
          refine ⟨_, rfl, hM.ls (by simp), ?_⟩
          refine reg.e_take (i := 6) (.tuple #[ag (vdl V), .int .i64 0]) rfl (by kernel_rfl) (by kernel_rfl) (by kernel_rfl) (by kernel_rfl) (fun _ _ _ h => h) (reg.wanted_none rfl) (hM.ls (by simp)) (fun W hW => by simp [execOp, go_sem, Act.put, hsz, s3, s11, s13]) ?_
          refine reg.e_take (i := 7) (ag (vdl V)) rfl (by kernel_rfl) (by kernel_rfl) (by kernel_rfl) (by kernel_rfl) (fun _ _ _ h => h) (reg.wanted_none rfl) (hM.ls (by simp)) (fun W hW => by simp [execOp, go_sem, Act.put, hsz, s3, s11, s13]) ?_
          refine reg.e_take (i := 8) (.int .i64 0) rfl (by kernel_rfl) (by kernel_rfl) (by kernel_rfl) (by kernel_rfl) (fun _ _ _ h => h) (reg.wanted_none rfl) (hM.ls (by simp)) (fun W hW => by simp [execOp, go_sem, Act.put, hsz, s3, s11, s13]) ?_
          refine reg.e_one 10 (by kernel_rfl) rfl ?_
          refine r_fill (i := 10) rfl (reg.wanted_none rfl) rfl row_verdict (by simp [go_sem, Act.put, hsz, s3, s11, s13]) (by simp [go_sem, Act.put, hsz, s3, s11, s13]) hM.at0 (vdl_vs V) rfl ?_
          intro ru7 rhv rhc
          replace hM := hM.put0 rhc rhv
          clear rhc rhv
          refine ⟨hM.ls (by simp), ?_⟩
          refine reg.e_take (i := 11) (.int .i64 0) rfl (by kernel_rfl) (by kernel_rfl) (by kernel_rfl) (by kernel_rfl) (fun _ _ _ h => h) (reg.wanted_none rfl) (hM.ls (by simp)) (fun W hW => by simp [execOp, go_sem, Act.put, hsz, s3, s11, s13]) ?_
          refine reg.e_done (by kernel_rfl) ?_ _
          subst ha0
          clear hsz s3 s11 s13
          go_simp
          repeat' (first | go_values | go_skip | go_guarded | go_step | go_upon | (simp only [Int.not_lt, Int.not_le] at *; go_simp))
          go_meet
          case rel => exact ⟨zv, rfl, rfl, hM⟩
      · refine r_alloc (i := 9) rfl (reg.wanted_none rfl) rfl zer_verdict ?_
        intro ru8 zv rhn
        replace hCr := hCr.call rhn.below
        replace hM := hM.new rhn
        clear rhn
        refine ⟨hM.ls (by simp), ?_⟩
        refine reg.e_one 4 (by kernel_rfl) rfl ?_
        refine reg.r_call (i := 4) 43 #[ag ((dkl v d.s)), .string x.cmd] rfl (reg.wanted_none rfl) (by simp [execOp, go_sem, Act.put, hsz, s3, s11, s13]) ((HME.out _ hCr.out).mono ?_)
        rintro re ru9 ⟨rfl, rhv⟩
        replace hM := hM.call rhv
        replace hCr := hCr.call rhv
        clear rhv
        refine ⟨_, rfl, hM.ls (by simp), ?_⟩
        refine reg.e_one 5 (by kernel_rfl) rfl ?_
        refine reg.r_call (i := 5) 18 #[ag ((mvl mv0)), ag (mvl D)] rfl (reg.wanted_none rfl) (by simp [execOp, go_sem, Act.put, hsz, s3, s11, s13]) ((HJ.out _).mono ?_)
        rintro re ru10 ⟨rfl, rhv⟩
        replace hM := hM.call rhv
        replace hCr := hCr.call rhv
        clear rhv
        refine ⟨_, rfl, hM.ls (by simp), ?_⟩
        refine reg.e_take (i := 6) (.tuple #[ag (vdl V), .int .i64 0]) rfl (by kernel_rfl) (by kernel_rfl) (by kernel_rfl) (by kernel_rfl) (fun _ _ _ h => h) (reg.wanted_none rfl) (hM.ls (by simp)) (fun W hW => by simp [execOp, go_sem, Act.put, hsz, s3, s11, s13]) ?_
        refine reg.e_take (i := 7) (ag (vdl V)) rfl (by kernel_rfl) (by kernel_rfl) (by kernel_rfl) (by kernel_rfl) (fun _ _ _ h => h) (reg.wanted_none rfl) (hM.ls (by simp)) (fun W hW => by simp [execOp, go_sem, Act.put, hsz, s3, s11, s13]) ?_
        refine reg.e_take (i := 8) (.int .i64 0) rfl (by kernel_rfl) (by kernel_rfl) (by kernel_rfl) (by kernel_rfl) (fun _ _ _ h => h) (reg.wanted_none rfl) (hM.ls (by simp)) (fun W hW => by simp [execOp, go_sem, Act.put, hsz, s3, s11, s13]) ?_
        refine reg.e_one 10 (by kernel_rfl) rfl ?_
        refine r_fill (i := 10) rfl (reg.wanted_none rfl) rfl row_verdict (by simp [go_sem, Act.put, hsz, s3, s11, s13]) (by simp [go_sem, Act.put, hsz, s3, s11, s13]) hM.at0 (vdl_vs V) rfl ?_
        intro ru11 rhv rhc
        replace hM := hM.put0 rhc rhv
        clear rhc rhv
        refine ⟨hM.ls (by simp), ?_⟩
        refine reg.e_take (i := 11) (.int .i64 0) rfl (by kernel_rfl) (by kernel_rfl) (by kernel_rfl) (by kernel_rfl) (fun _ _ _ h => h) (reg.wanted_none rfl) (hM.ls (by simp)) (fun W hW => by simp [execOp, go_sem, Act.put, hsz, s3, s11, s13]) ?_
        refine reg.e_done (by kernel_rfl) ?_ _
        subst ha0
        clear hsz s3 s11 s13
        go_simp
        repeat' (first | go_values | go_skip | go_guarded | go_step | go_upon | (simp only [Int.not_lt, Int.not_le] at *; go_simp))
        go_meet
        case rel => exact ⟨zv, rfl, rfl, hM⟩
    case rest =>
    clear hM hCr
    obtain ⟨zv, rfl, rfl, HX⟩ := hcut
    rename World => u4
    have hM := HX.out
    clear HX HME HJ
    repeat' (first | (go_big_may; first | (refine v_get rfl rfl (by first | exact lod_int | exact lod_str | exact lod_fcs | exact lod_err | exact lod_bool | exact lod_txs) rfl hM.at0 rfl ?_) | (refine v_get rfl rfl (by first | exact lod_int | exact lod_str | exact lod_fcs | exact lod_err | exact lod_bool | exact lod_txs) rfl hM.at1 rfl ?_) | (refine v_load rfl rfl row_disk rfl hM.at4 (Nat.le_refl _) (cut_all rfl) ?_) | (refine v_get rfl rfl lod_str rfl hM.at2 rfl ?_)) | go_values | go_skip | go_guarded | go_step | go_upon | (simp only [Int.not_lt, Int.not_le] at *; go_simp))
    refine (HDN.out _ (hC0.call hM.below).out).mono ?_
    rintro e u6 ⟨xa, xc, rfl, hrr, hb⟩
    replace hM := hM.call hb
    have hR := rtp hrr
    clear hb hrr HDN
    repeat' (first | (go_big_may; first | (refine v_alloc rfl zer_disk rfl ?_; intro u zn hN; replace hR := hR.call hN.below; replace hM := hM.new hN; clear hN) | (refine v_fill rfl rfl row_disk rfl rfl hM.at0 (dkl_vs (v := .slice xa nn xc) S rfl) rfl ?_; intro u hv hc; replace hR := rtp (rts_chg hR.out hM.at0 (fun x q => by cases q) hc); replace hM := hM.put0 hc hv; clear hv hc) | (refine v_get rfl rfl (by first | exact lod_int | exact lod_str | exact lod_fcs | exact lod_err | exact lod_bool | exact lod_txs) rfl hM.at2 rfl ?_)) | go_values | go_skip | go_guarded | go_step | go_upon | (simp only [Int.not_lt, Int.not_le] at *; go_simp))
    refine reg.wp_abs (fun a0 => a0.tmps.size = 105 ∧ (∀ h, a0.tmps[6]'h = .pointer (some ⟨zr, 0, none⟩)) ∧ (∀ h, a0.tmps[14]'h = .pointer (some ⟨zv, 0, none⟩)) ∧ (∀ h, a0.tmps[16]'h = .func (.func 44) #[] #[.pointer (some ⟨zw, 0, none⟩), .pointer (some ⟨zv, 0, none⟩)]) ∧ (∀ h, a0.tmps[18]'h = .pointer (some ⟨zn, 0, none⟩)) ∧ (∀ h, a0.tmps[19]'h = .string ⟨#[]⟩)) ⟨rfl, fun _ => rfl, fun _ => rfl, fun _ => rfl, fun _ => rfl, fun _ => rfl⟩ ?_
    rintro a0 ⟨hsz, s6, s14, s16, s18, s19⟩ ha0
    refine reg.wp_region_E (S := fun W => Ls W [(zn, 45, (dkl (.slice xa nn xc) S)), (zv, 39, (vdl V))]) (E := fun _ => false) (by kernel_rfl) ?_
    replace hM := hM.drew
    replace hR := hR.call (Below.refl _ _).drew
    refine reg.e_take (i := 0) (ag ((dkl (.slice xa nn xc) S))) rfl (by kernel_rfl) (by kernel_rfl) (by kernel_rfl) (by kernel_rfl) (fun _ _ _ h => h) (reg.wanted_none rfl) (hM.ls (by simp)) (fun W hW => ex_load rfl row_disk (by simp [go_sem, Act.put, hsz, s6, s14, s16, s18, s19]) hW.at0 (Nat.le_refl 2) (cut_all rfl)) ?_
    refine reg.e_take (i := 1) (.string ⟨#[]⟩) rfl (by kernel_rfl) (by kernel_rfl) (by kernel_rfl) (by kernel_rfl) (fun _ _ _ h => h) (reg.wanted_none rfl) (hM.ls (by simp)) (fun W hW => by simp [execOp, go_sem, Act.put, hsz, s6, s14, s16, s18, s19]) ?_
    refine reg.e_take (i := 2) (.string ⟨#[]⟩) rfl (by kernel_rfl) (by kernel_rfl) (by kernel_rfl) (by kernel_rfl) (fun _ _ _ h => h) (reg.wanted_none rfl) (hM.ls (by simp)) (fun W hW => by simp [execOp, go_sem, Act.put, hsz, s6, s14, s16, s18, s19]) ?_
    refine reg.e_take (i := 3) (.int .i64 0) rfl (by kernel_rfl) (by kernel_rfl) (by kernel_rfl) (by kernel_rfl) (fun _ _ _ h => h) (reg.wanted_none rfl) (hM.ls (by simp)) (fun W hW => by simp [execOp, go_sem, Act.put, hsz, s6, s14, s16, s18, s19]) ?_
    refine reg.e_take (i := 4) (.pointer (some ⟨zv, 1, none⟩)) rfl (by kernel_rfl) (by kernel_rfl) (by kernel_rfl) (by kernel_rfl) (fun _ _ _ h => h) (reg.wanted_none rfl) (hM.ls (by simp)) (fun W hW => by simp [execOp, go_sem, Act.put, hsz, s6, s14, s16, s18, s19]) ?_
    refine reg.e_take (i := 5) (.int .i64 V.moved) rfl (by kernel_rfl) (by kernel_rfl) (by kernel_rfl) (by kernel_rfl) (fun _ _ _ h => h) (reg.wanted_none rfl) (hM.ls (by simp)) (fun W hW => ex_get rfl (by simp [go_sem, Act.put, hsz, s6, s14, s16, s18, s19]) hW.at1 (show (vdl V)[1]? = some _ from rfl)) ?_
    refine reg.e_take (i := 6) (.int .i64 0) rfl (by kernel_rfl) (by kernel_rfl) (by kernel_rfl) (by kernel_rfl) (fun _ _ _ h => h) (reg.wanted_none rfl) (hM.ls (by simp)) (fun W hW => by simp [execOp, go_sem, Act.put, hsz, s6, s14, s16, s18, s19, HMN.out]) ?_
    refine reg.e_take (i := 7) (.string ⟨#[]⟩) rfl (by kernel_rfl) (by kernel_rfl) (by kernel_rfl) (by kernel_rfl) (fun _ _ _ h => h) (reg.wanted_none rfl) (hM.ls (by simp)) (fun W hW => by simp [execOp, go_sem, Act.put, hsz, s6, s14, s16, s18, s19, HSL.out]) ?_
    refine reg.e_take (i := 8) (.func (.func 44) #[] #[.pointer (some ⟨zw, 0, none⟩), .pointer (some ⟨zv, 0, none⟩)]) rfl (by kernel_rfl) (by kernel_rfl) (by kernel_rfl) (by kernel_rfl) (fun _ _ _ h => h) (reg.wanted_none rfl) (hM.ls (by simp)) (fun W hW => by simp [execOp, go_sem, Act.put, hsz, s6, s14, s16, s18, s19]) ?_
    refine reg.e_one 9 (by kernel_rfl) rfl ?_
    refine reg.r_call (i := 9) 44 #[.int .i64 0, .pointer (some ⟨zw, 0, none⟩), .pointer (some ⟨zv, 0, none⟩)] rfl (reg.wanted_none rfl) (by simp [execOp, go_sem, Act.put, hsz, s6, s14, s16, s18, s19, EG.out]) ((HST.out 0 zw zv _ hM.at3 hM.at1).mono ?_)
    rintro re ru1 ⟨rfl, rhv⟩
    replace hM := hM.call rhv
    replace hR := hR.call rhv
    clear rhv
    refine ⟨_, rfl, hM.ls (by simp), ?_⟩
    refine reg.e_one 10 (by kernel_rfl) rfl ?_
    refine r_fill (i := 10) rfl (reg.wanted_none rfl) rfl row_disk (by simp [go_sem, Act.put, hsz, s6, s14, s16, s18, s19]) (by simp [go_sem, Act.put, hsz, s6, s14, s16, s18, s19]) hM.at4 (dkl_vs (v := .slice xa nn xc) S rfl) rfl ?_
    intro ru2 rhv rhc
    have rhB := hM.at4
    replace hM := hM.put4 rhc rhv
    replace hR := rtp (rts_chg hR.out rhB (fun x q => by cases q) rhc)
    clear rhc rhv rhB
    refine ⟨hM.ls (by simp), ?_⟩
    refine reg.e_take (i := 11) (.string ⟨#[]⟩) rfl (by kernel_rfl) (by kernel_rfl) (by kernel_rfl) (by kernel_rfl) (fun _ _ _ h => h) (reg.wanted_none rfl) (hM.ls (by simp)) (fun W hW => by simp [execOp, go_sem, Act.put, hsz, s6, s14, s16, s18, s19]) ?_
    refine reg.e_take (i := 12) (.string (stT ⟨x.tag, V.res, 0⟩)) rfl (by kernel_rfl) (by kernel_rfl) (by kernel_rfl) (by kernel_rfl) (fun _ _ _ h => h) (reg.wanted_none rfl) (hM.ls (by simp)) (fun W hW => by simp [execOp, go_sem, Act.put, hsz, s6, s14, s16, s18, s19]) ?_
    refine reg.e_take (i := 13) (.int .i64 0) rfl (by kernel_rfl) (by kernel_rfl) (by kernel_rfl) (by kernel_rfl) (fun _ _ _ h => h) (reg.wanted_none rfl) (hM.ls (by simp)) (fun W hW => by simp [execOp, go_sem, Act.put, hsz, s6, s14, s16, s18, s19]) ?_
    refine reg.e_done (by kernel_rfl) ?_ _
    subst ha0
    clear hsz s6 s14 s16 s18 s19
    go_simp
    repeat' (first | go_values | go_skip | go_guarded | go_step | go_upon | (simp only [Int.not_lt, Int.not_le] at *; go_simp))
    exact bodyPost_ret (ret_ctt rfl rfl (ld_var row_disk hM.at4 rfl) rfl rfl rfl) rfl ⟨_, by rw [HTE.out]; rfl, hR.out, hM.below⟩
end Go.Proofs.Ytecknicmonhcaaa.bulk
