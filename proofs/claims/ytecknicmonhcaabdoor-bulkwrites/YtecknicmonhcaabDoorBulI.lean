/- bulk: what Serve answers. (Written by tools/genbuli.py.) -/
import Derived.Test.YtecknicmonhcaabDoorBulH
namespace Go.Proofs.YtecknicmonhcaabDoor.bulk
open Go Go.RowKit Go.PlainAid Go.Proofs.YtecknicmonhcaabDoor.lane Go.Proofs.YtecknicmonhcaabDoor.pipe Go.Proofs.YtecknicmonhcaabDoor.strike
open Go.Proofs.YtecknicmonhcaabDoor.scsi (Dk chkC doD doT doC do_named txs_mono rts_form do_none)
set_option linter.unusedVariables false
set_option linter.unusedSimpArgs false
set_option maxRecDepth 100000

/-- texts of one's own stay when a box of another type is written -/
theorem txs_chg {w u : World} {U B : Nat} {v : Value} {l : List ByteArray} {T : TypeId} {cs : List Value} (h : Txs w U v l) (hB : w.heap[B]? = some (bx T cs)) (hT : 9 ≠ T) (hc : Chg B w u) : Txs u U v l := by
  have hb := hc.below B w (Nat.le_refl _) (Below.refl _ _)
  have hne : v.ownBlock ≠ some B := box_ne h hB hT
  exact World.ownsRow.kept h (w' := u) (row := some B) ⟨hb.os, hb.tape, hb.output, Nat.le_of_eq hc.size.symm, fun k hk q => hc.other k (fun e => q (by rw [e]))⟩ (.inr hne)
theorem txp {w : World} {U : Nat} {v : Value} {l : List ByteArray} (h : Txs w U v l) : Cr w (fun W => Txs W U v l) := ⟨h, fun u v' h hb => h.below hb⟩
/-- what Serve answers: a disk whose blocks are its own -/
def SvP (d : Dk) (s t : ByteArray) (w : World) (e : Ending) (w' : World) : Prop :=
  ∃ v', e = .returned (.tuple #[ag (dkl v' (svD d s t).s), .string (svA d s t), .string (svT d s t), .int .i64 (tkE d s t)]) ∧ Txs w' w.heap.size v' (svD d s t).b ∧ Below w.heap.size w w'
set_option maxHeartbeats 16000000 in
theorem serve_any (v : Value) (d : Dk) (s t : ByteArray) (w : World) (h : Rts w v d.b) (hl : d.b.length ≤ 8796093021952) (hs : s.size ≤ maxLen) (ht : t.size ≤ maxLen) :
    Calls Tryd.prog 6 #[ag (dkl v d.s), .string s, .string t] w fun e w' => SvP d s t w e w' := by
  have HTK : Hid (∀ v u, Rts u v d.b → Calls Tryd.prog 17 #[ag (dkl v d.s), .string s, .string t] u fun e w' => e = .returned (.tuple #[ag (wpl (tkW d s)), ag (vdl (tkV d s)), .int .i64 (tkE d s t)]) ∧ Below u.heap.size u w') := fun v u hu => take_any v d s t u hu hs ht
  have HWS : Hid (∀ x u, Calls Tryd.prog 11 #[ag (spl x)] u fun e w' => e = .returned (.tuple #[.string (stT x), .int .i64 (stC x)]) ∧ Below u.heap.size u w') := fun x u => writeStatus_any x u
  have HL : Hid (d.b.length ≤ 8796093021952) := hl
  have hC0 := rtp h
  have hM := Mm.nil w
  unfold SvP
  by_cases h1 : tkE d s t ≠ 0
  · have HV : Hid (svD d s t = d ∧ svA d s t = ⟨#[]⟩ ∧ svT d s t = ⟨#[]⟩) := ⟨if_pos h1, if_pos h1, if_pos h1⟩
    have e1 : (tkE d s t != 0) = true := by rw [bne_iff_ne]; exact h1
    rw [HV.out.1, HV.out.2.1, HV.out.2.2]
    generalize tkE d s t = z at *
    generalize tkW d s = x at *
    generalize tkV d s = V at *
    clear h1 h hl hs ht HWS HV
    go_enter Tryd.func6, Tryd.ntmps6
    repeat' (first | (go_big_may; first | (refine v_box rfl rfl rfl ?_; intro u zd hN; replace hM := Mm.new (L := []) hM hN; clear hN) | (refine v_alloc rfl zer_disk rfl ?_; intro u zr hN; replace hM := hM.new hN; clear hN) | (refine v_get rfl rfl (by first | exact lod_int | exact lod_str | exact lod_fcs | exact lod_err | exact lod_bool | exact lod_txs) rfl hM.at1 rfl ?_) | (at_builtin; refine Stop.out ?_)) | go_values | go_skip | go_guarded | go_step | go_upon | (simp only [Int.not_lt, Int.not_le] at *; go_simp))
    refine ⟨?_⟩
    have HU : Hid (w.heap.size ≤ u.heap.size) := hM.below.size
    refine wpList_txt _ rfl _ _ rfl u.heap.size _ [] rfl (Txs.nil _ _) _ d.b rfl (hC0.call hM.below).out (by have := HL.out; simp; omega) (Nat.le_refl _) ?_
    intro v1 u1 q1 q2
    replace hM := hM.call q2
    rw [List.nil_append] at q1
    obtain ⟨a1, c1, rfl, _, _⟩ := q1.form
    have hT := txp (txs_mono q1 HU.out)
    clear q1 q2 hC0 HU
    generalize d.b.length = n0 at *
    repeat' (first | (go_big_may; first | (refine v_putx rfl rfl (one_txs _ _ _) rfl rfl hM.at1 (of_decide_eq_true rfl) (show _ = dkl (.slice a1 n0 c1) d.s from rfl) ?_; intro u hv hc; replace hT := txp (txs_chg hT.out hM.at1 (by decide) hc); replace hM := hM.put1 hc hv; clear hv hc) | (refine v_load rfl rfl row_disk rfl hM.at1 (Nat.le_refl _) (cut_all rfl) ?_)) | go_values | go_skip | go_guarded | go_step | go_upon | (simp only [Int.not_lt, Int.not_le] at *; go_simp))
    refine (HTK.out _ _ hT.out.rts).mono ?_
    rintro e u2 ⟨rfl, hb⟩
    replace hM := hM.call hb
    replace hT := hT.call hb
    clear hb HTK
    repeat' (first | (go_big_may; first | (refine v_alloc rfl zer_wrap rfl ?_; intro u zw hN; replace hT := hT.call hN.below; replace hM := hM.new hN; clear hN) | (refine v_alloc rfl zer_verdict rfl ?_; intro u zv hN; replace hT := hT.call hN.below; replace hM := hM.new hN; clear hN) | (refine v_fill rfl rfl row_wrap rfl rfl hM.at1 (wpl_vs x) rfl ?_; intro u hv hc; replace hT := txp (txs_chg hT.out hM.at1 (by decide) hc); replace hM := hM.put1 hc hv; clear hv hc) | (refine v_fill rfl rfl row_verdict rfl rfl hM.at0 (vdl_vs V) rfl ?_; intro u hv hc; replace hT := txp (txs_chg hT.out hM.at0 (by decide) hc); replace hM := hM.put0 hc hv; clear hv hc) | (refine v_load rfl rfl row_disk rfl hM.at3 (Nat.le_refl _) (cut_all rfl) ?_) | (refine v_fill rfl rfl row_disk rfl rfl hM.at2 (dkl_vs (v := .slice a1 n0 c1) d.s rfl) rfl ?_; intro u hv hc; replace hT := txp (txs_chg hT.out hM.at2 (by decide) hc); replace hM := hM.put2 hc hv; clear hv hc)) | go_values | go_skip | go_guarded | go_step | go_upon | (simp only [Int.not_lt, Int.not_le] at *; go_simp))
    exact bodyPost_ret (ret_ctt rfl rfl (ld_var row_disk hM.at2 rfl) rfl rfl rfl) rfl ⟨_, rfl, hT.out, hM.below⟩
  have h1 : tkE d s t = 0 := Classical.not_not.1 h1
  obtain ⟨k1, k2, k3, k4, k5, k6, k7⟩ := tk_ok h1
  obtain ⟨k8, k9⟩ := sv_status h1
  have hcm : (rdW s).cmd.size ≤ maxLen := by have := ((wk_iff _).1 k4).2.2.2.2; unfold maxLen; omega
  have hf := gv_fits h1
  have hn1 : ¬ tkE d s t ≠ 0 := fun q => q h1
  by_cases h2 : (svV d (rdW s)).code = 2
  · have HV : Hid (svD d s t = d ∧ svA d s t = ⟨#[]⟩ ∧ svT d s t = stT ⟨(rdW s).tag, (svV d (rdW s)).res, (svV d (rdW s)).code⟩ ∧ stC ⟨(rdW s).tag, (svV d (rdW s)).res, (svV d (rdW s)).code⟩ = 0) := by
      have e : svS d s t = ⟨(rdW s).tag, (svV d (rdW s)).res, (svV d (rdW s)).code⟩ := by unfold svS svC; rw [if_pos h2, h2]
      refine ⟨(if_neg hn1).trans (if_pos h2), (if_neg hn1).trans (if_pos h2), ?_, by rw [← e]; exact k9⟩
      unfold svT
      rw [if_neg hn1, e]
    rw [HV.out.1, HV.out.2.1, HV.out.2.2.1]
    rw [h1, k6, k7] at HTK
    rw [h1]
    generalize rdW s = x at *
    generalize svV d x = V at *
    have f1 : (V.code != 2) = false := by simpa using h2
    have HSC : Hid (stC ⟨x.tag, V.res, V.code⟩ = 0) := HV.out.2.2.2
    clear h1 h2 h hl hs ht HV k1 k2 k3 k4 k5 k6 k7 k8 k9 hcm hf hn1
    go_enter Tryd.func6, Tryd.ntmps6
    repeat' (first | (go_big_may; first | (refine v_box rfl rfl rfl ?_; intro u zd hN; replace hM := Mm.new (L := []) hM hN; clear hN) | (refine v_alloc rfl zer_disk rfl ?_; intro u zr hN; replace hM := hM.new hN; clear hN) | (refine v_get rfl rfl (by first | exact lod_int | exact lod_str | exact lod_fcs | exact lod_err | exact lod_bool | exact lod_txs) rfl hM.at1 rfl ?_) | (at_builtin; refine Stop.out ?_)) | go_values | go_skip | go_guarded | go_step | go_upon | (simp only [Int.not_lt, Int.not_le] at *; go_simp))
    refine ⟨?_⟩
    have HU : Hid (w.heap.size ≤ u.heap.size) := hM.below.size
    refine wpList_txt _ rfl _ _ rfl u.heap.size _ [] rfl (Txs.nil _ _) _ d.b rfl (hC0.call hM.below).out (by have := HL.out; simp; omega) (Nat.le_refl _) ?_
    intro v1 u1 q1 q2
    replace hM := hM.call q2
    rw [List.nil_append] at q1
    obtain ⟨a1, c1, rfl, _, _⟩ := q1.form
    have hT := txp (txs_mono q1 HU.out)
    clear q1 q2 hC0 HU
    generalize d.b.length = n0 at *
    repeat' (first | (go_big_may; first | (refine v_putx rfl rfl (one_txs _ _ _) rfl rfl hM.at1 (of_decide_eq_true rfl) (show _ = dkl (.slice a1 n0 c1) d.s from rfl) ?_; intro u hv hc; replace hT := txp (txs_chg hT.out hM.at1 (by decide) hc); replace hM := hM.put1 hc hv; clear hv hc) | (refine v_load rfl rfl row_disk rfl hM.at1 (Nat.le_refl _) (cut_all rfl) ?_)) | go_values | go_skip | go_guarded | go_step | go_upon | (simp only [Int.not_lt, Int.not_le] at *; go_simp))
    refine (HTK.out _ _ hT.out.rts).mono ?_
    rintro e u2 ⟨rfl, hb⟩
    replace hM := hM.call hb
    replace hT := hT.call hb
    clear hb HTK
    repeat' (first | (go_big_may; first | (refine v_alloc rfl zer_wrap rfl ?_; intro u zw hN; replace hT := hT.call hN.below; replace hM := hM.new hN; clear hN) | (refine v_alloc rfl zer_verdict rfl ?_; intro u zv hN; replace hT := hT.call hN.below; replace hM := hM.new hN; clear hN) | (refine v_fill rfl rfl row_wrap rfl rfl hM.at1 (wpl_vs x) rfl ?_; intro u hv hc; replace hT := txp (txs_chg hT.out hM.at1 (by decide) hc); replace hM := hM.put1 hc hv; clear hv hc) | (refine v_fill rfl rfl row_verdict rfl rfl hM.at0 (vdl_vs V) rfl ?_; intro u hv hc; replace hT := txp (txs_chg hT.out hM.at0 (by decide) hc); replace hM := hM.put0 hc hv; clear hv hc) | (refine v_get rfl rfl (by first | exact lod_int | exact lod_str | exact lod_fcs | exact lod_err | exact lod_bool | exact lod_txs) rfl hM.at1 rfl ?_) | (refine v_get rfl rfl (by first | exact lod_int | exact lod_str | exact lod_fcs | exact lod_err | exact lod_bool | exact lod_txs) rfl hM.at0 rfl ?_) | (refine v_build rfl rfl (bld_status ⟨x.tag, V.res, V.code⟩) ?hbv ?_; (case hbv => simp [Act.eval, Act.put]))) | go_values | go_skip | go_guarded | go_step | go_upon | (simp only [Int.not_lt, Int.not_le] at *; go_simp))
    refine (HWS.out ⟨x.tag, V.res, V.code⟩ _).mono ?_
    rintro e u3 ⟨rfl, hb⟩
    replace hM := hM.call hb
    replace hT := hT.call hb
    clear hb HWS
    rw [HSC.out]
    repeat' (first | (go_big_may; first | (refine v_load rfl rfl row_disk rfl hM.at3 (Nat.le_refl _) (cut_all rfl) ?_) | (refine v_fill rfl rfl row_disk rfl rfl hM.at2 (dkl_vs (v := .slice a1 n0 c1) d.s rfl) rfl ?_; intro u hv hc; replace hT := txp (txs_chg hT.out hM.at2 (by decide) hc); replace hM := hM.put2 hc hv; clear hv hc)) | go_values | go_skip | go_guarded | go_step | go_upon | (simp only [Int.not_lt, Int.not_le] at *; go_simp))
    exact bodyPost_ret (ret_ctt rfl rfl (ld_var row_disk hM.at2 rfl) rfl rfl rfl) rfl ⟨_, rfl, hT.out, hM.below⟩
  have hgf := hf h2
  obtain ⟨g0, g1⟩ := hgf
  have HGV : Hid (∀ u, Calls Tryd.prog 19 #[ag (wpl (rdW s)), ag (vdl (svV d (rdW s))), .string t] u fun e w' => e = .returned (.string (gvS d s t)) ∧ Below u.heap.size u w') := fun u => given_any (rdW s) (svV d (rdW s)) t g0 g1 ht u
  have hgm : (gvS d s t).size ≤ maxLen := by
    unfold gvS gvT
    split
    · exact Nat.zero_le _
    · rw [ByteArray.size_extract]; omega
  obtain ⟨T, hTT⟩ : ∃ T, doT d (rdW s).cmd (gvS d s t) = T := ⟨_, rfl⟩
  obtain ⟨C, hCC⟩ : ∃ C, doC d (rdW s).cmd (gvS d s t) = C := ⟨_, rfl⟩
  obtain ⟨N, hNN⟩ : ∃ N, (doD d (rdW s).cmd (gvS d s t)).b = N := ⟨_, rfl⟩
  obtain ⟨S, hSS⟩ : ∃ S, (doD d (rdW s).cmd (gvS d s t)).s = S := ⟨_, rfl⟩
  have hn64 := (scsi.chk_iff d).1 k1
  have HDO : Hid (∀ v u, Rts u v d.b → Calls Tryd.prog 18 #[ag (dkl v d.s), .string (rdW s).cmd, .string (gvS d s t)] u fun e w' => ∃ a cp, e = .returned (.tuple #[ag (dkl (.slice a N.length cp) S), .string T, .int .i64 C]) ∧ Txs w' u.heap.size (.slice a N.length cp) N ∧ Below u.heap.size u w') := fun v u h => do_named v d (rdW s).cmd (gvS d s t) (by unfold reachBytes; omega) hcm hgm T C N S hTT hCC hNN hSS u h
  have hVD : svD d s t = ⟨N, S⟩ := by
    unfold svD
    rw [if_neg hn1, if_neg h2, ← hNN, ← hSS]
  have hVA : svA d s t = T := by
    unfold svA
    rw [if_neg hn1, if_neg h2, hTT]
  obtain ⟨nn, hnn⟩ : ∃ nn, N.length = nn := ⟨_, rfl⟩
  rw [hnn] at HDO
  by_cases h3 : C ≠ 0
  · have HV : Hid (svD d s t = ⟨N, S⟩ ∧ svA d s t = T ∧ svT d s t = stT ⟨(rdW s).tag, (svV d (rdW s)).res, 1⟩ ∧ stC ⟨(rdW s).tag, (svV d (rdW s)).res, 1⟩ = 0) := by
      have e : svS d s t = ⟨(rdW s).tag, (svV d (rdW s)).res, 1⟩ := by unfold svS svC; rw [if_neg h2, hCC, if_pos h3]
      refine ⟨hVD, hVA, ?_, by rw [← e]; exact k9⟩
      unfold svT
      rw [if_neg hn1, e]
    rw [HV.out.1, HV.out.2.1, HV.out.2.2.1]
    rw [h1, k6, k7] at HTK
    rw [h1]
    generalize gvS d s t = G at *
    generalize rdW s = x at *
    generalize svV d x = V at *
    have f1 : (V.code != 2) = true := by simpa using h2
    have f2 : (C != 0) = true := by simpa using h3
    have HSC : Hid (stC ⟨x.tag, V.res, 1⟩ = 0) := HV.out.2.2.2
    clear h1 h2 h3 h hl hs ht HV k1 k2 k3 k4 k5 k6 k7 k8 k9 hcm hf hn1 g0 g1 hgm hTT hCC hNN hSS hn64 hVD hVA hnn
    go_enter Tryd.func6, Tryd.ntmps6
    repeat' (first | (go_big_may; first | (refine v_box rfl rfl rfl ?_; intro u zd hN; replace hM := Mm.new (L := []) hM hN; clear hN) | (refine v_alloc rfl zer_disk rfl ?_; intro u zr hN; replace hM := hM.new hN; clear hN) | (refine v_get rfl rfl (by first | exact lod_int | exact lod_str | exact lod_fcs | exact lod_err | exact lod_bool | exact lod_txs) rfl hM.at1 rfl ?_) | (at_builtin; refine Stop.out ?_)) | go_values | go_skip | go_guarded | go_step | go_upon | (simp only [Int.not_lt, Int.not_le] at *; go_simp))
    refine ⟨?_⟩
    have HU : Hid (w.heap.size ≤ u.heap.size) := hM.below.size
    refine wpList_txt _ rfl _ _ rfl u.heap.size _ [] rfl (Txs.nil _ _) _ d.b rfl (hC0.call hM.below).out (by have := HL.out; simp; omega) (Nat.le_refl _) ?_
    intro v1 u1 q1 q2
    replace hM := hM.call q2
    rw [List.nil_append] at q1
    obtain ⟨a1, c1, rfl, _, _⟩ := q1.form
    have hT := txp (txs_mono q1 HU.out)
    clear q1 q2 hC0 HU
    generalize d.b.length = n0 at *
    repeat' (first | (go_big_may; first | (refine v_putx rfl rfl (one_txs _ _ _) rfl rfl hM.at1 (of_decide_eq_true rfl) (show _ = dkl (.slice a1 n0 c1) d.s from rfl) ?_; intro u hv hc; replace hT := txp (txs_chg hT.out hM.at1 (by decide) hc); replace hM := hM.put1 hc hv; clear hv hc) | (refine v_load rfl rfl row_disk rfl hM.at1 (Nat.le_refl _) (cut_all rfl) ?_)) | go_values | go_skip | go_guarded | go_step | go_upon | (simp only [Int.not_lt, Int.not_le] at *; go_simp))
    refine (HTK.out _ _ hT.out.rts).mono ?_
    rintro e u2 ⟨rfl, hb⟩
    replace hM := hM.call hb
    replace hT := hT.call hb
    clear hb HTK
    repeat' (first | (go_big_may; first | (refine v_alloc rfl zer_wrap rfl ?_; intro u zw hN; replace hT := hT.call hN.below; replace hM := hM.new hN; clear hN) | (refine v_alloc rfl zer_verdict rfl ?_; intro u zv hN; replace hT := hT.call hN.below; replace hM := hM.new hN; clear hN) | (refine v_fill rfl rfl row_wrap rfl rfl hM.at1 (wpl_vs x) rfl ?_; intro u hv hc; replace hT := txp (txs_chg hT.out hM.at1 (by decide) hc); replace hM := hM.put1 hc hv; clear hv hc) | (refine v_fill rfl rfl row_verdict rfl rfl hM.at0 (vdl_vs V) rfl ?_; intro u hv hc; replace hT := txp (txs_chg hT.out hM.at0 (by decide) hc); replace hM := hM.put0 hc hv; clear hv hc) | (refine v_get rfl rfl (by first | exact lod_int | exact lod_str | exact lod_fcs | exact lod_err | exact lod_bool | exact lod_txs) rfl hM.at0 rfl ?_)) | go_values | go_skip | go_guarded | go_step | go_upon | (simp only [Int.not_lt, Int.not_le] at *; go_simp))
    refine reg.wp_abs (fun a0 => a0.tmps.size = 64 ∧ (∀ h, a0.tmps[2]'h = .string t) ∧ (∀ h, a0.tmps[3]'h = .pointer (some ⟨zd, 0, none⟩)) ∧ (∀ h, a0.tmps[10]'h = .pointer (some ⟨zw, 0, none⟩)) ∧ (∀ h, a0.tmps[11]'h = .pointer (some ⟨zv, 0, none⟩))) ⟨rfl, fun _ => rfl, fun _ => rfl, fun _ => rfl, fun _ => rfl⟩ ?_
    rintro a0 ⟨hsz, s2, s3, s10, s11⟩ ha0
    refine reg.wp_region_E (S := fun W => Ls W [(zv, 44, (vdl V)), (zw, 31, (wpl x)), (zd, 24, (dkl (.slice a1 n0 c1) d.s))]) (E := fun i => i == 12) (by kernel_rfl) ?_
    replace hM := hM.drew
    replace hT := hT.call (Below.refl _ _).drew
    refine reg.e_take (i := 0) (ag ((dkl (.slice a1 n0 c1) d.s))) rfl (by kernel_rfl) (by kernel_rfl) (by kernel_rfl) (by kernel_rfl) (fun _ _ _ h => h) (reg.wanted_none rfl) (hM.ls (by simp)) (fun W hW => ex_load rfl row_disk (by simp [go_sem, Act.put, hsz, s2, s3, s10, s11]) hW.at2 (Nat.le_refl 2) (cut_all rfl)) ?_
    refine reg.e_take (i := 1) (.pointer (some ⟨zw, 4, none⟩)) rfl (by kernel_rfl) (by kernel_rfl) (by kernel_rfl) (by kernel_rfl) (fun _ _ _ h => h) (reg.wanted_none rfl) (hM.ls (by simp)) (fun W hW => by simp [execOp, go_sem, Act.put, hsz, s2, s3, s10, s11]) ?_
    refine reg.e_take (i := 2) (.string x.cmd) rfl (by kernel_rfl) (by kernel_rfl) (by kernel_rfl) (by kernel_rfl) (fun _ _ _ h => h) (reg.wanted_none rfl) (hM.ls (by simp)) (fun W hW => ex_get rfl (by simp [go_sem, Act.put, hsz, s2, s3, s10, s11]) hW.at1 (show (wpl x)[4]? = some _ from rfl)) ?_
    refine reg.e_take (i := 3) (ag ((wpl x))) rfl (by kernel_rfl) (by kernel_rfl) (by kernel_rfl) (by kernel_rfl) (fun _ _ _ h => h) (reg.wanted_none rfl) (hM.ls (by simp)) (fun W hW => ex_load rfl row_wrap (by simp [go_sem, Act.put, hsz, s2, s3, s10, s11]) hW.at1 (Nat.le_refl 5) (cut_all rfl)) ?_
    refine reg.e_take (i := 4) (ag ((vdl V))) rfl (by kernel_rfl) (by kernel_rfl) (by kernel_rfl) (by kernel_rfl) (fun _ _ _ h => h) (reg.wanted_none rfl) (hM.ls (by simp)) (fun W hW => ex_load rfl row_verdict (by simp [go_sem, Act.put, hsz, s2, s3, s10, s11]) hW.at0 (Nat.le_refl 4) (cut_all rfl)) ?_
    refine reg.e_take (i := 5) (.string t) rfl (by kernel_rfl) (by kernel_rfl) (by kernel_rfl) (by kernel_rfl) (fun _ _ _ h => h) (reg.wanted_none rfl) (hM.ls (by simp)) (fun W hW => by simp [execOp, go_sem, Act.put, hsz, s2, s3, s10, s11]) ?_
    refine reg.e_one 6 (by kernel_rfl) rfl ?_
    refine reg.r_call (i := 6) 19 #[ag ((wpl x)), ag ((vdl V)), .string t] rfl (reg.wanted_none rfl) (by simp [execOp, go_sem, Act.put, hsz, s2, s3, s10, s11]) ((HGV.out _).mono ?_)
    rintro re ru1 ⟨rfl, rhv⟩
    replace hM := hM.call rhv
    replace hT := hT.call rhv
    clear rhv
    refine ⟨_, rfl, hM.ls (by simp), ?_⟩
    refine reg.e_one 7 (by kernel_rfl) rfl ?_
    refine reg.r_call (i := 7) 18 #[ag ((dkl (.slice a1 n0 c1) d.s)), .string x.cmd, .string G] rfl (reg.wanted_none rfl) (by simp [execOp, go_sem, Act.put, hsz, s2, s3, s10, s11]) ((HDO.out _ _ hT.out.rts).mono ?_)
    rintro re rux ⟨xa, xc, rfl, rht, rhv⟩
    replace hT := txp (txs_mono rht hM.below.size)
    replace hM := hM.call rhv
    clear rhv rht
    refine ⟨_, rfl, hM.ls (by simp), ?_⟩
    refine reg.e_take (i := 8) (.tuple #[ag (dkl (.slice xa nn xc) S), .string T, .int .i64 C]) rfl (by kernel_rfl) (by kernel_rfl) (by kernel_rfl) (by kernel_rfl) (fun _ _ _ h => h) (reg.wanted_none rfl) (hM.ls (by simp)) (fun W hW => by simp [execOp, go_sem, Act.put, hsz, s2, s3, s10, s11]) ?_
    refine reg.e_take (i := 9) (ag (dkl (.slice xa nn xc) S)) rfl (by kernel_rfl) (by kernel_rfl) (by kernel_rfl) (by kernel_rfl) (fun _ _ _ h => h) (reg.wanted_none rfl) (hM.ls (by simp)) (fun W hW => by simp [execOp, go_sem, Act.put, hsz, s2, s3, s10, s11]) ?_
    refine reg.e_take0 (i := 10) (.string T) rfl (by kernel_rfl) (by kernel_rfl) (by kernel_rfl) rfl (fun _ _ _ h => h) (reg.wanted_none rfl) (hM.ls (by simp)) (fun W => by simp [execOp, go_sem, Act.put, hsz, s2, s3, s10, s11]) ?_
    refine reg.e_take0 (i := 11) (.int .i64 C) rfl (by kernel_rfl) (by kernel_rfl) (by kernel_rfl) rfl (fun _ _ _ h => h) (reg.wanted_none rfl) (hM.ls (by simp)) (fun W => by simp [execOp, go_sem, Act.put, hsz, s2, s3, s10, s11]) ?_
    refine reg.e_leave 12 (by kernel_rfl) rfl ?_
    refine r_fill (i := 12) rfl (reg.wanted_none rfl) rfl row_disk (by simp [go_sem, Act.put, hsz, s2, s3, s10, s11]) (by simp [go_sem, Act.put, hsz, s2, s3, s10, s11]) hM.at3 (dkl_vs (v := .slice xa nn xc) S rfl) rfl ?_
    intro ru3 rhv rhc
    have rhB := hM.at3
    replace hM := hM.put3 rhc rhv
    replace hT := txp (txs_chg hT.out rhB (by decide) rhc)
    clear rhc rhv rhB
    refine reg.t_take (i := 13) (.string T) rfl (by kernel_rfl) (by kernel_rfl) (by kernel_rfl) (fun _ _ _ h => h) (reg.wanted_none rfl) (fun W => by simp [execOp, go_sem, Act.put, hsz, s2, s3, s10, s11]) ?_
    refine reg.t_take (i := 14) (.int .i64 C) rfl (by kernel_rfl) (by kernel_rfl) (by kernel_rfl) (fun _ _ _ h => h) (reg.wanted_none rfl) (fun W => by simp [execOp, go_sem, Act.put, hsz, s2, s3, s10, s11]) ?_
    refine wpAnyH_done (by kernel_rfl) ?_ _
    subst ha0
    clear hsz s2 s3 s10 s11
    go_simp
    repeat' (first | (go_big_may; first | (refine v_putx rfl rfl (one_int 1) rfl rfl hM.at0 (of_decide_eq_true rfl) (show _ = vdl ⟨V.cas, V.moved, V.res, 1⟩ from rfl) ?_; intro u hv hc; replace hT := txp (txs_chg hT.out hM.at0 (by decide) hc); replace hM := hM.put0 hc hv; clear hv hc) | (refine v_get rfl rfl (by first | exact lod_int | exact lod_str | exact lod_fcs | exact lod_err | exact lod_bool | exact lod_txs) rfl hM.at1 rfl ?_) | (refine v_get rfl rfl (by first | exact lod_int | exact lod_str | exact lod_fcs | exact lod_err | exact lod_bool | exact lod_txs) rfl hM.at0 rfl ?_) | (refine v_build rfl rfl (bld_status ⟨x.tag, V.res, 1⟩) ?hbv ?_; (case hbv => simp [Act.eval, Act.put]))) | go_values | go_skip | go_guarded | go_step | go_upon | (simp only [Int.not_lt, Int.not_le] at *; go_simp))
    refine (HWS.out ⟨x.tag, V.res, 1⟩ _).mono ?_
    rintro e u3 ⟨rfl, hb⟩
    replace hM := hM.call hb
    replace hT := hT.call hb
    clear hb HWS
    rw [HSC.out]
    repeat' (first | (go_big_may; first | (refine v_load rfl rfl row_disk rfl hM.at3 (Nat.le_refl _) (cut_all rfl) ?_) | (refine v_fill rfl rfl row_disk rfl rfl hM.at2 (dkl_vs (v := .slice xa nn xc) S rfl) rfl ?_; intro u hv hc; replace hT := txp (txs_chg hT.out hM.at2 (by decide) hc); replace hM := hM.put2 hc hv; clear hv hc)) | go_values | go_skip | go_guarded | go_step | go_upon | (simp only [Int.not_lt, Int.not_le] at *; go_simp))
    exact bodyPost_ret (ret_ctt rfl rfl (ld_var row_disk hM.at2 rfl) rfl rfl rfl) rfl ⟨_, rfl, hT.out, hM.below⟩
  · have h3 : C = 0 := Classical.not_not.1 h3
    have h20 : (svV d (rdW s)).code = 0 := by
      rcases (sv_facts k1 k4).2.2.2.2.1 with q | q
      · exact q
      · exact absurd q.1 h2
    have HV : Hid (svD d s t = ⟨N, S⟩ ∧ svA d s t = T ∧ svT d s t = stT ⟨(rdW s).tag, (svV d (rdW s)).res, (svV d (rdW s)).code⟩ ∧ stC ⟨(rdW s).tag, (svV d (rdW s)).res, (svV d (rdW s)).code⟩ = 0) := by
      have e : svS d s t = ⟨(rdW s).tag, (svV d (rdW s)).res, (svV d (rdW s)).code⟩ := by unfold svS svC; rw [if_neg h2, hCC, if_neg (fun q => q h3), h20]
      refine ⟨hVD, hVA, ?_, by rw [← e]; exact k9⟩
      unfold svT
      rw [if_neg hn1, e]
    rw [HV.out.1, HV.out.2.1, HV.out.2.2.1]
    rw [h1, k6, k7] at HTK
    rw [h1]
    generalize gvS d s t = G at *
    generalize rdW s = x at *
    generalize svV d x = V at *
    have f1 : (V.code != 2) = true := by simpa using h2
    have f2 : (C != 0) = false := by simpa using h3
    have HSC : Hid (stC ⟨x.tag, V.res, V.code⟩ = 0) := HV.out.2.2.2
    clear h1 h2 h3 h hl hs ht HV k1 k2 k3 k4 k5 k6 k7 k8 k9 hcm hf hn1 g0 g1 hgm hTT hCC hNN hSS hn64 hVD hVA hnn h20
    go_enter Tryd.func6, Tryd.ntmps6
    repeat' (first | (go_big_may; first | (refine v_box rfl rfl rfl ?_; intro u zd hN; replace hM := Mm.new (L := []) hM hN; clear hN) | (refine v_alloc rfl zer_disk rfl ?_; intro u zr hN; replace hM := hM.new hN; clear hN) | (refine v_get rfl rfl (by first | exact lod_int | exact lod_str | exact lod_fcs | exact lod_err | exact lod_bool | exact lod_txs) rfl hM.at1 rfl ?_) | (at_builtin; refine Stop.out ?_)) | go_values | go_skip | go_guarded | go_step | go_upon | (simp only [Int.not_lt, Int.not_le] at *; go_simp))
    refine ⟨?_⟩
    have HU : Hid (w.heap.size ≤ u.heap.size) := hM.below.size
    refine wpList_txt _ rfl _ _ rfl u.heap.size _ [] rfl (Txs.nil _ _) _ d.b rfl (hC0.call hM.below).out (by have := HL.out; simp; omega) (Nat.le_refl _) ?_
    intro v1 u1 q1 q2
    replace hM := hM.call q2
    rw [List.nil_append] at q1
    obtain ⟨a1, c1, rfl, _, _⟩ := q1.form
    have hT := txp (txs_mono q1 HU.out)
    clear q1 q2 hC0 HU
    generalize d.b.length = n0 at *
    repeat' (first | (go_big_may; first | (refine v_putx rfl rfl (one_txs _ _ _) rfl rfl hM.at1 (of_decide_eq_true rfl) (show _ = dkl (.slice a1 n0 c1) d.s from rfl) ?_; intro u hv hc; replace hT := txp (txs_chg hT.out hM.at1 (by decide) hc); replace hM := hM.put1 hc hv; clear hv hc) | (refine v_load rfl rfl row_disk rfl hM.at1 (Nat.le_refl _) (cut_all rfl) ?_)) | go_values | go_skip | go_guarded | go_step | go_upon | (simp only [Int.not_lt, Int.not_le] at *; go_simp))
    refine (HTK.out _ _ hT.out.rts).mono ?_
    rintro e u2 ⟨rfl, hb⟩
    replace hM := hM.call hb
    replace hT := hT.call hb
    clear hb HTK
    repeat' (first | (go_big_may; first | (refine v_alloc rfl zer_wrap rfl ?_; intro u zw hN; replace hT := hT.call hN.below; replace hM := hM.new hN; clear hN) | (refine v_alloc rfl zer_verdict rfl ?_; intro u zv hN; replace hT := hT.call hN.below; replace hM := hM.new hN; clear hN) | (refine v_fill rfl rfl row_wrap rfl rfl hM.at1 (wpl_vs x) rfl ?_; intro u hv hc; replace hT := txp (txs_chg hT.out hM.at1 (by decide) hc); replace hM := hM.put1 hc hv; clear hv hc) | (refine v_fill rfl rfl row_verdict rfl rfl hM.at0 (vdl_vs V) rfl ?_; intro u hv hc; replace hT := txp (txs_chg hT.out hM.at0 (by decide) hc); replace hM := hM.put0 hc hv; clear hv hc) | (refine v_get rfl rfl (by first | exact lod_int | exact lod_str | exact lod_fcs | exact lod_err | exact lod_bool | exact lod_txs) rfl hM.at0 rfl ?_)) | go_values | go_skip | go_guarded | go_step | go_upon | (simp only [Int.not_lt, Int.not_le] at *; go_simp))
    refine reg.wp_abs (fun a0 => a0.tmps.size = 64 ∧ (∀ h, a0.tmps[2]'h = .string t) ∧ (∀ h, a0.tmps[3]'h = .pointer (some ⟨zd, 0, none⟩)) ∧ (∀ h, a0.tmps[10]'h = .pointer (some ⟨zw, 0, none⟩)) ∧ (∀ h, a0.tmps[11]'h = .pointer (some ⟨zv, 0, none⟩))) ⟨rfl, fun _ => rfl, fun _ => rfl, fun _ => rfl, fun _ => rfl⟩ ?_
    rintro a0 ⟨hsz, s2, s3, s10, s11⟩ ha0
    refine reg.wp_region_E (S := fun W => Ls W [(zv, 44, (vdl V)), (zw, 31, (wpl x)), (zd, 24, (dkl (.slice a1 n0 c1) d.s))]) (E := fun i => i == 12) (by kernel_rfl) ?_
    replace hM := hM.drew
    replace hT := hT.call (Below.refl _ _).drew
    refine reg.e_take (i := 0) (ag ((dkl (.slice a1 n0 c1) d.s))) rfl (by kernel_rfl) (by kernel_rfl) (by kernel_rfl) (by kernel_rfl) (fun _ _ _ h => h) (reg.wanted_none rfl) (hM.ls (by simp)) (fun W hW => ex_load rfl row_disk (by simp [go_sem, Act.put, hsz, s2, s3, s10, s11]) hW.at2 (Nat.le_refl 2) (cut_all rfl)) ?_
    refine reg.e_take (i := 1) (.pointer (some ⟨zw, 4, none⟩)) rfl (by kernel_rfl) (by kernel_rfl) (by kernel_rfl) (by kernel_rfl) (fun _ _ _ h => h) (reg.wanted_none rfl) (hM.ls (by simp)) (fun W hW => by simp [execOp, go_sem, Act.put, hsz, s2, s3, s10, s11]) ?_
    refine reg.e_take (i := 2) (.string x.cmd) rfl (by kernel_rfl) (by kernel_rfl) (by kernel_rfl) (by kernel_rfl) (fun _ _ _ h => h) (reg.wanted_none rfl) (hM.ls (by simp)) (fun W hW => ex_get rfl (by simp [go_sem, Act.put, hsz, s2, s3, s10, s11]) hW.at1 (show (wpl x)[4]? = some _ from rfl)) ?_
    refine reg.e_take (i := 3) (ag ((wpl x))) rfl (by kernel_rfl) (by kernel_rfl) (by kernel_rfl) (by kernel_rfl) (fun _ _ _ h => h) (reg.wanted_none rfl) (hM.ls (by simp)) (fun W hW => ex_load rfl row_wrap (by simp [go_sem, Act.put, hsz, s2, s3, s10, s11]) hW.at1 (Nat.le_refl 5) (cut_all rfl)) ?_
    refine reg.e_take (i := 4) (ag ((vdl V))) rfl (by kernel_rfl) (by kernel_rfl) (by kernel_rfl) (by kernel_rfl) (fun _ _ _ h => h) (reg.wanted_none rfl) (hM.ls (by simp)) (fun W hW => ex_load rfl row_verdict (by simp [go_sem, Act.put, hsz, s2, s3, s10, s11]) hW.at0 (Nat.le_refl 4) (cut_all rfl)) ?_
    refine reg.e_take (i := 5) (.string t) rfl (by kernel_rfl) (by kernel_rfl) (by kernel_rfl) (by kernel_rfl) (fun _ _ _ h => h) (reg.wanted_none rfl) (hM.ls (by simp)) (fun W hW => by simp [execOp, go_sem, Act.put, hsz, s2, s3, s10, s11]) ?_
    refine reg.e_one 6 (by kernel_rfl) rfl ?_
    refine reg.r_call (i := 6) 19 #[ag ((wpl x)), ag ((vdl V)), .string t] rfl (reg.wanted_none rfl) (by simp [execOp, go_sem, Act.put, hsz, s2, s3, s10, s11]) ((HGV.out _).mono ?_)
    rintro re ru1 ⟨rfl, rhv⟩
    replace hM := hM.call rhv
    replace hT := hT.call rhv
    clear rhv
    refine ⟨_, rfl, hM.ls (by simp), ?_⟩
    refine reg.e_one 7 (by kernel_rfl) rfl ?_
    refine reg.r_call (i := 7) 18 #[ag ((dkl (.slice a1 n0 c1) d.s)), .string x.cmd, .string G] rfl (reg.wanted_none rfl) (by simp [execOp, go_sem, Act.put, hsz, s2, s3, s10, s11]) ((HDO.out _ _ hT.out.rts).mono ?_)
    rintro re rux ⟨xa, xc, rfl, rht, rhv⟩
    replace hT := txp (txs_mono rht hM.below.size)
    replace hM := hM.call rhv
    clear rhv rht
    refine ⟨_, rfl, hM.ls (by simp), ?_⟩
    refine reg.e_take (i := 8) (.tuple #[ag (dkl (.slice xa nn xc) S), .string T, .int .i64 C]) rfl (by kernel_rfl) (by kernel_rfl) (by kernel_rfl) (by kernel_rfl) (fun _ _ _ h => h) (reg.wanted_none rfl) (hM.ls (by simp)) (fun W hW => by simp [execOp, go_sem, Act.put, hsz, s2, s3, s10, s11]) ?_
    refine reg.e_take (i := 9) (ag (dkl (.slice xa nn xc) S)) rfl (by kernel_rfl) (by kernel_rfl) (by kernel_rfl) (by kernel_rfl) (fun _ _ _ h => h) (reg.wanted_none rfl) (hM.ls (by simp)) (fun W hW => by simp [execOp, go_sem, Act.put, hsz, s2, s3, s10, s11]) ?_
    refine reg.e_take0 (i := 10) (.string T) rfl (by kernel_rfl) (by kernel_rfl) (by kernel_rfl) rfl (fun _ _ _ h => h) (reg.wanted_none rfl) (hM.ls (by simp)) (fun W => by simp [execOp, go_sem, Act.put, hsz, s2, s3, s10, s11]) ?_
    refine reg.e_take0 (i := 11) (.int .i64 C) rfl (by kernel_rfl) (by kernel_rfl) (by kernel_rfl) rfl (fun _ _ _ h => h) (reg.wanted_none rfl) (hM.ls (by simp)) (fun W => by simp [execOp, go_sem, Act.put, hsz, s2, s3, s10, s11]) ?_
    refine reg.e_leave 12 (by kernel_rfl) rfl ?_
    refine r_fill (i := 12) rfl (reg.wanted_none rfl) rfl row_disk (by simp [go_sem, Act.put, hsz, s2, s3, s10, s11]) (by simp [go_sem, Act.put, hsz, s2, s3, s10, s11]) hM.at3 (dkl_vs (v := .slice xa nn xc) S rfl) rfl ?_
    intro ru3 rhv rhc
    have rhB := hM.at3
    replace hM := hM.put3 rhc rhv
    replace hT := txp (txs_chg hT.out rhB (by decide) rhc)
    clear rhc rhv rhB
    refine reg.t_take (i := 13) (.string T) rfl (by kernel_rfl) (by kernel_rfl) (by kernel_rfl) (fun _ _ _ h => h) (reg.wanted_none rfl) (fun W => by simp [execOp, go_sem, Act.put, hsz, s2, s3, s10, s11]) ?_
    refine reg.t_take (i := 14) (.int .i64 C) rfl (by kernel_rfl) (by kernel_rfl) (by kernel_rfl) (fun _ _ _ h => h) (reg.wanted_none rfl) (fun W => by simp [execOp, go_sem, Act.put, hsz, s2, s3, s10, s11]) ?_
    refine wpAnyH_done (by kernel_rfl) ?_ _
    subst ha0
    clear hsz s2 s3 s10 s11
    go_simp
    repeat' (first | (go_big_may; first | (refine v_get rfl rfl (by first | exact lod_int | exact lod_str | exact lod_fcs | exact lod_err | exact lod_bool | exact lod_txs) rfl hM.at1 rfl ?_) | (refine v_get rfl rfl (by first | exact lod_int | exact lod_str | exact lod_fcs | exact lod_err | exact lod_bool | exact lod_txs) rfl hM.at0 rfl ?_) | (refine v_build rfl rfl (bld_status ⟨x.tag, V.res, V.code⟩) ?hbv ?_; (case hbv => simp [Act.eval, Act.put]))) | go_values | go_skip | go_guarded | go_step | go_upon | (simp only [Int.not_lt, Int.not_le] at *; go_simp))
    refine (HWS.out ⟨x.tag, V.res, V.code⟩ _).mono ?_
    rintro e u3 ⟨rfl, hb⟩
    replace hM := hM.call hb
    replace hT := hT.call hb
    clear hb HWS
    rw [HSC.out]
    repeat' (first | (go_big_may; first | (refine v_load rfl rfl row_disk rfl hM.at3 (Nat.le_refl _) (cut_all rfl) ?_) | (refine v_fill rfl rfl row_disk rfl rfl hM.at2 (dkl_vs (v := .slice xa nn xc) S rfl) rfl ?_; intro u hv hc; replace hT := txp (txs_chg hT.out hM.at2 (by decide) hc); replace hM := hM.put2 hc hv; clear hv hc)) | go_values | go_skip | go_guarded | go_step | go_upon | (simp only [Int.not_lt, Int.not_le] at *; go_simp))
    exact bodyPost_ret (ret_ctt rfl rfl (ld_var row_disk hM.at2 rfl) rfl rfl rfl) rfl ⟨_, rfl, hT.out, hM.below⟩
end Go.Proofs.YtecknicmonhcaabDoor.bulk
