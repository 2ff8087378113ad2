/- plugref: Served, a part of it. (Written by tools/genbuly.py.) -/
import Derived.Test.YtecknicmonhcaaaBulY
namespace Go.Proofs.Ytecknicmonhcaaa.bulk
open Go Go.RowKit Go.PlainAid Go.Proofs.Ytecknicmonhcaaa.lane Go.Proofs.Ytecknicmonhcaaa.pipe Go.Proofs.Ytecknicmonhcaaa.strike
open Go.Proofs.Ytecknicmonhcaaa.scsi (Dk chkC chk_iff doD doT doC diskRight_any do_none)
set_option linter.unusedVariables false
set_option linter.unusedSimpArgs false
set_option maxRecDepth 100000

set_option maxHeartbeats 16000000 in
theorem served_no (v : Value) (d : Dk) (s t : ByteArray) (w : World) (h : Rts w v d.b) (hs : s.size ≤ maxLen) (hno : chkC d ≠ 0 ∨ rdC s ≠ 0 ∨ (rdW s).unit ≠ 0) :
    Calls Try.prog 20 #[ag (dkl v d.s), .string s, .string t] w fun e w' => SdP d s t w e w' := by
  have HK : Hid (∀ u, Rts u v d.b → Calls Try.prog 42 #[ag (dkl v d.s)] u fun e w' => e = .returned (.int .i64 (chkC d)) ∧ Below u.heap.size u w') := fun u hu => diskRight_any v d.b d.s u hu
  have HRW : Hid (∀ u, Calls Try.prog 12 #[.string s] u fun e w' => e = .returned (.tuple #[ag (wpl (rdW s)), .int .i64 (rdC s)]) ∧ Below u.heap.size u w') := fun u => rreadWrap_any s hs u
  have hO := txs_one h
  have hC0 := rtp h
  have hM := Mm.nil w
  unfold SdP
  by_cases h1 : chkC d ≠ 0
  · have he : tkE d s t ≠ 0 := by unfold tkE; rw [if_pos h1]; exact h1
    have HV : Hid (svD d s t = d ∧ svA d s t = ⟨#[]⟩ ∧ svT d s t = ⟨#[]⟩ ∧ tkE d s t = chkC d) := ⟨if_pos he, if_pos he, if_pos he, if_pos h1⟩
    rw [HV.out.1, HV.out.2.1, HV.out.2.2.1, HV.out.2.2.2]
    have e1 : (chkC d != 0) = true := by rw [bne_iff_ne]; exact h1
    generalize chkC d = z at *
    clear h1 he HV hno HRW hs h
    go_enter Try.func20, Try.ntmps20
    repeat' (first | (go_big_may; first | (refine v_box rfl rfl rfl ?_; intro u zd hN; replace hM := Mm.new (L := []) hM hN; clear hN) | (refine v_alloc rfl zer_disk rfl ?_; intro u zr hN; replace hM := hM.new hN; clear hN) | (refine v_load rfl rfl row_disk rfl hM.at1 (Nat.le_refl _) (cut_all rfl) ?_)) | go_values | go_skip | go_guarded | go_step | go_upon | (simp only [Int.not_lt, Int.not_le] at *; go_simp))
    refine (HK.out _ (hC0.call hM.below).out).mono ?_
    rintro e u1 ⟨rfl, hb⟩
    replace hM := hM.call hb
    clear hb HK
    repeat' (first | (go_big_may; first | (refine v_load rfl rfl row_disk rfl hM.at1 (Nat.le_refl _) (cut_all rfl) ?_) | (refine v_fill rfl rfl row_disk rfl rfl hM.at0 (dkl_vs d.s hO) rfl ?_; intro u hv hc; replace hM := hM.put0 hc hv; clear hv hc)) | go_values | go_skip | go_guarded | go_step | go_upon | (simp only [Int.not_lt, Int.not_le] at *; go_simp))
    exact bodyPost_ret (ret_ctt rfl rfl (ld_var row_disk hM.at0 rfl) rfl rfl rfl) rfl ⟨v, rfl, (hC0.call hM.below).out, hM.below⟩
  have hd : chkC d = 0 := Classical.not_not.1 h1
  have h2 : rdC s ≠ 0 ∨ (rdW s).unit ≠ 0 := hno.resolve_left h1
  have he8 : tkE d s t = 8 := (if_neg h1).trans (if_pos h2)
  have he : tkE d s t ≠ 0 := by rw [he8]; decide
  have HV : Hid (svD d s t = d ∧ svA d s t = ⟨#[]⟩ ∧ svT d s t = ⟨#[]⟩ ∧ tkE d s t = 8) := ⟨if_pos he, if_pos he, if_pos he, he8⟩
  rw [HV.out.1, HV.out.2.1, HV.out.2.2.1, HV.out.2.2.2]
  rw [hd] at HK
  by_cases hz : rdC s = 0
  · have hu : (rdW s).unit ≠ 0 := h2.resolve_left (fun q => q hz)
    obtain ⟨i1, i2, i3, i4⟩ := rd_is hz
    have hk := (wk_iff _).1 i2
    have hu0 : 0 < (rdW s).unit := by rw [i1] at hu ⊢; omega
    rw [hz] at HRW
    generalize rdW s = x at *
    have e2 : decide (0 < x.unit) = true := decide_eq_true hu0
    clear h1 he he8 HV hno hs h hd h2 hz hu i1 i2 i3 i4 hk hu0
    go_enter Try.func20, Try.ntmps20
    repeat' (first | (go_big_may; first | (refine v_box rfl rfl rfl ?_; intro u zd hN; replace hM := Mm.new (L := []) hM hN; clear hN) | (refine v_alloc rfl zer_disk rfl ?_; intro u zr hN; replace hM := hM.new hN; clear hN) | (refine v_load rfl rfl row_disk rfl hM.at1 (Nat.le_refl _) (cut_all rfl) ?_)) | go_values | go_skip | go_guarded | go_step | go_upon | (simp only [Int.not_lt, Int.not_le] at *; go_simp))
    refine (HK.out _ (hC0.call hM.below).out).mono ?_
    rintro e u1 ⟨rfl, hb⟩
    replace hM := hM.call hb
    clear hb HK
    repeat' (first | go_values | go_skip | go_guarded | go_step | go_upon | (simp only [Int.not_lt, Int.not_le] at *; go_simp))
    refine (HRW.out _).mono ?_
    rintro e u2 ⟨rfl, hb⟩
    replace hM := hM.call hb
    clear hb HRW
    repeat' (first | (go_big_may; first | (refine v_alloc rfl zer_wrap rfl ?_; intro u zw hN; replace hM := hM.new hN; clear hN) | (refine v_fill rfl rfl row_wrap rfl rfl hM.at0 (wpl_vs x) rfl ?_; intro u hv hc; replace hM := hM.put0 hc hv; clear hv hc) | (refine v_get rfl rfl (by first | exact lod_int | exact lod_str | exact lod_fcs | exact lod_err | exact lod_bool | exact lod_txs) rfl hM.at0 rfl ?_) | (refine v_load rfl rfl row_disk rfl hM.at2 (Nat.le_refl _) (cut_all rfl) ?_) | (refine v_fill rfl rfl row_disk rfl rfl hM.at1 (dkl_vs d.s hO) rfl ?_; intro u hv hc; replace hM := hM.put1 hc hv; clear hv hc)) | go_values | go_skip | go_guarded | go_step | go_upon | (simp only [Int.not_lt, Int.not_le] at *; go_simp))
    exact bodyPost_ret (ret_ctt rfl rfl (ld_var row_disk hM.at1 rfl) rfl rfl rfl) rfl ⟨v, rfl, (hC0.call hM.below).out, hM.below⟩
  · have e1 : (rdC s != 0) = true := by rw [bne_iff_ne]; exact hz
    generalize rdW s = x at *
    generalize rdC s = z at *
    clear h1 he he8 HV hno hs h hd h2 hz
    go_enter Try.func20, Try.ntmps20
    repeat' (first | (go_big_may; first | (refine v_box rfl rfl rfl ?_; intro u zd hN; replace hM := Mm.new (L := []) hM hN; clear hN) | (refine v_alloc rfl zer_disk rfl ?_; intro u zr hN; replace hM := hM.new hN; clear hN) | (refine v_load rfl rfl row_disk rfl hM.at1 (Nat.le_refl _) (cut_all rfl) ?_)) | go_values | go_skip | go_guarded | go_step | go_upon | (simp only [Int.not_lt, Int.not_le] at *; go_simp))
    refine (HK.out _ (hC0.call hM.below).out).mono ?_
    rintro e u1 ⟨rfl, hb⟩
    replace hM := hM.call hb
    clear hb HK
    repeat' (first | go_values | go_skip | go_guarded | go_step | go_upon | (simp only [Int.not_lt, Int.not_le] at *; go_simp))
    refine (HRW.out _).mono ?_
    rintro e u2 ⟨rfl, hb⟩
    replace hM := hM.call hb
    clear hb HRW
    repeat' (first | (go_big_may; first | (refine v_alloc rfl zer_wrap rfl ?_; intro u zw hN; replace hM := hM.new hN; clear hN) | (refine v_fill rfl rfl row_wrap rfl rfl hM.at0 (wpl_vs x) rfl ?_; intro u hv hc; replace hM := hM.put0 hc hv; clear hv hc) | (refine v_get rfl rfl (by first | exact lod_int | exact lod_str | exact lod_fcs | exact lod_err | exact lod_bool | exact lod_txs) rfl hM.at0 rfl ?_) | (refine v_load rfl rfl row_disk rfl hM.at2 (Nat.le_refl _) (cut_all rfl) ?_) | (refine v_fill rfl rfl row_disk rfl rfl hM.at1 (dkl_vs d.s hO) rfl ?_; intro u hv hc; replace hM := hM.put1 hc hv; clear hv hc)) | go_values | go_skip | go_guarded | go_step | go_upon | (simp only [Int.not_lt, Int.not_le] at *; go_simp))
    exact bodyPost_ret (ret_ctt rfl rfl (ld_var row_disk hM.at1 rfl) rfl rfl rfl) rfl ⟨v, rfl, (hC0.call hM.below).out, hM.below⟩
end Go.Proofs.Ytecknicmonhcaaa.bulk
