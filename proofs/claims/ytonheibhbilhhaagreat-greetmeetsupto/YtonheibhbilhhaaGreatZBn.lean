/- plugref's gadget: what Control answers. -/
import Derived.Test.YtonheibhbilhhaaGreatZBl
namespace Go.Proofs.YtonheibhbilhhaaGreat.gadget
open Go.RowKit Go.PlainAid Go.Proofs.YtonheibhbilhhaaGreat.lane Go.Proofs.YtonheibhbilhhaaGreat.desc
open Go.Proofs.YtonheibhbilhhaaGreat.setup (inS inS_iff askc good rK rN rC good_words)
set_option linter.unusedVariables false
set_option linter.unusedSimpArgs false
set_option maxRecDepth 100000 in
set_option maxHeartbeats 16000000 in
theorem rcontrol_4 (d : Dv) (c : Cf) (L : FL) (v : Value) (T : List (List Int)) (tv : Value) (s a h : Int) (q : ByteArray) (w : World) (hs : Shr w c L v T tv) (hq : q.size ≤ maxLen) (hbig : ∀ t ∈ T, t.length ≤ 17000000000000) (h1 : chkS d c T = 0) (h2 : gR s a h = true) (h3 : rC q = 0) (hkd : rK q = 4) :
  Calls Tryz.prog 18 #[shV d c v tv, gdV s a h, .string q] w fun e w' => e = .returned (ansV (ctl d c T s a h q)) ∧ Below w.heap.size w w' := by
 have H1 : Hid (chkS d c T = 0) := h1
 have H2 : Hid (gR s a h = true) := h2
 have H3 : Hid (rC q = 0) := h3
 have HK : Hid (rK q = 4) := hkd
 clear h1 h2 h3 hkd
 obtain ⟨w1, hw1, hS1, hb1⟩ := ShC.named w d c v tv
 obtain ⟨w2, hw2, hG2, hb2⟩ := gd_named w1 s a h
 obtain ⟨w3, hw3, hR3, hb3⟩ := gd_named w2 0 0 0
 have hb13 := bsq hb2 hb3
 have hb03 := bsq hb1 hb13
 have z1 : w.heap.size < w1.heap.size := (Array.getElem?_eq_some_iff.1 hS1).1
 have z2 : w1.heap.size < w2.heap.size := (Array.getElem?_eq_some_iff.1 hG2).1
 have z3 : w2.heap.size < w3.heap.size := (Array.getElem?_eq_some_iff.1 hR3).1
 have HS : Hid (∀ u : World, Below w3.heap.size w3 u → u.heap[w.heap.size]? = some (shO d c v tv)) := fun u hu => keep (keep hS1 hb13) hu
 have HG : Hid (∀ u : World, Below w3.heap.size w3 u → u.heap[w1.heap.size]? = some (gdO s a h)) := fun u hu => keep (keep hG2 hb3) hu
 have HR : Hid (∀ u : World, Below w3.heap.size w3 u → u.heap[w2.heap.size]? = some (gdO 0 0 0)) := fun u hu => keep hR3 hu
 have HB3 : Hid (Below w.heap.size w w3) := hb03
 have HSr : Hid (∀ u : World, Below w3.heap.size w3 u → Shr u c L v T tv) := fun u hu => hs.below (bsq hb03 hu)
 have HCk : Hid (Calls Tryz.prog 12 #[shV d c v tv] w3 fun e w' => e = .returned (.int .i64 (chkS d c T)) ∧ Below w3.heap.size w3 w') := rsheet_any d c L v T tv w3 (hs.below hb03) hbig
 have HRi : Hid (∀ u : World, Calls Tryz.prog 37 #[gdV s a h] u fun e w' => e = .returned (.bool (gR s a h)) ∧ Below u.heap.size u w') := gadget_any s a h
 have HRd : Hid (∀ u : World, Calls Tryz.prog 38 #[.string q] u fun e w' => e = .returned (.tuple #[setup.ask (rK q) (rN q 2) (rN q 4) (rN q 6), .int .i64 (rC q)]) ∧ Below u.heap.size u w') := setup.readAsk_any q hq
 obtain ⟨fa, fn, fcp, rfl⟩ : ∃ a n c, v = .slice a n c := by obtain ⟨a, c, h, _⟩ := hs.rc.fs.row; exact ⟨_, _, _, h⟩
 obtain ⟨ta, tn, tcp, rfl⟩ : ∃ a n c, tv = .slice a n c := by obtain ⟨a, c, h, _⟩ := hs.tx; exact ⟨_, _, _, h⟩
 obtain ⟨Y, hY⟩ : ∃ Y, ctl d c T s a h q = Y := ⟨_, rfl⟩
 have HY : Hid (ctl d c T s a h q = Y) := hY
 rw [hY]
 clear hY hs hq hb1 hb2 hb3 hb13 hb03 hS1 hG2 hR3
 have hS3 := HS.out w3 (Below.refl _ _)
 go_enter Tryz.func18, Tryz.ntmps18
 go_upto_region 1 with (fail)
 go_cut [0, 1, 9] from 20 (fun _ _ cv wx => cv = .int .i64 (chkS d c T) ∧ Hid (Below w3.heap.size w3 wx))
 case first =>
  go_wp2_with (refine wpList_load_row rfl 29 _ rfl w.heap.size rfl 29 _ (0, 0) _ hS3 Tryz.underlying29 rfl (by kernel_rfl) ?_)
  refine HCk.out.mono ?_
  rintro e wa ⟨rfl, hba⟩
  go_wp2_with fail
  go_meet
  case rel => exact ⟨rfl, hba⟩
 case rest =>
 obtain ⟨rfl, HBa⟩ := hcut
 clear HCk hS3
 rename World => wa
 obtain ⟨⟨zg, g0, g1, g2⟩, _, _, _⟩ := gd_box (HG.out wa HBa.out)
 rw [H1.out]
 go_upto_region 4 with (fail)
 go_cut [28] from 20 (fun bv wx => bv = .bool (!(gR s a h)) ∧ Hid (Below w3.heap.size w3 wx))
 case first =>
  go_wp2_with fail
  refine (HRi.out _).mono ?_
  rintro e wb ⟨rfl, hbb⟩
  go_wp2_with fail
  go_meet
  case rel => exact ⟨rfl, bsq HBa.out hbb⟩
 case rest =>
 obtain ⟨rfl, HBb⟩ := hcut
 clear HRi zg g0 g1 g2 HBa
 rename World => wb
 rw [H2.out]
 go_upto_region 6 with (fail)
 go_cut [2, 10, 11] from 20 (fun _ pv cv wx => ∃ wc : World, pv = .pointer (some ⟨wc.heap.size, 0, none⟩) ∧ cv = .int .i64 (rC q) ∧ Hid (Below w3.heap.size w3 wc) ∧ wc.alloc (askc (rK q) (rN q 2) (rN q 4) (rN q 6)) = wx)
 case first =>
  go_wp2_with fail
  refine (HRd.out _).mono ?_
  rintro e wc ⟨rfl, hbc⟩
  go_wp2_with fail
  go_meet
  case rel => exact ⟨wc, rfl, rfl, bsq HBb.out hbc, rfl⟩
 case rest =>
 rename World => wd
 obtain ⟨wc, rfl, rfl, HBc, hwd⟩ := hcut
 have hbd : Below wc.heap.size wc wd := by rw [← hwd]; exact balloc _ _
 have hA : wd.heap[wc.heap.size]? = some (askc (rK q) (rN q 2) (rN q 4) (rN q 6)) := by rw [← hwd]; exact (MapKept.heap_alloc wc _).1
 have hBd := bsq HBc.out hbd
 clear HRd HBb
 have h3 := H3.out
 have hgo := read_good h3
 have HE0 : Hid (act d c T s a h (rK q) (rN q 2) (rN q 4) (rN q 6) = Y) := (ctl_3 H1.out H2.out h3).trans HY.out
 have e3 : (rC q != 0) = false := by simpa using h3
 generalize rC q = z at *
 clear h3 HY H3
 generalize rK q = kq at *
 generalize rN q 2 = vq at *
 generalize rN q 4 = iq at *
 generalize rN q 6 = lq at *
 have HBd : Hid (Below w3.heap.size w3 wd) := hBd
 have HAd : Hid (∀ u : World, Below wd.heap.size wd u → u.heap[wc.heap.size]? = some (askc kq vq iq lq)) := fun u hu => keep hA hu
 obtain ⟨hst, hh0, hh2⟩ := gR_state H2.out
 obtain ⟨⟨gk1, gk2⟩, ⟨gv1, gv2⟩, _, ⟨gl1, gl2⟩⟩ := good_words hgo
 have hok := (chkS_ok H1.out).2.2.1
 have hT8 := (chkS_ok H1.out).2.2.2.1
 have hva : 0 ≤ c.va ∧ c.va ≤ 255 := by have := (chkC_ok hok).head.1; omega
 have HSt : Hid (∀ u : World, Below w3.heap.size w3 u → Calls Tryz.prog 39 #[.pointer (some ⟨w1.heap.size, 0, none⟩)] u fun e w' => e = .returned (ansV (bad s a h 8)) ∧ Below u.heap.size u w') := fun u hu => stall_any w1.heap.size s a h u (HG.out u hu)
 clear hwd hbd hA hBd
 have hkd := HK.out
 subst hkd
 have HE0 : Hid ((if s = 2 then bad s a h 8 else if vq = 0 then (⟨0, 0, 0, noT, 0⟩ : Ans) else ⟨1, vq, 0, noT, 0⟩) = Y) := by have h := HE0.out; rw [act_4] at h; exact h
 obtain ⟨a0, a1, a2, a3⟩ := ask_box (HAd.out wd (Below.refl _ _))
 obtain ⟨⟨zg, g0, g1, g2⟩, gf0, gf1, gf2⟩ := gd_box (HG.out wd HBd.out)
 by_cases y2 : s = 2
 ·have HE : Hid (bad s a h 8 = Y) := by have h := HE0.out; rw [if_pos y2] at h; exact h
  have y3 : (s == 2) = true := by simpa using y2
  clear HE0 y2 hst hh0 hh2
  go_upto_region 22 with (fail)
  refine wp_abs (fun a0 => a0.tmps.size = 195 ∧ (∀ h, a0.tmps[4]'h = .pointer (some ⟨w1.heap.size, 0, none⟩)) ∧ (∀ h, a0.tmps[6]'h = .pointer (some ⟨w2.heap.size, 0, none⟩)) ∧ (∀ h, a0.tmps[12]'h = .func (.func 39) #[] #[.pointer (some ⟨w1.heap.size, 0, none⟩)]) ∧ a0.defers = []) ⟨rfl, fun _ => rfl, fun _ => rfl, fun _ => rfl, rfl⟩ ?_
  rintro a0 ⟨hsz, s4, s6, s12, hdf⟩ ha0
  clear ha0
  refine wp_region_lit (l := [_, _, _, _, _, _, _, _]) ?_
  refine wpl_value (w' := wd) (.func (.func 39) #[] #[.pointer (some ⟨w1.heap.size, 0, none⟩)]) rfl (by simp [execOp, go_sem, Act.put, bad, hsz, s4, s6, s12]) ?_
  refine wpl_call 39 #[.pointer (some ⟨w1.heap.size, 0, none⟩)] rfl (by simp [execOp, go_sem, Act.put, hsz, s4, s6, s12]) ((HSt.out _ HBd.out).mono ?_)
  rintro e us ⟨rfl, hbs⟩
  have HBs : Hid (Below w3.heap.size w3 us) := bsq HBd.out hbs
  refine ⟨_, rfl, ?_⟩
  refine wpl_value (w' := us) (gdV s a h) rfl (by simp [execOp, go_sem, Act.put, bad, hsz, s4, s6, s12]) ?_
  refine wpl_value (w' := us) (.string noT) rfl (by simp [execOp, go_sem, Act.put, bad, hsz, s4, s6, s12]) ?_
  refine wpl_value (w' := us) (.int .i64 8) rfl (by simp [execOp, go_sem, Act.put, bad, hsz, s4, s6, s12]) ?_
  refine ret_tail (E := fun e w' => e = .returned (ansV Y) ∧ Below w.heap.size w w') (d := 78) (w := w) (by simp [Act.put, hsz]) (by simp [Act.put, hsz, s6]) (by simp [Act.put, hdf]) (by decide) (by simp [Act.put, hsz, s4, s6, s12]) (by first | (simp [Act.eval, Act.put, bad, hsz, s4, s6, s12]; done) | (simp [Act.eval, Act.put, hsz, s4, s6, s12]; rfl)) (by simp [Act.eval, Act.put, bad, hsz, s4, s6, s12]) (HR.out _ HBs.out) (by omega) (bsq HB3.out HBs.out) (fun wf hwf => ⟨ret_ans HE.out, hwf⟩) ?_
  intro a' wf h
  first | (rename_i hK; exact hK _ _ (wp_ret h)) | (rename_i hK hX; exact hK _ _ (wp_ret h))
 have y3 : (s == 2) = false := by simpa using y2
 by_cases y4 : vq = 0
 ·subst y4
  have HE : Hid ((⟨0, 0, 0, noT, 0⟩ : Ans) = Y) := by have h := HE0.out; rw [if_neg y2, if_pos rfl] at h; exact h
  clear HE0 y2 hst hh0 hh2
  go_upto_region 24 with (fail)
  refine wp_abs (fun a0 => a0.tmps.size = 195 ∧ (∀ h, a0.tmps[4]'h = .pointer (some ⟨w1.heap.size, 0, none⟩)) ∧ (∀ h, a0.tmps[6]'h = .pointer (some ⟨w2.heap.size, 0, none⟩)) ∧ a0.defers = []) ⟨rfl, fun _ => rfl, fun _ => rfl, rfl⟩ ?_
  rintro a0 ⟨hsz, s4, s6, hdf⟩ ha0
  clear ha0
  refine wp_region_lit (l := [_, _, _, _]) ?_
  refine wpl_value (w' := wd) (gdV 0 0 0) rfl (by simp [execOp, go_sem, Act.put, bad, hsz, s4, s6]) ?_
  refine ret_tail (E := fun e w' => e = .returned (ansV Y) ∧ Below w.heap.size w w') (d := 84) (w := w) (by simp [Act.put, hsz]) (by simp [Act.put, hsz, s6]) (by simp [Act.put, hdf]) (by decide) (by simp [Act.put, hsz, s4, s6]) (by first | (simp [Act.eval, Act.put, bad, hsz, s4, s6]; done) | (simp [Act.eval, Act.put, hsz, s4, s6]; rfl)) (by simp [Act.eval, Act.put, bad, hsz, s4, s6]) (HR.out _ HBd.out) (by omega) (bsq HB3.out HBd.out) (fun wf hwf => ⟨ret_ans HE.out, hwf⟩) ?_
  intro a' wf h
  first | (rename_i hK; exact hK _ _ (wp_ret h)) | (rename_i hK hX; exact hK _ _ (wp_ret h))
 have y5 : (vq == 0) = false := by simpa using y4
 have HE : Hid ((⟨1, vq, 0, noT, 0⟩ : Ans) = Y) := by have h := HE0.out; rw [if_neg y2, if_neg y4] at h; exact h
 clear HE0 y2 y4 hst hh0 hh2
 go_upto_region 25 with (fail)
 refine wp_abs (fun a0 => a0.tmps.size = 195 ∧ (∀ h, a0.tmps[4]'h = .pointer (some ⟨w1.heap.size, 0, none⟩)) ∧ (∀ h, a0.tmps[6]'h = .pointer (some ⟨w2.heap.size, 0, none⟩)) ∧ (∀ h, a0.tmps[10]'h = .pointer (some ⟨wc.heap.size, 0, none⟩)) ∧ a0.defers = []) ⟨rfl, fun _ => rfl, fun _ => rfl, fun _ => rfl, rfl⟩ ?_
 rintro a0 ⟨hsz, s4, s6, s10, hdf⟩ ha0
 clear ha0
 refine wp_region_lit (l := [_, _, _, _, _, _]) ?_
 refine wpl_value (w' := wd) (.pointer (some ⟨wc.heap.size, 1, none⟩)) rfl (by simp [execOp, go_sem, Act.put, bad, hsz, s4, s6, s10]) ?_
 refine wpl_value (w' := wd) (.int .i64 vq) rfl (by simp [execOp, go_sem, Act.put, bad, hsz, s4, s6, s10, a1]) ?_
 refine wpl_value (w' := wd) (gdV 1 vq 0) rfl (by simp [execOp, go_sem, Act.put, bad, hsz, s4, s6, s10]) ?_
 refine ret_tail (E := fun e w' => e = .returned (ansV Y) ∧ Below w.heap.size w w') (d := 87) (w := w) (by simp [Act.put, hsz]) (by simp [Act.put, hsz, s6]) (by simp [Act.put, hdf]) (by decide) (by simp [Act.put, hsz, s4, s6, s10]) (by first | (simp [Act.eval, Act.put, bad, hsz, s4, s6, s10]; done) | (simp [Act.eval, Act.put, hsz, s4, s6, s10]; rfl)) (by simp [Act.eval, Act.put, bad, hsz, s4, s6, s10]) (HR.out _ HBd.out) (by omega) (bsq HB3.out HBd.out) (fun wf hwf => ⟨ret_ans HE.out, hwf⟩) ?_
 intro a' wf h
 first | (rename_i hK; exact hK _ _ (wp_ret h)) | (rename_i hK hX; exact hK _ _ (wp_ret h))
end Go.Proofs.YtonheibhbilhhaaGreat.gadget
namespace Go.Proofs.YtonheibhbilhhaaGreat.gadget
open Go.RowKit Go.PlainAid Go.Proofs.YtonheibhbilhhaaGreat.lane Go.Proofs.YtonheibhbilhhaaGreat.desc
open Go.Proofs.YtonheibhbilhhaaGreat.setup (inS inS_iff askc good rK rN rC good_words)
set_option linter.unusedVariables false
set_option linter.unusedSimpArgs false
set_option maxRecDepth 100000 in
set_option maxHeartbeats 16000000 in
theorem rcontrol_5 (d : Dv) (c : Cf) (L : FL) (v : Value) (T : List (List Int)) (tv : Value) (s a h : Int) (q : ByteArray) (w : World) (hs : Shr w c L v T tv) (hq : q.size ≤ maxLen) (hbig : ∀ t ∈ T, t.length ≤ 17000000000000) (h1 : chkS d c T = 0) (h2 : gR s a h = true) (h3 : rC q = 0) (hkd : rK q = 5) :
  Calls Tryz.prog 18 #[shV d c v tv, gdV s a h, .string q] w fun e w' => e = .returned (ansV (ctl d c T s a h q)) ∧ Below w.heap.size w w' := by
 have H1 : Hid (chkS d c T = 0) := h1
 have H2 : Hid (gR s a h = true) := h2
 have H3 : Hid (rC q = 0) := h3
 have HK : Hid (rK q = 5) := hkd
 clear h1 h2 h3 hkd
 obtain ⟨w1, hw1, hS1, hb1⟩ := ShC.named w d c v tv
 obtain ⟨w2, hw2, hG2, hb2⟩ := gd_named w1 s a h
 obtain ⟨w3, hw3, hR3, hb3⟩ := gd_named w2 0 0 0
 have hb13 := bsq hb2 hb3
 have hb03 := bsq hb1 hb13
 have z1 : w.heap.size < w1.heap.size := (Array.getElem?_eq_some_iff.1 hS1).1
 have z2 : w1.heap.size < w2.heap.size := (Array.getElem?_eq_some_iff.1 hG2).1
 have z3 : w2.heap.size < w3.heap.size := (Array.getElem?_eq_some_iff.1 hR3).1
 have HS : Hid (∀ u : World, Below w3.heap.size w3 u → u.heap[w.heap.size]? = some (shO d c v tv)) := fun u hu => keep (keep hS1 hb13) hu
 have HG : Hid (∀ u : World, Below w3.heap.size w3 u → u.heap[w1.heap.size]? = some (gdO s a h)) := fun u hu => keep (keep hG2 hb3) hu
 have HR : Hid (∀ u : World, Below w3.heap.size w3 u → u.heap[w2.heap.size]? = some (gdO 0 0 0)) := fun u hu => keep hR3 hu
 have HB3 : Hid (Below w.heap.size w w3) := hb03
 have HSr : Hid (∀ u : World, Below w3.heap.size w3 u → Shr u c L v T tv) := fun u hu => hs.below (bsq hb03 hu)
 have HCk : Hid (Calls Tryz.prog 12 #[shV d c v tv] w3 fun e w' => e = .returned (.int .i64 (chkS d c T)) ∧ Below w3.heap.size w3 w') := rsheet_any d c L v T tv w3 (hs.below hb03) hbig
 have HRi : Hid (∀ u : World, Calls Tryz.prog 37 #[gdV s a h] u fun e w' => e = .returned (.bool (gR s a h)) ∧ Below u.heap.size u w') := gadget_any s a h
 have HRd : Hid (∀ u : World, Calls Tryz.prog 38 #[.string q] u fun e w' => e = .returned (.tuple #[setup.ask (rK q) (rN q 2) (rN q 4) (rN q 6), .int .i64 (rC q)]) ∧ Below u.heap.size u w') := setup.readAsk_any q hq
 obtain ⟨fa, fn, fcp, rfl⟩ : ∃ a n c, v = .slice a n c := by obtain ⟨a, c, h, _⟩ := hs.rc.fs.row; exact ⟨_, _, _, h⟩
 obtain ⟨ta, tn, tcp, rfl⟩ : ∃ a n c, tv = .slice a n c := by obtain ⟨a, c, h, _⟩ := hs.tx; exact ⟨_, _, _, h⟩
 obtain ⟨Y, hY⟩ : ∃ Y, ctl d c T s a h q = Y := ⟨_, rfl⟩
 have HY : Hid (ctl d c T s a h q = Y) := hY
 rw [hY]
 clear hY hs hq hb1 hb2 hb3 hb13 hb03 hS1 hG2 hR3
 have hS3 := HS.out w3 (Below.refl _ _)
 go_enter Tryz.func18, Tryz.ntmps18
 go_upto_region 1 with (fail)
 go_cut [0, 1, 9] from 20 (fun _ _ cv wx => cv = .int .i64 (chkS d c T) ∧ Hid (Below w3.heap.size w3 wx))
 case first =>
  go_wp2_with (refine wpList_load_row rfl 29 _ rfl w.heap.size rfl 29 _ (0, 0) _ hS3 Tryz.underlying29 rfl (by kernel_rfl) ?_)
  refine HCk.out.mono ?_
  rintro e wa ⟨rfl, hba⟩
  go_wp2_with fail
  go_meet
  case rel => exact ⟨rfl, hba⟩
 case rest =>
 obtain ⟨rfl, HBa⟩ := hcut
 clear HCk hS3
 rename World => wa
 obtain ⟨⟨zg, g0, g1, g2⟩, _, _, _⟩ := gd_box (HG.out wa HBa.out)
 rw [H1.out]
 go_upto_region 4 with (fail)
 go_cut [28] from 20 (fun bv wx => bv = .bool (!(gR s a h)) ∧ Hid (Below w3.heap.size w3 wx))
 case first =>
  go_wp2_with fail
  refine (HRi.out _).mono ?_
  rintro e wb ⟨rfl, hbb⟩
  go_wp2_with fail
  go_meet
  case rel => exact ⟨rfl, bsq HBa.out hbb⟩
 case rest =>
 obtain ⟨rfl, HBb⟩ := hcut
 clear HRi zg g0 g1 g2 HBa
 rename World => wb
 rw [H2.out]
 go_upto_region 6 with (fail)
 go_cut [2, 10, 11] from 20 (fun _ pv cv wx => ∃ wc : World, pv = .pointer (some ⟨wc.heap.size, 0, none⟩) ∧ cv = .int .i64 (rC q) ∧ Hid (Below w3.heap.size w3 wc) ∧ wc.alloc (askc (rK q) (rN q 2) (rN q 4) (rN q 6)) = wx)
 case first =>
  go_wp2_with fail
  refine (HRd.out _).mono ?_
  rintro e wc ⟨rfl, hbc⟩
  go_wp2_with fail
  go_meet
  case rel => exact ⟨wc, rfl, rfl, bsq HBb.out hbc, rfl⟩
 case rest =>
 rename World => wd
 obtain ⟨wc, rfl, rfl, HBc, hwd⟩ := hcut
 have hbd : Below wc.heap.size wc wd := by rw [← hwd]; exact balloc _ _
 have hA : wd.heap[wc.heap.size]? = some (askc (rK q) (rN q 2) (rN q 4) (rN q 6)) := by rw [← hwd]; exact (MapKept.heap_alloc wc _).1
 have hBd := bsq HBc.out hbd
 clear HRd HBb
 have h3 := H3.out
 have hgo := read_good h3
 have HE0 : Hid (act d c T s a h (rK q) (rN q 2) (rN q 4) (rN q 6) = Y) := (ctl_3 H1.out H2.out h3).trans HY.out
 have e3 : (rC q != 0) = false := by simpa using h3
 generalize rC q = z at *
 clear h3 HY H3
 generalize rK q = kq at *
 generalize rN q 2 = vq at *
 generalize rN q 4 = iq at *
 generalize rN q 6 = lq at *
 have HBd : Hid (Below w3.heap.size w3 wd) := hBd
 have HAd : Hid (∀ u : World, Below wd.heap.size wd u → u.heap[wc.heap.size]? = some (askc kq vq iq lq)) := fun u hu => keep hA hu
 obtain ⟨hst, hh0, hh2⟩ := gR_state H2.out
 obtain ⟨⟨gk1, gk2⟩, ⟨gv1, gv2⟩, _, ⟨gl1, gl2⟩⟩ := good_words hgo
 have hok := (chkS_ok H1.out).2.2.1
 have hT8 := (chkS_ok H1.out).2.2.2.1
 have hva : 0 ≤ c.va ∧ c.va ≤ 255 := by have := (chkC_ok hok).head.1; omega
 have HSt : Hid (∀ u : World, Below w3.heap.size w3 u → Calls Tryz.prog 39 #[.pointer (some ⟨w1.heap.size, 0, none⟩)] u fun e w' => e = .returned (ansV (bad s a h 8)) ∧ Below u.heap.size u w') := fun u hu => stall_any w1.heap.size s a h u (HG.out u hu)
 clear hwd hbd hA hBd
 have hkd := HK.out
 subst hkd
 have HE0 : Hid (desA s a h lq (desO d c T vq) = Y) := by have h := HE0.out; rw [act_5] at h; exact h
 have HDe : Hid (Calls Tryz.prog 40 #[shV d c (.slice fa fn fcp) (.slice ta tn tcp), .int .i64 vq] wd fun e w' => e = .returned (.tuple #[.string (dscT (desO d c T vq)), .bool (desO d c T vq).isSome]) ∧ Below wd.heap.size wd w') := described_any d c L _ T _ vq wd (HSr.out wd HBd.out) gv1 gv2 hT8 hbig
 have hSd := HS.out wd HBd.out
 obtain ⟨a0, a1, a2, a3⟩ := ask_box (HAd.out wd (Below.refl _ _))
 go_upto_region 14 with (fail)
 go_cut [13, 14] from 20 (fun tw bv wx => tw = .string (dscT (desO d c T vq)) ∧ bv = .bool (desO d c T vq).isSome ∧ Hid (Below wd.heap.size wd wx))
 case first =>
  go_wp2_with (refine wpList_load_row rfl 29 _ rfl w.heap.size rfl 29 _ (0, 0) _ hSd Tryz.underlying29 rfl (by kernel_rfl) ?_)
  refine HDe.out.mono ?_
  rintro e u ⟨rfl, hb⟩
  go_wp2_with fail
  go_meet
  case rel => exact ⟨rfl, rfl, hb⟩
 case rest =>
 obtain ⟨rfl, rfl, HBu0⟩ := hcut
 rename World => ud
 have HBu : Hid (Below w3.heap.size w3 ud) := bsq HBd.out HBu0.out
 clear a0 a1 a2 a3 hSd HDe
 obtain ⟨a0, a1, a2, a3⟩ := ask_box (HAd.out ud HBu0.out)
 obtain ⟨⟨zg, g0, g1, g2⟩, gf0, gf1, gf2⟩ := gd_box (HG.out ud HBu.out)
 generalize desO d c T vq = o at *
 cases o with
 | none =>
  have HE : Hid (bad s a h 8 = Y) := HE0.out
  clear HE0
  simp only [dscT, Option.getD, Option.isSome]
  go_upto_region 16 with (fail)
  refine wp_abs (fun a0 => a0.tmps.size = 195 ∧ (∀ h, a0.tmps[4]'h = .pointer (some ⟨w1.heap.size, 0, none⟩)) ∧ (∀ h, a0.tmps[6]'h = .pointer (some ⟨w2.heap.size, 0, none⟩)) ∧ (∀ h, a0.tmps[12]'h = .func (.func 39) #[] #[.pointer (some ⟨w1.heap.size, 0, none⟩)]) ∧ a0.defers = []) ⟨rfl, fun _ => rfl, fun _ => rfl, fun _ => rfl, rfl⟩ ?_
  rintro a0 ⟨hsz, s4, s6, s12, hdf⟩ ha0
  clear ha0
  refine wp_region_lit (l := [_, _, _, _, _, _, _, _]) ?_
  refine wpl_value (w' := ud) (.func (.func 39) #[] #[.pointer (some ⟨w1.heap.size, 0, none⟩)]) rfl (by simp [execOp, go_sem, Act.put, bad, hsz, s4, s6, s12]) ?_
  refine wpl_call 39 #[.pointer (some ⟨w1.heap.size, 0, none⟩)] rfl (by simp [execOp, go_sem, Act.put, hsz, s4, s6, s12]) ((HSt.out _ HBu.out).mono ?_)
  rintro e us ⟨rfl, hbs⟩
  have HBs : Hid (Below w3.heap.size w3 us) := bsq HBu.out hbs
  refine ⟨_, rfl, ?_⟩
  refine wpl_value (w' := us) (gdV s a h) rfl (by simp [execOp, go_sem, Act.put, bad, hsz, s4, s6, s12]) ?_
  refine wpl_value (w' := us) (.string noT) rfl (by simp [execOp, go_sem, Act.put, bad, hsz, s4, s6, s12]) ?_
  refine wpl_value (w' := us) (.int .i64 8) rfl (by simp [execOp, go_sem, Act.put, bad, hsz, s4, s6, s12]) ?_
  refine ret_tail (E := fun e w' => e = .returned (ansV Y) ∧ Below w.heap.size w w') (d := 57) (w := w) (by simp [Act.put, hsz]) (by simp [Act.put, hsz, s6]) (by simp [Act.put, hdf]) (by decide) (by simp [Act.put, hsz, s4, s6, s12]) (by first | (simp [Act.eval, Act.put, bad, hsz, s4, s6, s12]; done) | (simp [Act.eval, Act.put, hsz, s4, s6, s12]; rfl)) (by simp [Act.eval, Act.put, bad, hsz, s4, s6, s12]) (HR.out _ HBs.out) (by omega) (bsq HB3.out HBs.out) (fun wf hwf => ⟨ret_ans HE.out, hwf⟩) ?_
  intro a' wf h
  first | (rename_i hK; exact hK _ _ (wp_ret h)) | (rename_i hK hX; exact hK _ _ (wp_ret h))
 | some t =>
  have HE : Hid ((⟨s, a, h, cutT t lq, 0⟩ : Ans) = Y) := HE0.out
  simp only [dscT, Option.getD, Option.isSome]
  clear HE0
  by_cases y2 : lq < (t.size : Int)
  ·have HCT : Hid (t.extract 0 lq.toNat = cutT t lq) := by show _ = _; unfold cutT; congr 1; omega
   have HE2 : Hid ((⟨s, a, h, t.extract 0 lq.toNat, 0⟩ : Ans) = Y) := by show _ = _; rw [HCT.out]; exact HE.out
   go_upto_region 19 with (fail)
   refine wp_abs (fun a0 => a0.tmps.size = 195 ∧ (∀ h, a0.tmps[4]'h = .pointer (some ⟨w1.heap.size, 0, none⟩)) ∧ (∀ h, a0.tmps[6]'h = .pointer (some ⟨w2.heap.size, 0, none⟩)) ∧ (∀ h, a0.tmps[13]'h = .string (t.extract 0 lq.toNat)) ∧ a0.defers = []) ⟨rfl, fun _ => rfl, fun _ => rfl, fun _ => rfl, rfl⟩ ?_
   rintro a0 ⟨hsz, s4, s6, s13, hdf⟩ ha0
   clear ha0
   refine wp_region_lit (l := [_, _, _, _, _]) ?_
   refine wpl_value (w' := ud) (gdV s a h) rfl (by simp [execOp, go_sem, Act.put, bad, hsz, s4, s6, s13, g0, g1, g2, zg]) ?_
   refine wpl_value (w' := ud) (.string (t.extract 0 lq.toNat)) rfl (by simp [execOp, go_sem, Act.put, bad, hsz, s4, s6, s13]) ?_
   refine ret_tail (E := fun e w' => e = .returned (ansV Y) ∧ Below w.heap.size w w') (d := 69) (w := w) (by simp [Act.put, hsz]) (by simp [Act.put, hsz, s6]) (by simp [Act.put, hdf]) (by decide) (by simp [Act.put, hsz, s4, s6, s13]) (by first | (simp [Act.eval, Act.put, bad, hsz, s4, s6, s13]; done) | (simp [Act.eval, Act.put, hsz, s4, s6, s13]; rfl)) (by simp [Act.eval, Act.put, bad, hsz, s4, s6, s13]) (HR.out _ HBu.out) (by omega) (bsq HB3.out HBu.out) (fun wf hwf => ⟨ret_ans HE2.out, hwf⟩) ?_
   intro a' wf h
   first | (rename_i hK; exact hK _ _ (wp_ret h)) | (rename_i hK hX; exact hK _ _ (wp_ret h))
  ·have HCT : Hid (t = cutT t lq) := by show _ = _; unfold cutT; rw [show min t.size lq.toNat = t.size by omega, ByteArray.extract_zero_size]
   have HE2 : Hid ((⟨s, a, h, t, 0⟩ : Ans) = Y) := by have e := HE.out; rw [← HCT.out] at e; exact e
   go_upto_region 19 with (fail)
   refine wp_abs (fun a0 => a0.tmps.size = 195 ∧ (∀ h, a0.tmps[4]'h = .pointer (some ⟨w1.heap.size, 0, none⟩)) ∧ (∀ h, a0.tmps[6]'h = .pointer (some ⟨w2.heap.size, 0, none⟩)) ∧ (∀ h, a0.tmps[13]'h = .string t) ∧ a0.defers = []) ⟨rfl, fun _ => rfl, fun _ => rfl, fun _ => rfl, rfl⟩ ?_
   rintro a0 ⟨hsz, s4, s6, s13, hdf⟩ ha0
   clear ha0
   refine wp_region_lit (l := [_, _, _, _, _]) ?_
   refine wpl_value (w' := ud) (gdV s a h) rfl (by simp [execOp, go_sem, Act.put, bad, hsz, s4, s6, s13, g0, g1, g2, zg]) ?_
   refine wpl_value (w' := ud) (.string t) rfl (by simp [execOp, go_sem, Act.put, bad, hsz, s4, s6, s13]) ?_
   refine ret_tail (E := fun e w' => e = .returned (ansV Y) ∧ Below w.heap.size w w') (d := 69) (w := w) (by simp [Act.put, hsz]) (by simp [Act.put, hsz, s6]) (by simp [Act.put, hdf]) (by decide) (by simp [Act.put, hsz, s4, s6, s13]) (by first | (simp [Act.eval, Act.put, bad, hsz, s4, s6, s13]; done) | (simp [Act.eval, Act.put, hsz, s4, s6, s13]; rfl)) (by simp [Act.eval, Act.put, bad, hsz, s4, s6, s13]) (HR.out _ HBu.out) (by omega) (bsq HB3.out HBu.out) (fun wf hwf => ⟨ret_ans HE2.out, hwf⟩) ?_
   intro a' wf h
   first | (rename_i hK; exact hK _ _ (wp_ret h)) | (rename_i hK hX; exact hK _ _ (wp_ret h))
end Go.Proofs.YtonheibhbilhhaaGreat.gadget
