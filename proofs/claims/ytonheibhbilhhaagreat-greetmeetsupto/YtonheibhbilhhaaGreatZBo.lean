/- plugref's gadget: what Control answers. -/
import Derived.Test.YtonheibhbilhhaaGreatZBl
import Derived.Test.YtonheibhbilhhaaGreatZBm
import Derived.Test.YtonheibhbilhhaaGreatZBn
namespace Go.Proofs.YtonheibhbilhhaaGreat.gadget
open Go.RowKit Go.PlainAid Go.Proofs.YtonheibhbilhhaaGreat.lane Go.Proofs.YtonheibhbilhhaaGreat.desc
open Go.Proofs.YtonheibhbilhhaaGreat.setup (inS inS_iff askc good rK rN rC good_words)
set_option linter.unusedVariables false
set_option linter.unusedSimpArgs false
set_option maxRecDepth 100000 in
set_option maxHeartbeats 16000000 in
theorem rcontrol_6 (d : Dv) (c : Cf) (L : FL) (v : Value) (T : List (List Int)) (tv : Value) (s a h : Int) (q : ByteArray) (w : World) (hs : Shr w c L v T tv) (hq : q.size ≤ maxLen) (hbig : ∀ t ∈ T, t.length ≤ 17000000000000) (h1 : chkS d c T = 0) (h2 : gR s a h = true) (h3 : rC q = 0) (hkd : rK q = 6) :
  Calls Tryz.prog 18 #[shV d c v tv, gdV s a h, .string q] w fun e w' => e = .returned (ansV (ctl d c T s a h q)) ∧ Below w.heap.size w w' := by
 have H1 : Hid (chkS d c T = 0) := h1
 have H2 : Hid (gR s a h = true) := h2
 have H3 : Hid (rC q = 0) := h3
 have HK : Hid (rK q = 6) := hkd
 clear h1 h2 h3 hkd
 obtain ⟨w1, hw1, hS1, hb1⟩ := ShC.named w d c v tv
 obtain ⟨w2, hw2, hG2, hb2⟩ := gd_named w1 s a h
 obtain ⟨w3, hw3, hR3, hb3⟩ := gd_named w2 0 0 0
 have hb13 := bsq hb2 hb3
 have hb03 := bsq hb1 hb13
 have z1 : w.heap.size < w1.heap.size := (Array.getElem?_eq_some_iff.1 hS1).1
 have z2 : w1.heap.size < w2.heap.size := (Array.getElem?_eq_some_iff.1 hG2).1
 have z3 : w2.heap.size < w3.heap.size := (Array.getElem?_eq_some_iff.1 hR3).1
 have HS : Hid (∀ u : World, Below w3.heap.size w3 u → u.heap[w.heap.size]? = some (shO d c v tv)) := fun u hu => keep (keep hS1 hb13) hu
 have HG : Hid (∀ u : World, Below w3.heap.size w3 u → u.heap[w1.heap.size]? = some (gdO s a h)) := fun u hu => keep (keep hG2 hb3) hu
 have HR : Hid (∀ u : World, Below w3.heap.size w3 u → u.heap[w2.heap.size]? = some (gdO 0 0 0)) := fun u hu => keep hR3 hu
 have HB3 : Hid (Below w.heap.size w w3) := hb03
 have HSr : Hid (∀ u : World, Below w3.heap.size w3 u → Shr u c L v T tv) := fun u hu => hs.below (bsq hb03 hu)
 have HCk : Hid (Calls Tryz.prog 12 #[shV d c v tv] w3 fun e w' => e = .returned (.int .i64 (chkS d c T)) ∧ Below w3.heap.size w3 w') := rsheet_any d c L v T tv w3 (hs.below hb03) hbig
 have HRi : Hid (∀ u : World, Calls Tryz.prog 37 #[gdV s a h] u fun e w' => e = .returned (.bool (gR s a h)) ∧ Below u.heap.size u w') := gadget_any s a h
 have HRd : Hid (∀ u : World, Calls Tryz.prog 38 #[.string q] u fun e w' => e = .returned (.tuple #[setup.ask (rK q) (rN q 2) (rN q 4) (rN q 6), .int .i64 (rC q)]) ∧ Below u.heap.size u w') := setup.readAsk_any q hq
 obtain ⟨fa, fn, fcp, rfl⟩ : ∃ a n c, v = .slice a n c := by obtain ⟨a, c, h, _⟩ := hs.rc.fs.row; exact ⟨_, _, _, h⟩
 obtain ⟨ta, tn, tcp, rfl⟩ : ∃ a n c, tv = .slice a n c := by obtain ⟨a, c, h, _⟩ := hs.tx; exact ⟨_, _, _, h⟩
 obtain ⟨Y, hY⟩ : ∃ Y, ctl d c T s a h q = Y := ⟨_, rfl⟩
 have HY : Hid (ctl d c T s a h q = Y) := hY
 rw [hY]
 clear hY hs hq hb1 hb2 hb3 hb13 hb03 hS1 hG2 hR3
 have hS3 := HS.out w3 (Below.refl _ _)
 go_enter Tryz.func18, Tryz.ntmps18
 go_upto_region 1 with (fail)
 go_cut [0, 1, 9] from 20 (fun _ _ cv wx => cv = .int .i64 (chkS d c T) ∧ Hid (Below w3.heap.size w3 wx))
 case first =>
  go_wp2_with (refine wpList_load_row rfl 29 _ rfl w.heap.size rfl 29 _ (0, 0) _ hS3 Tryz.underlying29 rfl (by kernel_rfl) ?_)
  refine HCk.out.mono ?_
  rintro e wa ⟨rfl, hba⟩
  go_wp2_with fail
  go_meet
  case rel => exact ⟨rfl, hba⟩
 case rest =>
 obtain ⟨rfl, HBa⟩ := hcut
 clear HCk hS3
 rename World => wa
 obtain ⟨⟨zg, g0, g1, g2⟩, _, _, _⟩ := gd_box (HG.out wa HBa.out)
 rw [H1.out]
 go_upto_region 4 with (fail)
 go_cut [28] from 20 (fun bv wx => bv = .bool (!(gR s a h)) ∧ Hid (Below w3.heap.size w3 wx))
 case first =>
  go_wp2_with fail
  refine (HRi.out _).mono ?_
  rintro e wb ⟨rfl, hbb⟩
  go_wp2_with fail
  go_meet
  case rel => exact ⟨rfl, bsq HBa.out hbb⟩
 case rest =>
 obtain ⟨rfl, HBb⟩ := hcut
 clear HRi zg g0 g1 g2 HBa
 rename World => wb
 rw [H2.out]
 go_upto_region 6 with (fail)
 go_cut [2, 10, 11] from 20 (fun _ pv cv wx => ∃ wc : World, pv = .pointer (some ⟨wc.heap.size, 0, none⟩) ∧ cv = .int .i64 (rC q) ∧ Hid (Below w3.heap.size w3 wc) ∧ wc.alloc (askc (rK q) (rN q 2) (rN q 4) (rN q 6)) = wx)
 case first =>
  go_wp2_with fail
  refine (HRd.out _).mono ?_
  rintro e wc ⟨rfl, hbc⟩
  go_wp2_with fail
  go_meet
  case rel => exact ⟨wc, rfl, rfl, bsq HBb.out hbc, rfl⟩
 case rest =>
 rename World => wd
 obtain ⟨wc, rfl, rfl, HBc, hwd⟩ := hcut
 have hbd : Below wc.heap.size wc wd := by rw [← hwd]; exact balloc _ _
 have hA : wd.heap[wc.heap.size]? = some (askc (rK q) (rN q 2) (rN q 4) (rN q 6)) := by rw [← hwd]; exact (MapKept.heap_alloc wc _).1
 have hBd := bsq HBc.out hbd
 clear HRd HBb
 have h3 := H3.out
 have hgo := read_good h3
 have HE0 : Hid (act d c T s a h (rK q) (rN q 2) (rN q 4) (rN q 6) = Y) := (ctl_3 H1.out H2.out h3).trans HY.out
 have e3 : (rC q != 0) = false := by simpa using h3
 generalize rC q = z at *
 clear h3 HY H3
 generalize rK q = kq at *
 generalize rN q 2 = vq at *
 generalize rN q 4 = iq at *
 generalize rN q 6 = lq at *
 have HBd : Hid (Below w3.heap.size w3 wd) := hBd
 have HAd : Hid (∀ u : World, Below wd.heap.size wd u → u.heap[wc.heap.size]? = some (askc kq vq iq lq)) := fun u hu => keep hA hu
 obtain ⟨hst, hh0, hh2⟩ := gR_state H2.out
 obtain ⟨⟨gk1, gk2⟩, ⟨gv1, gv2⟩, _, ⟨gl1, gl2⟩⟩ := good_words hgo
 have hok := (chkS_ok H1.out).2.2.1
 have hT8 := (chkS_ok H1.out).2.2.2.1
 have hva : 0 ≤ c.va ∧ c.va ≤ 255 := by have := (chkC_ok hok).head.1; omega
 have HSt : Hid (∀ u : World, Below w3.heap.size w3 u → Calls Tryz.prog 39 #[.pointer (some ⟨w1.heap.size, 0, none⟩)] u fun e w' => e = .returned (ansV (bad s a h 8)) ∧ Below u.heap.size u w') := fun u hu => stall_any w1.heap.size s a h u (HG.out u hu)
 clear hwd hbd hA hBd
 have hkd := HK.out
 subst hkd
 have HE0 : Hid ((if s = 0 then bad s a h 8 else if vq = 0 then (⟨1, a, 0, noT, 0⟩ : Ans) else if vq = c.va then ⟨2, a, 0, noT, 0⟩ else bad s a h 8) = Y) := by have h := HE0.out; rw [act_6] at h; exact h
 obtain ⟨a0, a1, a2, a3⟩ := ask_box (HAd.out wd (Below.refl _ _))
 obtain ⟨⟨zg, g0, g1, g2⟩, gf0, gf1, gf2⟩ := gd_box (HG.out wd HBd.out)
 have sc12 : wd.cell? ⟨w.heap.size, 12, none⟩ = some (.int .i64 c.va) := (ShC.of (HS.out wd HBd.out)).c12
 by_cases y2 : s = 0
 ·have HE : Hid (bad s a h 8 = Y) := by have h := HE0.out; rw [if_pos y2] at h; exact h
  have y3 : (s == 0) = true := by simpa using y2
  clear HE0 y2 hst hh0 hh2
  go_upto_region 28 with (fail)
  refine wp_abs (fun a0 => a0.tmps.size = 195 ∧ (∀ h, a0.tmps[4]'h = .pointer (some ⟨w1.heap.size, 0, none⟩)) ∧ (∀ h, a0.tmps[6]'h = .pointer (some ⟨w2.heap.size, 0, none⟩)) ∧ (∀ h, a0.tmps[12]'h = .func (.func 39) #[] #[.pointer (some ⟨w1.heap.size, 0, none⟩)]) ∧ a0.defers = []) ⟨rfl, fun _ => rfl, fun _ => rfl, fun _ => rfl, rfl⟩ ?_
  rintro a0 ⟨hsz, s4, s6, s12, hdf⟩ ha0
  clear ha0
  refine wp_region_lit (l := [_, _, _, _, _, _, _, _]) ?_
  refine wpl_value (w' := wd) (.func (.func 39) #[] #[.pointer (some ⟨w1.heap.size, 0, none⟩)]) rfl (by simp [execOp, go_sem, Act.put, bad, hsz, s4, s6, s12]) ?_
  refine wpl_call 39 #[.pointer (some ⟨w1.heap.size, 0, none⟩)] rfl (by simp [execOp, go_sem, Act.put, hsz, s4, s6, s12]) ((HSt.out _ HBd.out).mono ?_)
  rintro e us ⟨rfl, hbs⟩
  have HBs : Hid (Below w3.heap.size w3 us) := bsq HBd.out hbs
  refine ⟨_, rfl, ?_⟩
  refine wpl_value (w' := us) (gdV s a h) rfl (by simp [execOp, go_sem, Act.put, bad, hsz, s4, s6, s12]) ?_
  refine wpl_value (w' := us) (.string noT) rfl (by simp [execOp, go_sem, Act.put, bad, hsz, s4, s6, s12]) ?_
  refine wpl_value (w' := us) (.int .i64 8) rfl (by simp [execOp, go_sem, Act.put, bad, hsz, s4, s6, s12]) ?_
  refine ret_tail (E := fun e w' => e = .returned (ansV Y) ∧ Below w.heap.size w w') (d := 95) (w := w) (by simp [Act.put, hsz]) (by simp [Act.put, hsz, s6]) (by simp [Act.put, hdf]) (by decide) (by simp [Act.put, hsz, s4, s6, s12]) (by first | (simp [Act.eval, Act.put, bad, hsz, s4, s6, s12]; done) | (simp [Act.eval, Act.put, hsz, s4, s6, s12]; rfl)) (by simp [Act.eval, Act.put, bad, hsz, s4, s6, s12]) (HR.out _ HBs.out) (by omega) (bsq HB3.out HBs.out) (fun wf hwf => ⟨ret_ans HE.out, hwf⟩) ?_
  intro a' wf h
  first | (rename_i hK; exact hK _ _ (wp_ret h)) | (rename_i hK hX; exact hK _ _ (wp_ret h))
 have y3 : (s == 0) = false := by simpa using y2
 by_cases y4 : vq = 0
 ·subst y4
  have HE : Hid ((⟨1, a, 0, noT, 0⟩ : Ans) = Y) := by have h := HE0.out; rw [if_neg y2, if_pos rfl] at h; exact h
  clear HE0 y2 hst hh0 hh2
  go_upto_region 31 with (fail)
  refine wp_abs (fun a0 => a0.tmps.size = 195 ∧ (∀ h, a0.tmps[4]'h = .pointer (some ⟨w1.heap.size, 0, none⟩)) ∧ (∀ h, a0.tmps[6]'h = .pointer (some ⟨w2.heap.size, 0, none⟩)) ∧ a0.defers = []) ⟨rfl, fun _ => rfl, fun _ => rfl, rfl⟩ ?_
  rintro a0 ⟨hsz, s4, s6, hdf⟩ ha0
  clear ha0
  refine wp_region_lit (l := [_, _, _, _, _, _]) ?_
  refine wpl_value (w' := wd) (.pointer (some ⟨w1.heap.size, 1, none⟩)) rfl (by simp [execOp, go_sem, Act.put, bad, hsz, s4, s6]) ?_
  refine wpl_value (w' := wd) (.int .i64 a) rfl (by simp [execOp, go_sem, Act.put, bad, hsz, s4, s6, g1]) ?_
  refine wpl_value (w' := wd) (gdV 1 a 0) rfl (by simp [execOp, go_sem, Act.put, bad, hsz, s4, s6]) ?_
  refine ret_tail (E := fun e w' => e = .returned (ansV Y) ∧ Below w.heap.size w w') (d := 104) (w := w) (by simp [Act.put, hsz]) (by simp [Act.put, hsz, s6]) (by simp [Act.put, hdf]) (by decide) (by simp [Act.put, hsz, s4, s6]) (by first | (simp [Act.eval, Act.put, bad, hsz, s4, s6]; done) | (simp [Act.eval, Act.put, hsz, s4, s6]; rfl)) (by simp [Act.eval, Act.put, bad, hsz, s4, s6]) (HR.out _ HBd.out) (by omega) (bsq HB3.out HBd.out) (fun wf hwf => ⟨ret_ans HE.out, hwf⟩) ?_
  intro a' wf h
  first | (rename_i hK; exact hK _ _ (wp_ret h)) | (rename_i hK hX; exact hK _ _ (wp_ret h))
 have y5 : (vq == 0) = false := by simpa using y4
 by_cases y6 : vq = c.va
 ·have y7 : (vq == c.va) = true := by simpa using y6
  have HE : Hid ((⟨2, a, 0, noT, 0⟩ : Ans) = Y) := by have h := HE0.out; rw [if_neg y2, if_neg y4, if_pos y6] at h; exact h
  clear HE0 y2 y4 y6 hst hh0 hh2
  go_upto_region 33 with (fail)
  refine wp_abs (fun a0 => a0.tmps.size = 195 ∧ (∀ h, a0.tmps[4]'h = .pointer (some ⟨w1.heap.size, 0, none⟩)) ∧ (∀ h, a0.tmps[6]'h = .pointer (some ⟨w2.heap.size, 0, none⟩)) ∧ a0.defers = []) ⟨rfl, fun _ => rfl, fun _ => rfl, rfl⟩ ?_
  rintro a0 ⟨hsz, s4, s6, hdf⟩ ha0
  clear ha0
  refine wp_region_lit (l := [_, _, _, _, _, _]) ?_
  refine wpl_value (w' := wd) (.pointer (some ⟨w1.heap.size, 1, none⟩)) rfl (by simp [execOp, go_sem, Act.put, bad, hsz, s4, s6]) ?_
  refine wpl_value (w' := wd) (.int .i64 a) rfl (by simp [execOp, go_sem, Act.put, bad, hsz, s4, s6, g1]) ?_
  refine wpl_value (w' := wd) (gdV 2 a 0) rfl (by simp [execOp, go_sem, Act.put, bad, hsz, s4, s6]) ?_
  refine ret_tail (E := fun e w' => e = .returned (ansV Y) ∧ Below w.heap.size w w') (d := 112) (w := w) (by simp [Act.put, hsz]) (by simp [Act.put, hsz, s6]) (by simp [Act.put, hdf]) (by decide) (by simp [Act.put, hsz, s4, s6]) (by first | (simp [Act.eval, Act.put, bad, hsz, s4, s6]; done) | (simp [Act.eval, Act.put, hsz, s4, s6]; rfl)) (by simp [Act.eval, Act.put, bad, hsz, s4, s6]) (HR.out _ HBd.out) (by omega) (bsq HB3.out HBd.out) (fun wf hwf => ⟨ret_ans HE.out, hwf⟩) ?_
  intro a' wf h
  first | (rename_i hK; exact hK _ _ (wp_ret h)) | (rename_i hK hX; exact hK _ _ (wp_ret h))
 have y7 : (vq == c.va) = false := by simpa using y6
 have HE : Hid (bad s a h 8 = Y) := by have h := HE0.out; rw [if_neg y2, if_neg y4, if_neg y6] at h; exact h
 clear HE0 y2 y4 y6 hst hh0 hh2
 go_upto_region 34 with (fail)
 refine wp_abs (fun a0 => a0.tmps.size = 195 ∧ (∀ h, a0.tmps[4]'h = .pointer (some ⟨w1.heap.size, 0, none⟩)) ∧ (∀ h, a0.tmps[6]'h = .pointer (some ⟨w2.heap.size, 0, none⟩)) ∧ (∀ h, a0.tmps[12]'h = .func (.func 39) #[] #[.pointer (some ⟨w1.heap.size, 0, none⟩)]) ∧ a0.defers = []) ⟨rfl, fun _ => rfl, fun _ => rfl, fun _ => rfl, rfl⟩ ?_
 rintro a0 ⟨hsz, s4, s6, s12, hdf⟩ ha0
 clear ha0
 refine wp_region_lit (l := [_, _, _, _, _, _, _, _]) ?_
 refine wpl_value (w' := wd) (.func (.func 39) #[] #[.pointer (some ⟨w1.heap.size, 0, none⟩)]) rfl (by simp [execOp, go_sem, Act.put, bad, hsz, s4, s6, s12]) ?_
 refine wpl_call 39 #[.pointer (some ⟨w1.heap.size, 0, none⟩)] rfl (by simp [execOp, go_sem, Act.put, hsz, s4, s6, s12]) ((HSt.out _ HBd.out).mono ?_)
 rintro e us ⟨rfl, hbs⟩
 have HBs : Hid (Below w3.heap.size w3 us) := bsq HBd.out hbs
 refine ⟨_, rfl, ?_⟩
 refine wpl_value (w' := us) (gdV s a h) rfl (by simp [execOp, go_sem, Act.put, bad, hsz, s4, s6, s12]) ?_
 refine wpl_value (w' := us) (.string noT) rfl (by simp [execOp, go_sem, Act.put, bad, hsz, s4, s6, s12]) ?_
 refine wpl_value (w' := us) (.int .i64 8) rfl (by simp [execOp, go_sem, Act.put, bad, hsz, s4, s6, s12]) ?_
 refine ret_tail (E := fun e w' => e = .returned (ansV Y) ∧ Below w.heap.size w w') (d := 115) (w := w) (by simp [Act.put, hsz]) (by simp [Act.put, hsz, s6]) (by simp [Act.put, hdf]) (by decide) (by simp [Act.put, hsz, s4, s6, s12]) (by first | (simp [Act.eval, Act.put, bad, hsz, s4, s6, s12]; done) | (simp [Act.eval, Act.put, hsz, s4, s6, s12]; rfl)) (by simp [Act.eval, Act.put, bad, hsz, s4, s6, s12]) (HR.out _ HBs.out) (by omega) (bsq HB3.out HBs.out) (fun wf hwf => ⟨ret_ans HE.out, hwf⟩) ?_
 intro a' wf h
 first | (rename_i hK; exact hK _ _ (wp_ret h)) | (rename_i hK hX; exact hK _ _ (wp_ret h))
end Go.Proofs.YtonheibhbilhhaaGreat.gadget
namespace Go.Proofs.YtonheibhbilhhaaGreat.gadget
open Go.RowKit Go.PlainAid Go.Proofs.YtonheibhbilhhaaGreat.lane Go.Proofs.YtonheibhbilhhaaGreat.desc
open Go.Proofs.YtonheibhbilhhaaGreat.setup (inS inS_iff askc good rK rN rC good_words)
set_option linter.unusedVariables false
set_option linter.unusedSimpArgs false
set_option maxRecDepth 100000 in
set_option maxHeartbeats 16000000 in
theorem rcontrol_7 (d : Dv) (c : Cf) (L : FL) (v : Value) (T : List (List Int)) (tv : Value) (s a h : Int) (q : ByteArray) (w : World) (hs : Shr w c L v T tv) (hq : q.size ≤ maxLen) (hbig : ∀ t ∈ T, t.length ≤ 17000000000000) (h1 : chkS d c T = 0) (h2 : gR s a h = true) (h3 : rC q = 0) (hkd : rK q = 7) :
  Calls Tryz.prog 18 #[shV d c v tv, gdV s a h, .string q] w fun e w' => e = .returned (ansV (ctl d c T s a h q)) ∧ Below w.heap.size w w' := by
 have H1 : Hid (chkS d c T = 0) := h1
 have H2 : Hid (gR s a h = true) := h2
 have H3 : Hid (rC q = 0) := h3
 have HK : Hid (rK q = 7) := hkd
 clear h1 h2 h3 hkd
 obtain ⟨w1, hw1, hS1, hb1⟩ := ShC.named w d c v tv
 obtain ⟨w2, hw2, hG2, hb2⟩ := gd_named w1 s a h
 obtain ⟨w3, hw3, hR3, hb3⟩ := gd_named w2 0 0 0
 have hb13 := bsq hb2 hb3
 have hb03 := bsq hb1 hb13
 have z1 : w.heap.size < w1.heap.size := (Array.getElem?_eq_some_iff.1 hS1).1
 have z2 : w1.heap.size < w2.heap.size := (Array.getElem?_eq_some_iff.1 hG2).1
 have z3 : w2.heap.size < w3.heap.size := (Array.getElem?_eq_some_iff.1 hR3).1
 have HS : Hid (∀ u : World, Below w3.heap.size w3 u → u.heap[w.heap.size]? = some (shO d c v tv)) := fun u hu => keep (keep hS1 hb13) hu
 have HG : Hid (∀ u : World, Below w3.heap.size w3 u → u.heap[w1.heap.size]? = some (gdO s a h)) := fun u hu => keep (keep hG2 hb3) hu
 have HR : Hid (∀ u : World, Below w3.heap.size w3 u → u.heap[w2.heap.size]? = some (gdO 0 0 0)) := fun u hu => keep hR3 hu
 have HB3 : Hid (Below w.heap.size w w3) := hb03
 have HSr : Hid (∀ u : World, Below w3.heap.size w3 u → Shr u c L v T tv) := fun u hu => hs.below (bsq hb03 hu)
 have HCk : Hid (Calls Tryz.prog 12 #[shV d c v tv] w3 fun e w' => e = .returned (.int .i64 (chkS d c T)) ∧ Below w3.heap.size w3 w') := rsheet_any d c L v T tv w3 (hs.below hb03) hbig
 have HRi : Hid (∀ u : World, Calls Tryz.prog 37 #[gdV s a h] u fun e w' => e = .returned (.bool (gR s a h)) ∧ Below u.heap.size u w') := gadget_any s a h
 have HRd : Hid (∀ u : World, Calls Tryz.prog 38 #[.string q] u fun e w' => e = .returned (.tuple #[setup.ask (rK q) (rN q 2) (rN q 4) (rN q 6), .int .i64 (rC q)]) ∧ Below u.heap.size u w') := setup.readAsk_any q hq
 obtain ⟨fa, fn, fcp, rfl⟩ : ∃ a n c, v = .slice a n c := by obtain ⟨a, c, h, _⟩ := hs.rc.fs.row; exact ⟨_, _, _, h⟩
 obtain ⟨ta, tn, tcp, rfl⟩ : ∃ a n c, tv = .slice a n c := by obtain ⟨a, c, h, _⟩ := hs.tx; exact ⟨_, _, _, h⟩
 obtain ⟨Y, hY⟩ : ∃ Y, ctl d c T s a h q = Y := ⟨_, rfl⟩
 have HY : Hid (ctl d c T s a h q = Y) := hY
 rw [hY]
 clear hY hs hq hb1 hb2 hb3 hb13 hb03 hS1 hG2 hR3
 have hS3 := HS.out w3 (Below.refl _ _)
 go_enter Tryz.func18, Tryz.ntmps18
 go_upto_region 1 with (fail)
 go_cut [0, 1, 9] from 20 (fun _ _ cv wx => cv = .int .i64 (chkS d c T) ∧ Hid (Below w3.heap.size w3 wx))
 case first =>
  go_wp2_with (refine wpList_load_row rfl 29 _ rfl w.heap.size rfl 29 _ (0, 0) _ hS3 Tryz.underlying29 rfl (by kernel_rfl) ?_)
  refine HCk.out.mono ?_
  rintro e wa ⟨rfl, hba⟩
  go_wp2_with fail
  go_meet
  case rel => exact ⟨rfl, hba⟩
 case rest =>
 obtain ⟨rfl, HBa⟩ := hcut
 clear HCk hS3
 rename World => wa
 obtain ⟨⟨zg, g0, g1, g2⟩, _, _, _⟩ := gd_box (HG.out wa HBa.out)
 rw [H1.out]
 go_upto_region 4 with (fail)
 go_cut [28] from 20 (fun bv wx => bv = .bool (!(gR s a h)) ∧ Hid (Below w3.heap.size w3 wx))
 case first =>
  go_wp2_with fail
  refine (HRi.out _).mono ?_
  rintro e wb ⟨rfl, hbb⟩
  go_wp2_with fail
  go_meet
  case rel => exact ⟨rfl, bsq HBa.out hbb⟩
 case rest =>
 obtain ⟨rfl, HBb⟩ := hcut
 clear HRi zg g0 g1 g2 HBa
 rename World => wb
 rw [H2.out]
 go_upto_region 6 with (fail)
 go_cut [2, 10, 11] from 20 (fun _ pv cv wx => ∃ wc : World, pv = .pointer (some ⟨wc.heap.size, 0, none⟩) ∧ cv = .int .i64 (rC q) ∧ Hid (Below w3.heap.size w3 wc) ∧ wc.alloc (askc (rK q) (rN q 2) (rN q 4) (rN q 6)) = wx)
 case first =>
  go_wp2_with fail
  refine (HRd.out _).mono ?_
  rintro e wc ⟨rfl, hbc⟩
  go_wp2_with fail
  go_meet
  case rel => exact ⟨wc, rfl, rfl, bsq HBb.out hbc, rfl⟩
 case rest =>
 rename World => wd
 obtain ⟨wc, rfl, rfl, HBc, hwd⟩ := hcut
 have hbd : Below wc.heap.size wc wd := by rw [← hwd]; exact balloc _ _
 have hA : wd.heap[wc.heap.size]? = some (askc (rK q) (rN q 2) (rN q 4) (rN q 6)) := by rw [← hwd]; exact (MapKept.heap_alloc wc _).1
 have hBd := bsq HBc.out hbd
 clear HRd HBb
 have h3 := H3.out
 have hgo := read_good h3
 have HE0 : Hid (act d c T s a h (rK q) (rN q 2) (rN q 4) (rN q 6) = Y) := (ctl_3 H1.out H2.out h3).trans HY.out
 have e3 : (rC q != 0) = false := by simpa using h3
 generalize rC q = z at *
 clear h3 HY H3
 generalize rK q = kq at *
 generalize rN q 2 = vq at *
 generalize rN q 4 = iq at *
 generalize rN q 6 = lq at *
 have HBd : Hid (Below w3.heap.size w3 wd) := hBd
 have HAd : Hid (∀ u : World, Below wd.heap.size wd u → u.heap[wc.heap.size]? = some (askc kq vq iq lq)) := fun u hu => keep hA hu
 obtain ⟨hst, hh0, hh2⟩ := gR_state H2.out
 obtain ⟨⟨gk1, gk2⟩, ⟨gv1, gv2⟩, _, ⟨gl1, gl2⟩⟩ := good_words hgo
 have hok := (chkS_ok H1.out).2.2.1
 have hT8 := (chkS_ok H1.out).2.2.2.1
 have hva : 0 ≤ c.va ∧ c.va ≤ 255 := by have := (chkC_ok hok).head.1; omega
 have HSt : Hid (∀ u : World, Below w3.heap.size w3 u → Calls Tryz.prog 39 #[.pointer (some ⟨w1.heap.size, 0, none⟩)] u fun e w' => e = .returned (ansV (bad s a h 8)) ∧ Below u.heap.size u w') := fun u hu => stall_any w1.heap.size s a h u (HG.out u hu)
 clear hwd hbd hA hBd
 have hkd := HK.out
 subst hkd
 have HE0 : Hid ((if s = 0 then bad s a h 8 else if s = 1 then (⟨s, a, h, strOfNums [0], 0⟩ : Ans) else ⟨s, a, h, strOfNums [c.va], 0⟩) = Y) := by have h := HE0.out; rw [act_7] at h; exact h
 obtain ⟨a0, a1, a2, a3⟩ := ask_box (HAd.out wd (Below.refl _ _))
 obtain ⟨⟨zg, g0, g1, g2⟩, gf0, gf1, gf2⟩ := gd_box (HG.out wd HBd.out)
 have sc12 : wd.cell? ⟨w.heap.size, 12, none⟩ = some (.int .i64 c.va) := (ShC.of (HS.out wd HBd.out)).c12
 by_cases y2 : s = 0
 ·have HE : Hid (bad s a h 8 = Y) := by have h := HE0.out; rw [if_pos y2] at h; exact h
  have y3 : (s == 0) = true := by simpa using y2
  clear HE0 y2 hst hh0 hh2
  go_upto_region 37 with (fail)
  refine wp_abs (fun a0 => a0.tmps.size = 195 ∧ (∀ h, a0.tmps[4]'h = .pointer (some ⟨w1.heap.size, 0, none⟩)) ∧ (∀ h, a0.tmps[6]'h = .pointer (some ⟨w2.heap.size, 0, none⟩)) ∧ (∀ h, a0.tmps[12]'h = .func (.func 39) #[] #[.pointer (some ⟨w1.heap.size, 0, none⟩)]) ∧ a0.defers = []) ⟨rfl, fun _ => rfl, fun _ => rfl, fun _ => rfl, rfl⟩ ?_
  rintro a0 ⟨hsz, s4, s6, s12, hdf⟩ ha0
  clear ha0
  refine wp_region_lit (l := [_, _, _, _, _, _, _, _]) ?_
  refine wpl_value (w' := wd) (.func (.func 39) #[] #[.pointer (some ⟨w1.heap.size, 0, none⟩)]) rfl (by simp [execOp, go_sem, Act.put, bad, hsz, s4, s6, s12]) ?_
  refine wpl_call 39 #[.pointer (some ⟨w1.heap.size, 0, none⟩)] rfl (by simp [execOp, go_sem, Act.put, hsz, s4, s6, s12]) ((HSt.out _ HBd.out).mono ?_)
  rintro e us ⟨rfl, hbs⟩
  have HBs : Hid (Below w3.heap.size w3 us) := bsq HBd.out hbs
  refine ⟨_, rfl, ?_⟩
  refine wpl_value (w' := us) (gdV s a h) rfl (by simp [execOp, go_sem, Act.put, bad, hsz, s4, s6, s12]) ?_
  refine wpl_value (w' := us) (.string noT) rfl (by simp [execOp, go_sem, Act.put, bad, hsz, s4, s6, s12]) ?_
  refine wpl_value (w' := us) (.int .i64 8) rfl (by simp [execOp, go_sem, Act.put, bad, hsz, s4, s6, s12]) ?_
  refine ret_tail (E := fun e w' => e = .returned (ansV Y) ∧ Below w.heap.size w w') (d := 125) (w := w) (by simp [Act.put, hsz]) (by simp [Act.put, hsz, s6]) (by simp [Act.put, hdf]) (by decide) (by simp [Act.put, hsz, s4, s6, s12]) (by first | (simp [Act.eval, Act.put, bad, hsz, s4, s6, s12]; done) | (simp [Act.eval, Act.put, hsz, s4, s6, s12]; rfl)) (by simp [Act.eval, Act.put, bad, hsz, s4, s6, s12]) (HR.out _ HBs.out) (by omega) (bsq HB3.out HBs.out) (fun wf hwf => ⟨ret_ans HE.out, hwf⟩) ?_
  intro a' wf h
  first | (rename_i hK; exact hK _ _ (wp_ret h)) | (rename_i hK hX; exact hK _ _ (wp_ret h))
 have y3 : (s == 0) = false := by simpa using y2
 obtain ⟨X, hX1, hX2⟩ : ∃ X : Int, c.va * (s - 1) = X ∧ Hid (0 ≤ X ∧ X ≤ 255 ∧ (⟨s, a, h, strOfNums [X], 0⟩ : Ans) = Y) := by
  have h := HE0.out
  rw [if_neg y2] at h
  by_cases y4 : s = 1
  ·refine ⟨0, by rw [y4]; omega, by omega, by omega, ?_⟩
   rw [if_pos y4] at h; exact h
  ·have y5 : s = 2 := by omega
   refine ⟨c.va, by rw [y5]; omega, hva.1, hva.2, ?_⟩
   rw [if_neg y4] at h; exact h
 obtain ⟨X0, X1, hXY⟩ := hX2.out
 have HE : Hid ((⟨s, a, h, strOfNums [X], 0⟩ : Ans) = Y) := hXY
 obtain ⟨we, hwe⟩ : ∃ we, wd.alloc (.cells #[.int .i64 X] 3) = we := ⟨_, rfl⟩
 have hbe : Below wd.heap.size wd we := by rw [← hwe]; exact balloc _ _
 have HBO : Hid (Calls Tryz.prog 41 #[.slice (some ⟨wd.heap.size, 0, none⟩) 1 1] we fun e w' => e = .returned (.tuple #[.string (strOfNums [X]), .bool true]) ∧ Below we.heap.size we w') := by
  have hb := bytesOf_any _ [X] _ (Rig.new wd [X] 3 (by simp [maxLen])) (by simp)
  have hall : allB 255 [X] = true := by simp [allB, inB]; omega
  rw [bof_ok hall, hall] at hb
  show Calls _ _ _ _ _
  rw [← hwe]
  exact hb
 have HBe : Hid (Below w3.heap.size w3 we) := bsq HBd.out hbe
 have hs1 : 1 ≤ s ∧ s ≤ 2 := by omega
 generalize strOfNums [X] = SX at *
 clear HE0 y2 hX2 hXY hbe
 go_upto_region 38 with (fail)
 go_cut [15] from 20 (fun tw wx => tw = .string SX ∧ Hid (Below w3.heap.size w3 wx))
 case first =>
  go_wp2_with fail
  refine HBO.out.mono ?_
  rintro e u ⟨rfl, hbu⟩
  go_wp2_with fail
  go_meet
  case rel => exact ⟨rfl, bsq HBe.out hbu⟩
 case rest =>
 obtain ⟨rfl, HBu⟩ := hcut
 rename World => u
 clear zg g0 g1 g2 gf0 gf1 gf2 HBO
 obtain ⟨⟨zg, g0, g1, g2⟩, gf0, gf1, gf2⟩ := gd_box (HG.out u HBu.out)
 go_upto_region 39 with (fail)
 refine wp_abs (fun a0 => a0.tmps.size = 195 ∧ (∀ h, a0.tmps[4]'h = .pointer (some ⟨w1.heap.size, 0, none⟩)) ∧ (∀ h, a0.tmps[6]'h = .pointer (some ⟨w2.heap.size, 0, none⟩)) ∧ (∀ h, a0.tmps[15]'h = .string SX) ∧ a0.defers = []) ⟨rfl, fun _ => rfl, fun _ => rfl, fun _ => rfl, rfl⟩ ?_
 rintro a0 ⟨hsz, s4, s6, s15, hdf⟩ ha0
 clear ha0
 refine wp_region_lit (l := [_, _, _, _, _]) ?_
 refine wpl_value (w' := u) (gdV s a h) rfl (by simp [execOp, go_sem, Act.put, bad, hsz, s4, s6, s15, g0, g1, g2, zg]) ?_
 refine wpl_value (w' := u) (.string SX) rfl (by simp [execOp, go_sem, Act.put, bad, hsz, s4, s6, s15]) ?_
 refine ret_tail (E := fun e w' => e = .returned (ansV Y) ∧ Below w.heap.size w w') (d := 140) (w := w) (by simp [Act.put, hsz]) (by simp [Act.put, hsz, s6]) (by simp [Act.put, hdf]) (by decide) (by simp [Act.put, hsz, s4, s6, s15]) (by first | (simp [Act.eval, Act.put, bad, hsz, s4, s6, s15]; done) | (simp [Act.eval, Act.put, hsz, s4, s6, s15]; rfl)) (by simp [Act.eval, Act.put, bad, hsz, s4, s6, s15]) (HR.out _ HBu.out) (by omega) (bsq HB3.out HBu.out) (fun wf hwf => ⟨ret_ans HE.out, hwf⟩) ?_
 intro a' wf h
 first | (rename_i hK; exact hK _ _ (wp_ret h)) | (rename_i hK hX; exact hK _ _ (wp_ret h))
end Go.Proofs.YtonheibhbilhhaaGreat.gadget
namespace Go.Proofs.YtonheibhbilhhaaGreat.gadget
open Go.RowKit Go.PlainAid Go.Proofs.YtonheibhbilhhaaGreat.lane Go.Proofs.YtonheibhbilhhaaGreat.desc
open Go.Proofs.YtonheibhbilhhaaGreat.setup (inS inS_iff askc good rK rN rC good_words)
set_option linter.unusedVariables false
set_option linter.unusedSimpArgs false
set_option maxRecDepth 100000 in
set_option maxHeartbeats 16000000 in
theorem rcontrol_8 (d : Dv) (c : Cf) (L : FL) (v : Value) (T : List (List Int)) (tv : Value) (s a h : Int) (q : ByteArray) (w : World) (hs : Shr w c L v T tv) (hq : q.size ≤ maxLen) (hbig : ∀ t ∈ T, t.length ≤ 17000000000000) (h1 : chkS d c T = 0) (h2 : gR s a h = true) (h3 : rC q = 0) (hkd : 8 ≤ rK q) :
  Calls Tryz.prog 18 #[shV d c v tv, gdV s a h, .string q] w fun e w' => e = .returned (ansV (ctl d c T s a h q)) ∧ Below w.heap.size w w' := by
 have H1 : Hid (chkS d c T = 0) := h1
 have H2 : Hid (gR s a h = true) := h2
 have H3 : Hid (rC q = 0) := h3
 have HK : Hid (8 ≤ rK q) := hkd
 clear h1 h2 h3 hkd
 obtain ⟨w1, hw1, hS1, hb1⟩ := ShC.named w d c v tv
 obtain ⟨w2, hw2, hG2, hb2⟩ := gd_named w1 s a h
 obtain ⟨w3, hw3, hR3, hb3⟩ := gd_named w2 0 0 0
 have hb13 := bsq hb2 hb3
 have hb03 := bsq hb1 hb13
 have z1 : w.heap.size < w1.heap.size := (Array.getElem?_eq_some_iff.1 hS1).1
 have z2 : w1.heap.size < w2.heap.size := (Array.getElem?_eq_some_iff.1 hG2).1
 have z3 : w2.heap.size < w3.heap.size := (Array.getElem?_eq_some_iff.1 hR3).1
 have HS : Hid (∀ u : World, Below w3.heap.size w3 u → u.heap[w.heap.size]? = some (shO d c v tv)) := fun u hu => keep (keep hS1 hb13) hu
 have HG : Hid (∀ u : World, Below w3.heap.size w3 u → u.heap[w1.heap.size]? = some (gdO s a h)) := fun u hu => keep (keep hG2 hb3) hu
 have HR : Hid (∀ u : World, Below w3.heap.size w3 u → u.heap[w2.heap.size]? = some (gdO 0 0 0)) := fun u hu => keep hR3 hu
 have HB3 : Hid (Below w.heap.size w w3) := hb03
 have HSr : Hid (∀ u : World, Below w3.heap.size w3 u → Shr u c L v T tv) := fun u hu => hs.below (bsq hb03 hu)
 have HCk : Hid (Calls Tryz.prog 12 #[shV d c v tv] w3 fun e w' => e = .returned (.int .i64 (chkS d c T)) ∧ Below w3.heap.size w3 w') := rsheet_any d c L v T tv w3 (hs.below hb03) hbig
 have HRi : Hid (∀ u : World, Calls Tryz.prog 37 #[gdV s a h] u fun e w' => e = .returned (.bool (gR s a h)) ∧ Below u.heap.size u w') := gadget_any s a h
 have HRd : Hid (∀ u : World, Calls Tryz.prog 38 #[.string q] u fun e w' => e = .returned (.tuple #[setup.ask (rK q) (rN q 2) (rN q 4) (rN q 6), .int .i64 (rC q)]) ∧ Below u.heap.size u w') := setup.readAsk_any q hq
 obtain ⟨fa, fn, fcp, rfl⟩ : ∃ a n c, v = .slice a n c := by obtain ⟨a, c, h, _⟩ := hs.rc.fs.row; exact ⟨_, _, _, h⟩
 obtain ⟨ta, tn, tcp, rfl⟩ : ∃ a n c, tv = .slice a n c := by obtain ⟨a, c, h, _⟩ := hs.tx; exact ⟨_, _, _, h⟩
 obtain ⟨Y, hY⟩ : ∃ Y, ctl d c T s a h q = Y := ⟨_, rfl⟩
 have HY : Hid (ctl d c T s a h q = Y) := hY
 rw [hY]
 clear hY hs hq hb1 hb2 hb3 hb13 hb03 hS1 hG2 hR3
 have hS3 := HS.out w3 (Below.refl _ _)
 go_enter Tryz.func18, Tryz.ntmps18
 go_upto_region 1 with (fail)
 go_cut [0, 1, 9] from 20 (fun _ _ cv wx => cv = .int .i64 (chkS d c T) ∧ Hid (Below w3.heap.size w3 wx))
 case first =>
  go_wp2_with (refine wpList_load_row rfl 29 _ rfl w.heap.size rfl 29 _ (0, 0) _ hS3 Tryz.underlying29 rfl (by kernel_rfl) ?_)
  refine HCk.out.mono ?_
  rintro e wa ⟨rfl, hba⟩
  go_wp2_with fail
  go_meet
  case rel => exact ⟨rfl, hba⟩
 case rest =>
 obtain ⟨rfl, HBa⟩ := hcut
 clear HCk hS3
 rename World => wa
 obtain ⟨⟨zg, g0, g1, g2⟩, _, _, _⟩ := gd_box (HG.out wa HBa.out)
 rw [H1.out]
 go_upto_region 4 with (fail)
 go_cut [28] from 20 (fun bv wx => bv = .bool (!(gR s a h)) ∧ Hid (Below w3.heap.size w3 wx))
 case first =>
  go_wp2_with fail
  refine (HRi.out _).mono ?_
  rintro e wb ⟨rfl, hbb⟩
  go_wp2_with fail
  go_meet
  case rel => exact ⟨rfl, bsq HBa.out hbb⟩
 case rest =>
 obtain ⟨rfl, HBb⟩ := hcut
 clear HRi zg g0 g1 g2 HBa
 rename World => wb
 rw [H2.out]
 go_upto_region 6 with (fail)
 go_cut [2, 10, 11] from 20 (fun _ pv cv wx => ∃ wc : World, pv = .pointer (some ⟨wc.heap.size, 0, none⟩) ∧ cv = .int .i64 (rC q) ∧ Hid (Below w3.heap.size w3 wc) ∧ wc.alloc (askc (rK q) (rN q 2) (rN q 4) (rN q 6)) = wx)
 case first =>
  go_wp2_with fail
  refine (HRd.out _).mono ?_
  rintro e wc ⟨rfl, hbc⟩
  go_wp2_with fail
  go_meet
  case rel => exact ⟨wc, rfl, rfl, bsq HBb.out hbc, rfl⟩
 case rest =>
 rename World => wd
 obtain ⟨wc, rfl, rfl, HBc, hwd⟩ := hcut
 have hbd : Below wc.heap.size wc wd := by rw [← hwd]; exact balloc _ _
 have hA : wd.heap[wc.heap.size]? = some (askc (rK q) (rN q 2) (rN q 4) (rN q 6)) := by rw [← hwd]; exact (MapKept.heap_alloc wc _).1
 have hBd := bsq HBc.out hbd
 clear HRd HBb
 have h3 := H3.out
 have hgo := read_good h3
 have HE0 : Hid (act d c T s a h (rK q) (rN q 2) (rN q 4) (rN q 6) = Y) := (ctl_3 H1.out H2.out h3).trans HY.out
 have e3 : (rC q != 0) = false := by simpa using h3
 generalize rC q = z at *
 clear h3 HY H3
 generalize rK q = kq at *
 generalize rN q 2 = vq at *
 generalize rN q 4 = iq at *
 generalize rN q 6 = lq at *
 have HBd : Hid (Below w3.heap.size w3 wd) := hBd
 have HAd : Hid (∀ u : World, Below wd.heap.size wd u → u.heap[wc.heap.size]? = some (askc kq vq iq lq)) := fun u hu => keep hA hu
 obtain ⟨hst, hh0, hh2⟩ := gR_state H2.out
 obtain ⟨⟨gk1, gk2⟩, ⟨gv1, gv2⟩, _, ⟨gl1, gl2⟩⟩ := good_words hgo
 have hok := (chkS_ok H1.out).2.2.1
 have hT8 := (chkS_ok H1.out).2.2.2.1
 have hva : 0 ≤ c.va ∧ c.va ≤ 255 := by have := (chkC_ok hok).head.1; omega
 have HSt : Hid (∀ u : World, Below w3.heap.size w3 u → Calls Tryz.prog 39 #[.pointer (some ⟨w1.heap.size, 0, none⟩)] u fun e w' => e = .returned (ansV (bad s a h 8)) ∧ Below u.heap.size u w') := fun u hu => stall_any w1.heap.size s a h u (HG.out u hu)
 clear hwd hbd hA hBd
 have q8 := HK.out
 have HE : Hid (bad s a h 12 = Y) := by have h := HE0.out; rw [act_8 _ _ _ _ _ _ _ _ _ _ q8] at h; exact h
 have b1 : (kq == 1) = false := by simp; omega
 have b2 : (kq == 2) = false := by simp; omega
 have b3 : (kq == 3) = false := by simp; omega
 have b4 : (kq == 4) = false := by simp; omega
 have b5 : (kq == 5) = false := by simp; omega
 have b6 : (kq == 6) = false := by simp; omega
 have b7 : (kq == 7) = false := by simp; omega
 clear q8 gk1 gk2 HK
 obtain ⟨a0, a1, a2, a3⟩ := ask_box (HAd.out wd (Below.refl _ _))
 obtain ⟨⟨zg, g0, g1, g2⟩, gf0, gf1, gf2⟩ := gd_box (HG.out wd HBd.out)
 go_upto_region 51 with (fail)
 refine wp_abs (fun a0 => a0.tmps.size = 195 ∧ (∀ h, a0.tmps[4]'h = .pointer (some ⟨w1.heap.size, 0, none⟩)) ∧ (∀ h, a0.tmps[6]'h = .pointer (some ⟨w2.heap.size, 0, none⟩)) ∧ a0.defers = []) ⟨rfl, fun _ => rfl, fun _ => rfl, rfl⟩ ?_
 rintro a0 ⟨hsz, s4, s6, hdf⟩ ha0
 clear ha0
 refine wp_region_lit (l := [_, _, _, _]) ?_
 refine wpl_value (w' := wd) (gdV s a h) rfl (by simp [execOp, go_sem, Act.put, bad, hsz, s4, s6, g0, g1, g2, zg]) ?_
 refine ret_tail (E := fun e w' => e = .returned (ansV Y) ∧ Below w.heap.size w w') (d := 194) (w := w) (by simp [Act.put, hsz]) (by simp [Act.put, hsz, s6]) (by simp [Act.put, hdf]) (by decide) (by simp [Act.put, hsz, s4, s6]) (by first | (simp [Act.eval, Act.put, bad, hsz, s4, s6]; done) | (simp [Act.eval, Act.put, hsz, s4, s6]; rfl)) (by simp [Act.eval, Act.put, bad, hsz, s4, s6]) (HR.out _ HBd.out) (by omega) (bsq HB3.out HBd.out) (fun wf hwf => ⟨ret_ans HE.out, hwf⟩) ?_
 intro a' wf h
 first | (rename_i hK; exact hK _ _ (wp_ret h)) | (rename_i hK hX; exact hK _ _ (wp_ret h))
end Go.Proofs.YtonheibhbilhhaaGreat.gadget
namespace Go.Proofs.YtonheibhbilhhaaGreat.gadget
open Go.RowKit Go.PlainAid Go.Proofs.YtonheibhbilhhaaGreat.lane Go.Proofs.YtonheibhbilhhaaGreat.desc
open Go.Proofs.YtonheibhbilhhaaGreat.setup (rK rN rC good_words)
set_option linter.unusedVariables false
theorem rcontrol_any (d : Dv) (c : Cf) (L : FL) (v : Value) (T : List (List Int)) (tv : Value) (s a h : Int) (q : ByteArray) (w : World) (hs : Shr w c L v T tv) (hq : q.size ≤ maxLen) (hbig : ∀ t ∈ T, t.length ≤ 17000000000000) :
  Calls Tryz.prog 18 #[shV d c v tv, gdV s a h, .string q] w fun e w' => e = .returned (ansV (ctl d c T s a h q)) ∧ Below w.heap.size w w' := by
 by_cases hx : chkS d c T = 0 ∧ gR s a h = true ∧ rC q = 0
 ·obtain ⟨h1, h2, h3⟩ := hx
  obtain ⟨⟨k1, k2⟩, _⟩ := good_words (read_good h3)
  by_cases q1 : rK q = 1
  ·exact rcontrol_1 d c L v T tv s a h q w hs hq hbig h1 h2 h3 q1
  by_cases q2 : rK q = 2
  ·exact rcontrol_2 d c L v T tv s a h q w hs hq hbig h1 h2 h3 q2
  by_cases q3 : rK q = 3
  ·exact rcontrol_3 d c L v T tv s a h q w hs hq hbig h1 h2 h3 q3
  by_cases q4 : rK q = 4
  ·exact rcontrol_4 d c L v T tv s a h q w hs hq hbig h1 h2 h3 q4
  by_cases q5 : rK q = 5
  ·exact rcontrol_5 d c L v T tv s a h q w hs hq hbig h1 h2 h3 q5
  by_cases q6 : rK q = 6
  ·exact rcontrol_6 d c L v T tv s a h q w hs hq hbig h1 h2 h3 q6
  by_cases q7 : rK q = 7
  ·exact rcontrol_7 d c L v T tv s a h q w hs hq hbig h1 h2 h3 q7
  exact rcontrol_8 d c L v T tv s a h q w hs hq hbig h1 h2 h3 (by omega)
 ·exact rcontrol_bad d c L v T tv s a h q w hs hq hbig hx
end Go.Proofs.YtonheibhbilhhaaGreat.gadget
