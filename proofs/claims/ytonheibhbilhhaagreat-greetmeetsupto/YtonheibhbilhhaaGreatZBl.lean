/- plugref's gadget: what Control answers. -/
import Derived.Test.YtonheibhbilhhaaGreatZBk
import Derived.Test.YtonheibhbilhhaaGreatZAp
import Derived.Test.YtonheibhbilhhaaGreatZBi
namespace Go.Proofs.YtonheibhbilhhaaGreat.gadget
open Go.RowKit Go.PlainAid Go.Proofs.YtonheibhbilhhaaGreat.lane Go.Proofs.YtonheibhbilhhaaGreat.desc
open Go.Proofs.YtonheibhbilhhaaGreat.setup (inS inS_iff askc good rK rN rC good_words)
set_option linter.unusedVariables false
set_option linter.unusedSimpArgs false
set_option maxHeartbeats 1000000 in
theorem stall_any (G : Nat) (s a h : Int) (w : World) (hG : w.heap[G]? = some (gdO s a h)) :
  Calls Tryz.prog 39 #[.pointer (some ⟨G, 0, none⟩)] w fun e w' => e = .returned (ansV (bad s a h 8)) ∧ Below w.heap.size w w' := by
 obtain ⟨⟨zg, g0, g1, g2⟩, _, _, _⟩ := gd_box hG
 clear hG
 go_enter Tryz.func39, Tryz.ntmps39
 go_wp2
 exact bodyPost_ret (v := ansV (bad s a h 8)) (by simp [results, Tryz.results39, go_sem, bad]) rfl ⟨rfl, balloc _ _⟩
theorem wpl_value {P : Program} {ops : Array Oper} {Q : Exit → Act → World → Prop} {o : Oper} {rest : List Oper} {a : Act} {w w' : World} (v : Value) (hg : o.guard = none) (hrun : (execOp a.eval o).run P w = .ok (.value v) w')
  (h : wpList P ops Q rest (a.put o.dst v) w') : wpList P ops Q (o :: rest) a w :=
 wpList_plain hg fun K hK => by unfold Oper.wp; rw [hrun]; exact hK _ _ h
theorem wpl_skip {P : Program} {ops : Array Oper} {Q : Exit → Act → World → Prop} {o : Oper} {rest : List Oper} {a : Act} {w w' : World} (hg : o.guard = none) (hrun : (execOp a.eval o).run P w = .ok .skip w')
  (h : wpList P ops Q rest (a.put o.dst undef) w') : wpList P ops Q (o :: rest) a w :=
 wpList_plain hg fun K hK => by unfold Oper.wp; rw [hrun]; exact hK _ _ h
theorem wpl_call {P : Program} {ops : Array Oper} {Q : Exit → Act → World → Prop} {o : Oper} {rest : List Oper} {a : Act} {w : World} (f : FuncId) (args : Array Value) (hg : o.guard = none) (hrun : (execOp a.eval o).run P w = .ok (.enter f args) w)
  (hc : Calls P f args w fun e w' => ∃ v, e = .returned v ∧ wpList P ops Q rest (a.put o.dst v) w') : wpList P ops Q (o :: rest) a w :=
 wpList_plain hg fun K hK => by
  unfold Oper.wp
  rw [hrun]
  simp only [Oper.upon]
  refine hc.mono ?_
  rintro e w' ⟨v, rfl, h⟩
  exact hK _ _ h
theorem ret_tail {ops : Array Oper} {d : Nat} {tx cx : Operand} {t2 t3 t4 : TypeId} {p2 p3 p4 : String} {e2 e3 e4 : Array Edge} {Q : Exit → Act → World → Prop} {a : Act} {w u : World} {R : Nat} {r0 r1 r2 s' a' h' n : Int} {t : ByteArray} {E : Ending → World → Prop}
  (hsz : a.tmps.size = 195) (g6 : ∀ h, a.tmps[6]'h = .pointer (some ⟨R, 0, none⟩)) (hdf : a.defers = []) (hd1 : d < 195) (hd : ∀ h, a.tmps[d]'h = gdV s' a' h') (ht : a.eval tx = .string t) (hn : (a.put (some 7) (.string t)).eval cx = .int .i64 n)
  (hR : u.heap[R]? = some (gdO r0 r1 r2)) (hw : w.heap.size ≤ R) (hb : Below w.heap.size w u)
  (hE : ∀ wf, Below w.heap.size w wf → E (.returned (ansV ⟨s', a', h', t, n⟩)) wf)
  (hQ : ∀ a' wf, bodyPost Tryz.prog Tryz.f18 E .ret a' wf → Q .normal a' wf) :
  wpList Tryz.prog ops Q [{ dst := none, op := .store 35 (.tmp 6) (.tmp d), type := t2, pos := p2, after := e2, guard := none }, { dst := some 7, op := .assign tx, type := t3, pos := p3, after := e3, guard := none }, { dst := some 8, op := .assign cx, type := t4, pos := p4, after := e4, guard := none }] a u := by
 obtain ⟨⟨zr, z0, z1, z2⟩, f0, f1, f2⟩ := gd_box hR
 obtain ⟨uf, huf, hXf, hBf⟩ := gd_put u R r0 r1 r2 s' a' h' hR
 obtain ⟨⟨zf, x0, x1, x2⟩, _⟩ := gd_box hXf
 refine wpl_skip (w' := uf) rfl (by rw [← huf]; simp [execOp, go_sem, hsz, g6, hd1, hd, zr, z0, z1, z2, f0, f1, f2]) ?_
 refine wpl_value (w' := uf) (.string t) rfl ?_ ?_
 ·show (execOp a.eval _).run _ _ = _
  simp only [execOp, ht]
  simp [go_sem]
 refine wpl_value (w' := uf) (.int .i64 n) rfl ?_ ?_
 ·show (execOp (a.put (some 7) (.string t)).eval _).run _ _ = _
  simp only [execOp, hn]
  simp [go_sem]
 refine (hQ _ _ (bodyPost_ret (v := ansV ⟨s', a', h', t, n⟩) ?_ ?_ (hE uf (hBf _ _ hw hb))))
 ·simp [results, Tryz.results18, go_sem, hsz, g6, Act.put, zf, x0, x1, x2]
 ·simp [Act.put, hdf]
end Go.Proofs.YtonheibhbilhhaaGreat.gadget
namespace Go.Proofs.YtonheibhbilhhaaGreat.gadget
open Go.RowKit Go.PlainAid Go.Proofs.YtonheibhbilhhaaGreat.lane Go.Proofs.YtonheibhbilhhaaGreat.desc
open Go.Proofs.YtonheibhbilhhaaGreat.setup (inS inS_iff askc good rK rN rC good_words)
set_option linter.unusedVariables false
set_option linter.unusedSimpArgs false
set_option maxRecDepth 100000 in
set_option maxHeartbeats 16000000 in
theorem rcontrol_bad (d : Dv) (c : Cf) (L : FL) (v : Value) (T : List (List Int)) (tv : Value) (s a h : Int) (q : ByteArray) (w : World) (hs : Shr w c L v T tv) (hq : q.size ≤ maxLen) (hbig : ∀ t ∈ T, t.length ≤ 17000000000000) (hx : ¬ (chkS d c T = 0 ∧ gR s a h = true ∧ rC q = 0)) :
  Calls Tryz.prog 18 #[shV d c v tv, gdV s a h, .string q] w fun e w' => e = .returned (ansV (ctl d c T s a h q)) ∧ Below w.heap.size w w' := by
 obtain ⟨w1, hw1, hS1, hb1⟩ := ShC.named w d c v tv
 obtain ⟨w2, hw2, hG2, hb2⟩ := gd_named w1 s a h
 obtain ⟨w3, hw3, hR3, hb3⟩ := gd_named w2 0 0 0
 have hb13 := bsq hb2 hb3
 have hb03 := bsq hb1 hb13
 have z1 : w.heap.size < w1.heap.size := (Array.getElem?_eq_some_iff.1 hS1).1
 have z2 : w1.heap.size < w2.heap.size := (Array.getElem?_eq_some_iff.1 hG2).1
 have z3 : w2.heap.size < w3.heap.size := (Array.getElem?_eq_some_iff.1 hR3).1
 have HS : Hid (∀ u : World, Below w3.heap.size w3 u → u.heap[w.heap.size]? = some (shO d c v tv)) := fun u hu => keep (keep hS1 hb13) hu
 have HG : Hid (∀ u : World, Below w3.heap.size w3 u → u.heap[w1.heap.size]? = some (gdO s a h)) := fun u hu => keep (keep hG2 hb3) hu
 have HR : Hid (∀ u : World, Below w3.heap.size w3 u → u.heap[w2.heap.size]? = some (gdO 0 0 0)) := fun u hu => keep hR3 hu
 have HB3 : Hid (Below w.heap.size w w3) := hb03
 have HSr : Hid (∀ u : World, Below w3.heap.size w3 u → Shr u c L v T tv) := fun u hu => hs.below (bsq hb03 hu)
 have HCk : Hid (Calls Tryz.prog 12 #[shV d c v tv] w3 fun e w' => e = .returned (.int .i64 (chkS d c T)) ∧ Below w3.heap.size w3 w') := rsheet_any d c L v T tv w3 (hs.below hb03) hbig
 have HRi : Hid (∀ u : World, Calls Tryz.prog 37 #[gdV s a h] u fun e w' => e = .returned (.bool (gR s a h)) ∧ Below u.heap.size u w') := gadget_any s a h
 have HRd : Hid (∀ u : World, Calls Tryz.prog 38 #[.string q] u fun e w' => e = .returned (.tuple #[setup.ask (rK q) (rN q 2) (rN q 4) (rN q 6), .int .i64 (rC q)]) ∧ Below u.heap.size u w') := setup.readAsk_any q hq
 obtain ⟨fa, fn, fcp, rfl⟩ : ∃ a n c, v = .slice a n c := by obtain ⟨a, c, h, _⟩ := hs.rc.fs.row; exact ⟨_, _, _, h⟩
 obtain ⟨ta, tn, tcp, rfl⟩ : ∃ a n c, tv = .slice a n c := by obtain ⟨a, c, h, _⟩ := hs.tx; exact ⟨_, _, _, h⟩
 obtain ⟨Y, hY⟩ : ∃ Y, ctl d c T s a h q = Y := ⟨_, rfl⟩
 have HY : Hid (ctl d c T s a h q = Y) := hY
 rw [hY]
 clear hY hs hq hb1 hb2 hb3 hb13 hb03 hS1 hG2 hR3
 have hS3 := HS.out w3 (Below.refl _ _)
 go_enter Tryz.func18, Tryz.ntmps18
 go_upto_region 1 with (fail)
 go_cut [0, 1, 9] from 20 (fun _ _ cv wx => cv = .int .i64 (chkS d c T) ∧ Hid (Below w3.heap.size w3 wx))
 case first =>
  go_wp2_with (refine wpList_load_row rfl 29 _ rfl w.heap.size rfl 29 _ (0, 0) _ hS3 Tryz.underlying29 rfl (by kernel_rfl) ?_)
  refine HCk.out.mono ?_
  rintro e wa ⟨rfl, hba⟩
  go_wp2_with fail
  go_meet
  case rel => exact ⟨rfl, hba⟩
 case rest =>
 obtain ⟨rfl, HBa⟩ := hcut
 clear HCk hS3
 rename World => wa
 obtain ⟨⟨zg, g0, g1, g2⟩, _, _, _⟩ := gd_box (HG.out wa HBa.out)
 by_cases h1 : ¬ chkS d c T = 0
 ·have e1 : (chkS d c T != 0) = true := by simpa using h1
  have HE : Hid (bad s a h (chkS d c T) = Y) := (ctl_0 h1).trans HY.out
  obtain ⟨⟨zr, r0, r1, r2⟩, f0, f1, f2⟩ := gd_box (HR.out wa HBa.out)
  obtain ⟨uf, huf, hXf, hBf⟩ := gd_put wa w2.heap.size 0 0 0 s a h (HR.out wa HBa.out)
  have HBf : Hid (Below w.heap.size w uf) := hBf _ _ (by omega) (bsq HB3.out HBa.out)
  generalize chkS d c T = z at *
  clear h1 hBf HS HG HR HSr HRi HRd HY
  go_wp2
  try rw [huf]
  obtain ⟨⟨zf, x0, x1, x2⟩, _⟩ := gd_box hXf
  exact bodyPost_ret (v := ansV (bad s a h z)) (by simp [results, Tryz.results18, go_sem, zf, x0, x1, x2, bad]) rfl ⟨ret_ans HE.out, HBf.out⟩
 have h1 : chkS d c T = 0 := by omega
 have H1 : Hid (chkS d c T = 0) := h1
 rw [h1]
 clear h1
 go_upto_region 4 with (fail)
 go_cut [28] from 20 (fun bv wx => bv = .bool (!(gR s a h)) ∧ Hid (Below w3.heap.size w3 wx))
 case first =>
  go_wp2_with fail
  refine (HRi.out _).mono ?_
  rintro e wb ⟨rfl, hbb⟩
  go_wp2_with fail
  go_meet
  case rel => exact ⟨rfl, bsq HBa.out hbb⟩
 case rest =>
 obtain ⟨rfl, HBb⟩ := hcut
 clear HRi zg g0 g1 g2 HBa
 rename World => wb
 by_cases h2 : gR s a h = false
 ·have HE : Hid (bad s a h 1 = Y) := (ctl_1 H1.out h2).trans HY.out
  rw [h2]
  obtain ⟨⟨zg, g0, g1, g2⟩, _, _, _⟩ := gd_box (HG.out wb HBb.out)
  obtain ⟨⟨zr, r0, r1, r2⟩, f0, f1, f2⟩ := gd_box (HR.out wb HBb.out)
  obtain ⟨uf, huf, hXf, hBf⟩ := gd_put wb w2.heap.size 0 0 0 s a h (HR.out wb HBb.out)
  have HBf : Hid (Below w.heap.size w uf) := hBf _ _ (by omega) (bsq HB3.out HBb.out)
  clear h2 HY hBf HS HG HR HSr HRd
  go_wp2
  try rw [huf]
  obtain ⟨⟨zf, x0, x1, x2⟩, _⟩ := gd_box hXf
  exact bodyPost_ret (v := ansV (bad s a h 1)) (by simp [results, Tryz.results18, go_sem, zf, x0, x1, x2, bad]) rfl ⟨ret_ans HE.out, HBf.out⟩
 have h2 : gR s a h = true := by simpa using h2
 have H2 : Hid (gR s a h = true) := h2
 rw [h2]
 clear h2
 go_upto_region 6 with (fail)
 go_cut [2, 10, 11] from 20 (fun _ pv cv wx => ∃ wc : World, pv = .pointer (some ⟨wc.heap.size, 0, none⟩) ∧ cv = .int .i64 (rC q) ∧ Hid (Below w3.heap.size w3 wc) ∧ wc.alloc (askc (rK q) (rN q 2) (rN q 4) (rN q 6)) = wx)
 case first =>
  go_wp2_with fail
  refine (HRd.out _).mono ?_
  rintro e wc ⟨rfl, hbc⟩
  go_wp2_with fail
  go_meet
  case rel => exact ⟨wc, rfl, rfl, bsq HBb.out hbc, rfl⟩
 case rest =>
 rename World => wd
 obtain ⟨wc, rfl, rfl, HBc, hwd⟩ := hcut
 have hbd : Below wc.heap.size wc wd := by rw [← hwd]; exact balloc _ _
 have hA : wd.heap[wc.heap.size]? = some (askc (rK q) (rN q 2) (rN q 4) (rN q 6)) := by rw [← hwd]; exact (MapKept.heap_alloc wc _).1
 have hBd := bsq HBc.out hbd
 clear HRd HBb
 by_cases h3 : ¬ rC q = 0
 ·have HE : Hid (bad s a h 8 = Y) := (ctl_2 H1.out H2.out h3).trans HY.out
  have e3 : (rC q != 0) = true := by simpa using h3
  obtain ⟨⟨zg, g0, g1, g2⟩, _, _, _⟩ := gd_box (HG.out wd hBd)
  obtain ⟨⟨zr, r0, r1, r2⟩, f0, f1, f2⟩ := gd_box (HR.out wd hBd)
  obtain ⟨uf, huf, hXf, hBf⟩ := gd_put wd w2.heap.size 0 0 0 s a h (HR.out wd hBd)
  have HBf : Hid (Below w.heap.size w uf) := hBf _ _ (by omega) (bsq HB3.out hBd)
  generalize rC q = z at *
  clear h3 HY hBf HS HG HR HSr hwd hbd hA hBd
  go_wp2
  try rw [huf]
  obtain ⟨⟨zf, x0, x1, x2⟩, _⟩ := gd_box hXf
  exact bodyPost_ret (v := ansV (bad s a h 8)) (by simp [results, Tryz.results18, go_sem, zf, x0, x1, x2, bad]) rfl ⟨ret_ans HE.out, HBf.out⟩
 have h3 : rC q = 0 := by omega
 exact absurd ⟨H1.out, H2.out, h3⟩ hx
end Go.Proofs.YtonheibhbilhhaaGreat.gadget
namespace Go.Proofs.YtonheibhbilhhaaGreat.gadget
open Go.RowKit Go.PlainAid Go.Proofs.YtonheibhbilhhaaGreat.lane Go.Proofs.YtonheibhbilhhaaGreat.desc
open Go.Proofs.YtonheibhbilhhaaGreat.setup (inS inS_iff askc good rK rN rC good_words)
set_option linter.unusedVariables false
set_option linter.unusedSimpArgs false
set_option maxRecDepth 100000 in
set_option maxHeartbeats 16000000 in
theorem rcontrol_1 (d : Dv) (c : Cf) (L : FL) (v : Value) (T : List (List Int)) (tv : Value) (s a h : Int) (q : ByteArray) (w : World) (hs : Shr w c L v T tv) (hq : q.size ≤ maxLen) (hbig : ∀ t ∈ T, t.length ≤ 17000000000000) (h1 : chkS d c T = 0) (h2 : gR s a h = true) (h3 : rC q = 0) (hkd : rK q = 1) :
  Calls Tryz.prog 18 #[shV d c v tv, gdV s a h, .string q] w fun e w' => e = .returned (ansV (ctl d c T s a h q)) ∧ Below w.heap.size w w' := by
 have H1 : Hid (chkS d c T = 0) := h1
 have H2 : Hid (gR s a h = true) := h2
 have H3 : Hid (rC q = 0) := h3
 have HK : Hid (rK q = 1) := hkd
 clear h1 h2 h3 hkd
 obtain ⟨w1, hw1, hS1, hb1⟩ := ShC.named w d c v tv
 obtain ⟨w2, hw2, hG2, hb2⟩ := gd_named w1 s a h
 obtain ⟨w3, hw3, hR3, hb3⟩ := gd_named w2 0 0 0
 have hb13 := bsq hb2 hb3
 have hb03 := bsq hb1 hb13
 have z1 : w.heap.size < w1.heap.size := (Array.getElem?_eq_some_iff.1 hS1).1
 have z2 : w1.heap.size < w2.heap.size := (Array.getElem?_eq_some_iff.1 hG2).1
 have z3 : w2.heap.size < w3.heap.size := (Array.getElem?_eq_some_iff.1 hR3).1
 have HS : Hid (∀ u : World, Below w3.heap.size w3 u → u.heap[w.heap.size]? = some (shO d c v tv)) := fun u hu => keep (keep hS1 hb13) hu
 have HG : Hid (∀ u : World, Below w3.heap.size w3 u → u.heap[w1.heap.size]? = some (gdO s a h)) := fun u hu => keep (keep hG2 hb3) hu
 have HR : Hid (∀ u : World, Below w3.heap.size w3 u → u.heap[w2.heap.size]? = some (gdO 0 0 0)) := fun u hu => keep hR3 hu
 have HB3 : Hid (Below w.heap.size w w3) := hb03
 have HSr : Hid (∀ u : World, Below w3.heap.size w3 u → Shr u c L v T tv) := fun u hu => hs.below (bsq hb03 hu)
 have HCk : Hid (Calls Tryz.prog 12 #[shV d c v tv] w3 fun e w' => e = .returned (.int .i64 (chkS d c T)) ∧ Below w3.heap.size w3 w') := rsheet_any d c L v T tv w3 (hs.below hb03) hbig
 have HRi : Hid (∀ u : World, Calls Tryz.prog 37 #[gdV s a h] u fun e w' => e = .returned (.bool (gR s a h)) ∧ Below u.heap.size u w') := gadget_any s a h
 have HRd : Hid (∀ u : World, Calls Tryz.prog 38 #[.string q] u fun e w' => e = .returned (.tuple #[setup.ask (rK q) (rN q 2) (rN q 4) (rN q 6), .int .i64 (rC q)]) ∧ Below u.heap.size u w') := setup.readAsk_any q hq
 obtain ⟨fa, fn, fcp, rfl⟩ : ∃ a n c, v = .slice a n c := by obtain ⟨a, c, h, _⟩ := hs.rc.fs.row; exact ⟨_, _, _, h⟩
 obtain ⟨ta, tn, tcp, rfl⟩ : ∃ a n c, tv = .slice a n c := by obtain ⟨a, c, h, _⟩ := hs.tx; exact ⟨_, _, _, h⟩
 obtain ⟨Y, hY⟩ : ∃ Y, ctl d c T s a h q = Y := ⟨_, rfl⟩
 have HY : Hid (ctl d c T s a h q = Y) := hY
 rw [hY]
 clear hY hs hq hb1 hb2 hb3 hb13 hb03 hS1 hG2 hR3
 have hS3 := HS.out w3 (Below.refl _ _)
 go_enter Tryz.func18, Tryz.ntmps18
 go_upto_region 1 with (fail)
 go_cut [0, 1, 9] from 20 (fun _ _ cv wx => cv = .int .i64 (chkS d c T) ∧ Hid (Below w3.heap.size w3 wx))
 case first =>
  go_wp2_with (refine wpList_load_row rfl 29 _ rfl w.heap.size rfl 29 _ (0, 0) _ hS3 Tryz.underlying29 rfl (by kernel_rfl) ?_)
  refine HCk.out.mono ?_
  rintro e wa ⟨rfl, hba⟩
  go_wp2_with fail
  go_meet
  case rel => exact ⟨rfl, hba⟩
 case rest =>
 obtain ⟨rfl, HBa⟩ := hcut
 clear HCk hS3
 rename World => wa
 obtain ⟨⟨zg, g0, g1, g2⟩, _, _, _⟩ := gd_box (HG.out wa HBa.out)
 rw [H1.out]
 go_upto_region 4 with (fail)
 go_cut [28] from 20 (fun bv wx => bv = .bool (!(gR s a h)) ∧ Hid (Below w3.heap.size w3 wx))
 case first =>
  go_wp2_with fail
  refine (HRi.out _).mono ?_
  rintro e wb ⟨rfl, hbb⟩
  go_wp2_with fail
  go_meet
  case rel => exact ⟨rfl, bsq HBa.out hbb⟩
 case rest =>
 obtain ⟨rfl, HBb⟩ := hcut
 clear HRi zg g0 g1 g2 HBa
 rename World => wb
 rw [H2.out]
 go_upto_region 6 with (fail)
 go_cut [2, 10, 11] from 20 (fun _ pv cv wx => ∃ wc : World, pv = .pointer (some ⟨wc.heap.size, 0, none⟩) ∧ cv = .int .i64 (rC q) ∧ Hid (Below w3.heap.size w3 wc) ∧ wc.alloc (askc (rK q) (rN q 2) (rN q 4) (rN q 6)) = wx)
 case first =>
  go_wp2_with fail
  refine (HRd.out _).mono ?_
  rintro e wc ⟨rfl, hbc⟩
  go_wp2_with fail
  go_meet
  case rel => exact ⟨wc, rfl, rfl, bsq HBb.out hbc, rfl⟩
 case rest =>
 rename World => wd
 obtain ⟨wc, rfl, rfl, HBc, hwd⟩ := hcut
 have hbd : Below wc.heap.size wc wd := by rw [← hwd]; exact balloc _ _
 have hA : wd.heap[wc.heap.size]? = some (askc (rK q) (rN q 2) (rN q 4) (rN q 6)) := by rw [← hwd]; exact (MapKept.heap_alloc wc _).1
 have hBd := bsq HBc.out hbd
 clear HRd HBb
 have h3 := H3.out
 have hgo := read_good h3
 have HE0 : Hid (act d c T s a h (rK q) (rN q 2) (rN q 4) (rN q 6) = Y) := (ctl_3 H1.out H2.out h3).trans HY.out
 have e3 : (rC q != 0) = false := by simpa using h3
 generalize rC q = z at *
 clear h3 HY H3
 generalize rK q = kq at *
 generalize rN q 2 = vq at *
 generalize rN q 4 = iq at *
 generalize rN q 6 = lq at *
 have HBd : Hid (Below w3.heap.size w3 wd) := hBd
 have HAd : Hid (∀ u : World, Below wd.heap.size wd u → u.heap[wc.heap.size]? = some (askc kq vq iq lq)) := fun u hu => keep hA hu
 obtain ⟨hst, hh0, hh2⟩ := gR_state H2.out
 obtain ⟨⟨gk1, gk2⟩, ⟨gv1, gv2⟩, _, ⟨gl1, gl2⟩⟩ := good_words hgo
 have hok := (chkS_ok H1.out).2.2.1
 have hT8 := (chkS_ok H1.out).2.2.2.1
 have hva : 0 ≤ c.va ∧ c.va ≤ 255 := by have := (chkC_ok hok).head.1; omega
 have HSt : Hid (∀ u : World, Below w3.heap.size w3 u → Calls Tryz.prog 39 #[.pointer (some ⟨w1.heap.size, 0, none⟩)] u fun e w' => e = .returned (ansV (bad s a h 8)) ∧ Below u.heap.size u w') := fun u hu => stall_any w1.heap.size s a h u (HG.out u hu)
 clear hwd hbd hA hBd
 have hkd := HK.out
 subst hkd
 have HE : Hid ((⟨s, a, h, strOfNums [0, 0], 0⟩ : Ans) = Y) := by have h := HE0.out; rw [act_1] at h; exact h
 obtain ⟨a0, a1, a2, a3⟩ := ask_box (HAd.out wd (Below.refl _ _))
 obtain ⟨⟨zg, g0, g1, g2⟩, gf0, gf1, gf2⟩ := gd_box (HG.out wd HBd.out)
 go_upto_region 12 with (fail)
 refine wp_abs (fun a0 => a0.tmps.size = 195 ∧ (∀ h, a0.tmps[4]'h = .pointer (some ⟨w1.heap.size, 0, none⟩)) ∧ (∀ h, a0.tmps[6]'h = .pointer (some ⟨w2.heap.size, 0, none⟩)) ∧ a0.defers = []) ⟨rfl, fun _ => rfl, fun _ => rfl, rfl⟩ ?_
 rintro a0 ⟨hsz, s4, s6, hdf⟩ ha0
 clear ha0
 refine wp_region_lit (l := [_, _, _, _]) ?_
 refine wpl_value (w' := wd) (gdV s a h) rfl (by simp [execOp, go_sem, Act.put, bad, hsz, s4, s6, g0, g1, g2, zg]) ?_
 refine ret_tail (E := fun e w' => e = .returned (ansV Y) ∧ Below w.heap.size w w') (d := 43) (w := w) (by simp [Act.put, hsz]) (by simp [Act.put, hsz, s6]) (by simp [Act.put, hdf]) (by decide) (by simp [Act.put, hsz, s4, s6]) (by first | (simp [Act.eval, Act.put, bad, hsz, s4, s6]; done) | (simp [Act.eval, Act.put, hsz, s4, s6]; rfl)) (by simp [Act.eval, Act.put, bad, hsz, s4, s6]) (HR.out _ HBd.out) (by omega) (bsq HB3.out HBd.out) (fun wf hwf => ⟨ret_ans HE.out, hwf⟩) ?_
 intro a' wf h
 first | (rename_i hK; exact hK _ _ (wp_ret h)) | (rename_i hK hX; exact hK _ _ (wp_ret h))
end Go.Proofs.YtonheibhbilhhaaGreat.gadget
