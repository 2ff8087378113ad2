/- gadget: what Control answers. -/
import Derived.Test.YtonheibhbilhhaaZAo
import Derived.Test.YtonheibhbilhhaaZAl
import Derived.Deep.Cut
import Derived.Laws.StructEq
namespace Go.Proofs.Ytonheibhbilhhaa.gadget
open Go.RowKit Go.PlainAid Go.Proofs.Ytonheibhbilhhaa.lane Go.Proofs.Ytonheibhbilhhaa.desc
open Go.Proofs.Ytonheibhbilhhaa.setup (inS inS_iff askc good rK rN rC good_words)
set_option linter.unusedVariables false
set_option linter.unusedSimpArgs false

theorem gd_box {u : World} {X : Nat} {s a h : Int} (hX : u.heap[X]? = some (gdO s a h)) :
    (X < u.heap.size ∧ u.cell? ⟨X, 0, none⟩ = some (.int .i64 s) ∧ u.cell? ⟨X, 1, none⟩ = some (.int .i64 a) ∧ u.cell? ⟨X, 2, none⟩ = some (.int .i64 h)) ∧ u.frozen? ⟨X, 0, none⟩ = false ∧ u.frozen? ⟨X, 1, none⟩ = false ∧ u.frozen? ⟨X, 2, none⟩ = false := by
  have hf : ∀ i, u.frozen? ⟨X, i, none⟩ = false := fun i => frozen_of_row u X i _ _ hX
  refine ⟨⟨(Array.getElem?_eq_some_iff.1 hX).1, ?_, ?_, ?_⟩, hf 0, hf 1, hf 2⟩ <;> (rw [cell_of_row u X _ _ _ (0, 0) hX]; rfl)
/-- a gadget is put in the place X -/
theorem gd_put (u : World) (X : Nat) (s a h s' a' h' : Int) (hX : u.heap[X]? = some (gdO s a h)) :
    ∃ uf, ((u.setCell ⟨X, 0, none⟩ (.int .i64 s')).setCell ⟨X, 1, none⟩ (.int .i64 a')).setCell ⟨X, 2, none⟩ (.int .i64 h') = uf ∧ uf.heap[X]? = some (gdO s' a' h') ∧ ∀ (B : Nat) (w0 : World), B ≤ X → Below B w0 u → Below B w0 uf :=
  ⟨_, rfl, an_set 2 _ (an_set 1 _ (an_set 0 _ hX rfl) rfl) rfl, fun B w0 hB hb => ((hb.setCell hB _).setCell hB _).setCell hB _⟩
theorem gd_named (w : World) (s a h : Int) : ∃ w0, w.alloc (gdO s a h) = w0 ∧ w0.heap[w.heap.size]? = some (gdO s a h) ∧ Below w.heap.size w w0 := ⟨_, rfl, (MapKept.heap_alloc w _).1, balloc _ _⟩
theorem an_named (w : World) (s a h : Int) : ∃ w0, w.alloc (anO s a h noT) = w0 ∧ w0.heap[w.heap.size]? = some (anO s a h noT) ∧ Below w.heap.size w w0 := ⟨_, rfl, (MapKept.heap_alloc w _).1, balloc _ _⟩
abbrev ansV (X : Ans) : Value := .tuple #[gdV X.s X.a X.h, .string X.t, .int .i64 X.e]
theorem ret_ans {X Y : Ans} (h : X = Y) : Ending.returned (ansV X) = .returned (ansV Y) := by rw [h]
theorem ctl_0 {d : Dv} {c : Cf} {T : List (List Int)} {s a h : Int} {q : ByteArray} (h1 : ¬ chkS d c T = 0) : bad s a h (chkS d c T) = ctl d c T s a h q := by unfold ctl; rw [if_pos h1]
theorem ctl_1 {d : Dv} {c : Cf} {T : List (List Int)} {s a h : Int} {q : ByteArray} (h1 : chkS d c T = 0) (h2 : gR s a h = false) : bad s a h 1 = ctl d c T s a h q := by unfold ctl; rw [if_neg (fun z => z h1), if_pos h2]
theorem ctl_2 {d : Dv} {c : Cf} {T : List (List Int)} {s a h : Int} {q : ByteArray} (h1 : chkS d c T = 0) (h2 : gR s a h = true) (h3 : ¬ rC q = 0) : bad s a h 8 = ctl d c T s a h q := by unfold ctl; rw [if_neg (fun z => z h1), if_neg (by rw [h2]; decide), if_pos h3]
theorem ctl_3 {d : Dv} {c : Cf} {T : List (List Int)} {s a h : Int} {q : ByteArray} (h1 : chkS d c T = 0) (h2 : gR s a h = true) (h3 : rC q = 0) : act d c T s a h (rK q) (rN q 2) (rN q 4) (rN q 6) = ctl d c T s a h q := by unfold ctl; rw [if_neg (fun z => z h1), if_neg (by rw [h2]; decide), if_neg (fun z => z h3)]
/-- with an error all stands as it stood -/
theorem act_bad {d : Dv} {c : Cf} {T : List (List Int)} {s a h k v i l : Int} (he : ¬ (act d c T s a h k v i l).e = 0) : act d c T s a h k v i l = bad s a h (act d c T s a h k v i l).e := by
  unfold act at *
  by_cases q1 : k = 1
  · rw [if_pos q1] at he; exact absurd rfl he
  rw [if_neg q1] at *
  by_cases q5 : k = 5
  · rw [if_pos q5] at *
    cases hd : desO d c T v with
    | none => rfl
    | some t => rw [hd] at he; exact absurd rfl he
  rw [if_neg q5] at *
  by_cases q4 : k = 4
  · rw [if_pos q4] at *
    by_cases z : s = 2
    · rw [if_pos z]; rfl
    · rw [if_neg z] at *
      by_cases y : v = 0
      · rw [if_pos y] at he; exact absurd rfl he
      · rw [if_neg y] at he; exact absurd rfl he
  rw [if_neg q4] at *
  by_cases q6 : k = 6
  · rw [if_pos q6] at *
    by_cases z : s = 0
    · rw [if_pos z]; rfl
    · rw [if_neg z] at *
      by_cases y : v = 0
      · rw [if_pos y] at he; exact absurd rfl he
      · rw [if_neg y] at *
        by_cases x : v = c.va
        · rw [if_pos x] at he; exact absurd rfl he
        · rw [if_neg x]; rfl
  rw [if_neg q6] at *
  by_cases q7 : k = 7
  · rw [if_pos q7] at *
    by_cases z : s = 0
    · rw [if_pos z]; rfl
    · rw [if_neg z] at *
      by_cases y : s = 1
      · rw [if_pos y] at he; exact absurd rfl he
      · rw [if_neg y] at he; exact absurd rfl he
  rw [if_neg q7] at *
  by_cases q2 : k = 2 ∨ k = 3
  · rw [if_pos q2] at *
    by_cases z : s ≠ 2
    · rw [if_pos z]; rfl
    · rw [if_neg z] at *
      by_cases y : hasE c i = false
      · rw [if_pos y]; rfl
      · rw [if_neg y] at *
        by_cases x : k = 3
        · rw [if_pos x] at he; exact absurd rfl he
        · rw [if_neg x] at he; exact absurd rfl he
  · rw [if_neg q2]; rfl
set_option maxRecDepth 100000 in
set_option maxHeartbeats 16000000 in
theorem control_any (d : Dv) (c : Cf) (L : FL) (v : Value) (T : List (List Int)) (tv : Value) (s a h : Int) (q : ByteArray) (w : World) (hs : Shr w c L v T tv) (hq : q.size ≤ maxLen) :
    Calls Try.prog 68 #[shV d c v tv, gdV s a h, .string q] w fun e w' => e = .returned (ansV (ctl d c T s a h q)) ∧ Below w.heap.size w w' := by
  obtain ⟨w1, hw1, hS1, hb1⟩ := ShC.named w d c v tv
  obtain ⟨w2, hw2, hG2, hb2⟩ := gd_named w1 s a h
  obtain ⟨w3, hw3, hR3, hb3⟩ := gd_named w2 0 0 0
  have hb13 := bsq hb2 hb3
  have hb03 := bsq hb1 hb13
  have z1 : w.heap.size < w1.heap.size := (Array.getElem?_eq_some_iff.1 hS1).1
  have z2 : w1.heap.size < w2.heap.size := (Array.getElem?_eq_some_iff.1 hG2).1
  have z3 : w2.heap.size < w3.heap.size := (Array.getElem?_eq_some_iff.1 hR3).1
  have HS : Hid (∀ u : World, Below w3.heap.size w3 u → u.heap[w.heap.size]? = some (shO d c v tv)) := fun u hu => keep (keep hS1 hb13) hu
  have HG : Hid (∀ u : World, Below w3.heap.size w3 u → u.heap[w1.heap.size]? = some (gdO s a h)) := fun u hu => keep (keep hG2 hb3) hu
  have HR : Hid (∀ u : World, Below w3.heap.size w3 u → u.heap[w2.heap.size]? = some (gdO 0 0 0)) := fun u hu => keep hR3 hu
  have HB3 : Hid (Below w.heap.size w w3) := hb03
  have HSr : Hid (∀ u : World, Below w3.heap.size w3 u → Shr u c L v T tv) := fun u hu => hs.below (bsq hb03 hu)
  have HCk : Hid (Calls Try.prog 66 #[shV d c v tv] w3 fun e w' => e = .returned (.int .i64 (chkS d c T)) ∧ Below w3.heap.size w3 w') := check_any d c L v T tv w3 (hs.below hb03)
  have HRi : Hid (∀ u : World, Calls Try.prog 86 #[gdV s a h] u fun e w' => e = .returned (.bool (gR s a h)) ∧ Below u.heap.size u w') := isRight_any s a h
  have HRd : Hid (∀ u : World, Calls Try.prog 87 #[.string q] u fun e w' => e = .returned (.tuple #[setup.ask (rK q) (rN q 2) (rN q 4) (rN q 6), .int .i64 (rC q)]) ∧ Below u.heap.size u w') := setup.read_any q hq
  obtain ⟨fa, fn, fcp, rfl⟩ : ∃ a n c, v = .slice a n c := by obtain ⟨a, c, h, _⟩ := hs.rc.fs.row; exact ⟨_, _, _, h⟩
  obtain ⟨ta, tn, tcp, rfl⟩ : ∃ a n c, tv = .slice a n c := by obtain ⟨a, c, h, _⟩ := hs.tx; exact ⟨_, _, _, h⟩
  obtain ⟨Y, hY⟩ : ∃ Y, ctl d c T s a h q = Y := ⟨_, rfl⟩
  have HY : Hid (ctl d c T s a h q = Y) := hY
  rw [hY]
  clear hY hs hq hb1 hb2 hb3 hb13 hb03 hS1 hG2 hR3
  have hS3 := HS.out w3 (Below.refl _ _)
  go_enter Try.func68, Try.ntmps68
  go_upto_region 1 with (fail)
  go_cut [0, 1, 9] from 14 (fun _ _ cv wx => cv = .int .i64 (chkS d c T) ∧ Hid (Below w3.heap.size w3 wx))
  case first =>
    go_wp2_with (refine wpList_load_row rfl 50 _ rfl w.heap.size rfl 50 _ (0, 0) _ hS3 Try.underlying50 rfl (by kernel_rfl) ?_)
    refine HCk.out.mono ?_
    rintro e wa ⟨rfl, hba⟩
    go_wp2_with fail
    go_meet
    case rel => exact ⟨rfl, hba⟩
  case rest =>
  obtain ⟨rfl, HBa⟩ := hcut
  clear HCk hS3
  rename World => wa
  obtain ⟨⟨zg, g0, g1, g2⟩, _, _, _⟩ := gd_box (HG.out wa HBa.out)
  by_cases h1 : ¬ chkS d c T = 0
  · have e1 : (chkS d c T != 0) = true := by simpa using h1
    have HE : Hid (bad s a h (chkS d c T) = Y) := (ctl_0 h1).trans HY.out
    obtain ⟨⟨zr, r0, r1, r2⟩, f0, f1, f2⟩ := gd_box (HR.out wa HBa.out)
    obtain ⟨uf, huf, hXf, hBf⟩ := gd_put wa w2.heap.size 0 0 0 s a h (HR.out wa HBa.out)
    have HBf : Hid (Below w.heap.size w uf) := hBf _ _ (by omega) (bsq HB3.out HBa.out)
    generalize chkS d c T = z at *
    clear h1 hBf HS HG HR HSr HRi HRd HY
    go_wp2
    try rw [huf]
    obtain ⟨⟨zf, x0, x1, x2⟩, _⟩ := gd_box hXf
    exact bodyPost_ret (v := ansV (bad s a h z)) (by simp [results, Try.results68, go_sem, zf, x0, x1, x2, bad]) rfl ⟨ret_ans HE.out, HBf.out⟩
  have h1 : chkS d c T = 0 := by omega
  have H1 : Hid (chkS d c T = 0) := h1
  rw [h1]
  clear h1
  go_upto_region 4 with (fail)
  go_cut [22] from 14 (fun bv wx => bv = .bool (!(gR s a h)) ∧ Hid (Below w3.heap.size w3 wx))
  case first =>
    go_wp2_with fail
    refine (HRi.out _).mono ?_
    rintro e wb ⟨rfl, hbb⟩
    go_wp2_with fail
    go_meet
    case rel => exact ⟨rfl, bsq HBa.out hbb⟩
  case rest =>
  obtain ⟨rfl, HBb⟩ := hcut
  clear HRi zg g0 g1 g2 HBa
  rename World => wb
  by_cases h2 : gR s a h = false
  · have HE : Hid (bad s a h 1 = Y) := (ctl_1 H1.out h2).trans HY.out
    rw [h2]
    obtain ⟨⟨zg, g0, g1, g2⟩, _, _, _⟩ := gd_box (HG.out wb HBb.out)
    obtain ⟨⟨zr, r0, r1, r2⟩, f0, f1, f2⟩ := gd_box (HR.out wb HBb.out)
    obtain ⟨uf, huf, hXf, hBf⟩ := gd_put wb w2.heap.size 0 0 0 s a h (HR.out wb HBb.out)
    have HBf : Hid (Below w.heap.size w uf) := hBf _ _ (by omega) (bsq HB3.out HBb.out)
    clear h2 HY hBf HS HG HR HSr HRd
    go_wp2
    try rw [huf]
    obtain ⟨⟨zf, x0, x1, x2⟩, _⟩ := gd_box hXf
    exact bodyPost_ret (v := ansV (bad s a h 1)) (by simp [results, Try.results68, go_sem, zf, x0, x1, x2, bad]) rfl ⟨ret_ans HE.out, HBf.out⟩
  have h2 : gR s a h = true := by simpa using h2
  have H2 : Hid (gR s a h = true) := h2
  rw [h2]
  clear h2
  go_upto_region 6 with (fail)
  go_cut [2, 10, 11] from 14 (fun _ pv cv wx => ∃ wc : World, pv = .pointer (some ⟨wc.heap.size, 0, none⟩) ∧ cv = .int .i64 (rC q) ∧ Hid (Below w3.heap.size w3 wc) ∧ wc.alloc (askc (rK q) (rN q 2) (rN q 4) (rN q 6)) = wx)
  case first =>
    go_wp2_with fail
    refine (HRd.out _).mono ?_
    rintro e wc ⟨rfl, hbc⟩
    go_wp2_with fail
    go_meet
    case rel => exact ⟨wc, rfl, rfl, bsq HBb.out hbc, rfl⟩
  case rest =>
  rename World => wd
  obtain ⟨wc, rfl, rfl, HBc, hwd⟩ := hcut
  have hbd : Below wc.heap.size wc wd := by rw [← hwd]; exact balloc _ _
  have hA : wd.heap[wc.heap.size]? = some (askc (rK q) (rN q 2) (rN q 4) (rN q 6)) := by rw [← hwd]; exact (MapKept.heap_alloc wc _).1
  have hBd := bsq HBc.out hbd
  clear HRd HBb
  by_cases h3 : ¬ rC q = 0
  · have HE : Hid (bad s a h 8 = Y) := (ctl_2 H1.out H2.out h3).trans HY.out
    have e3 : (rC q != 0) = true := by simpa using h3
    obtain ⟨⟨zg, g0, g1, g2⟩, _, _, _⟩ := gd_box (HG.out wd hBd)
    obtain ⟨⟨zr, r0, r1, r2⟩, f0, f1, f2⟩ := gd_box (HR.out wd hBd)
    obtain ⟨uf, huf, hXf, hBf⟩ := gd_put wd w2.heap.size 0 0 0 s a h (HR.out wd hBd)
    have HBf : Hid (Below w.heap.size w uf) := hBf _ _ (by omega) (bsq HB3.out hBd)
    generalize rC q = z at *
    clear h3 HY hBf HS HG HR HSr hwd hbd hA hBd
    go_wp2
    try rw [huf]
    obtain ⟨⟨zf, x0, x1, x2⟩, _⟩ := gd_box hXf
    exact bodyPost_ret (v := ansV (bad s a h 8)) (by simp [results, Try.results68, go_sem, zf, x0, x1, x2, bad]) rfl ⟨ret_ans HE.out, HBf.out⟩
  have h3 : rC q = 0 := by omega
  have hgo := read_good h3
  have HE : Hid (act d c T s a h (rK q) (rN q 2) (rN q 4) (rN q 6) = Y) := (ctl_3 H1.out H2.out h3).trans HY.out
  have e3 : (rC q != 0) = false := by simpa using h3
  generalize rC q = z at *
  clear h3 HY
  generalize rK q = kq at *
  generalize rN q 2 = vq at *
  generalize rN q 4 = iq at *
  generalize rN q 6 = lq at *
  obtain ⟨we, hwe, hP, hbe⟩ := an_named wd s a h
  have HBe : Hid (Below w3.heap.size w3 we) := bsq hBd hbe
  have zd : wc.heap.size < wd.heap.size := (Array.getElem?_eq_some_iff.1 hA).1
  have z3d : w3.heap.size ≤ wd.heap.size := hBd.size
  have HTo : Hid (Calls Try.prog 88 #[.pointer (some ⟨wd.heap.size, 0, none⟩), setup.ask kq vq iq lq, shV d c (.slice fa fn fcp) (.slice ta tn tcp)] we (AnP wd.heap.size we Y)) := by
    show Calls _ _ _ _ _
    rw [← HE.out]
    exact to_any wd.heap.size s a h kq vq iq lq d c L _ T _ we hP (HSr.out we HBe.out) hgo H2.out (chkS_ok H1.out).2.2.1
  have HYb : Hid (¬ Y.e = 0 → Y = bad s a h Y.e) := by
    intro z
    rw [← HE.out] at z ⊢
    exact act_bad z
  have HWE : Hid (wd.alloc (anO s a h noT) = we) := hwe
  have HAe : Hid (we.heap[wc.heap.size]? = some (askc kq vq iq lq)) := keep hA hbe
  obtain ⟨⟨zg, g0, g1, g2⟩, _, _, _⟩ := gd_box (HG.out wd hBd)
  clear hwe hbd hA hwd hbe
  go_upto_region 9 with (fail)
  go_cut [12] from 14 (fun pv wx => pv = .pointer (some ⟨wd.heap.size, 0, none⟩) ∧ wx = we)
  case first =>
    go_wp2_with fail
    rw [HWE.out]
    go_meet
    case rel => exact ⟨rfl, rfl⟩
  case rest =>
  obtain ⟨rfl, rfl⟩ := hcut
  clear HWE zg g0 g1 g2 hBd hP
  obtain ⟨a0, a1, a2, a3⟩ := ask_box HAe.out
  have hSe := HS.out _ HBe.out
  go_upto_region 10 with (fail)
  go_cut [13] from 14 (fun cv wx => cv = .int .i64 Y.e ∧ Hid (Below w3.heap.size w3 wx ∧ wx.heap[wd.heap.size]? = some (anO Y.s Y.a Y.h Y.t)))
  case first =>
    go_wp2_with (refine wpList_load_row rfl 50 _ rfl w.heap.size rfl 50 _ (0, 0) _ hSe Try.underlying50 rfl (by kernel_rfl) ?_)
    refine HTo.out.mono ?_
    rintro e u ⟨rfl, hbu, hPu⟩
    go_wp2_with fail
    go_meet
    case rel => exact ⟨rfl, HBe.out.trans (hbu.mono z3d), hPu⟩
  case rest =>
  obtain ⟨rfl, HU⟩ := hcut
  rename World => u
  have HBu : Hid (Below w3.heap.size w3 u) := HU.out.1
  have hPu := HU.out.2
  clear a0 a1 a2 a3 hSe HTo HBe HU HSr HAe
  by_cases h4 : ¬ Y.e = 0
  · have e4 : (Y.e != 0) = true := by simpa using h4
    have HE : Hid (bad s a h Y.e = Y) := (HYb.out h4).symm
    obtain ⟨⟨zg, g0, g1, g2⟩, _, _, _⟩ := gd_box (HG.out u HBu.out)
    obtain ⟨⟨zr, r0, r1, r2⟩, f0, f1, f2⟩ := gd_box (HR.out u HBu.out)
    obtain ⟨uf, huf, hXf, hBf⟩ := gd_put u w2.heap.size 0 0 0 s a h (HR.out u HBu.out)
    have HBf : Hid (Below w.heap.size w uf) := hBf _ _ (by omega) (bsq HB3.out HBu.out)
    generalize Y.e = z at *
    clear h4 hBf HS HG HR HYb hPu
    go_wp2
    try rw [huf]
    obtain ⟨⟨zf, x0, x1, x2⟩, _⟩ := gd_box hXf
    exact bodyPost_ret (v := ansV (bad s a h z)) (by simp [results, Try.results68, go_sem, zf, x0, x1, x2, bad]) rfl ⟨ret_ans HE.out, HBf.out⟩
  have h4 : Y.e = 0 := by omega
  obtain ⟨Ys, Ya, Yh, Yt, Ye⟩ := Y
  simp only at *
  subst h4
  obtain ⟨⟨zp, p0, p1, p2, p3⟩, _⟩ := an_box hPu
  obtain ⟨⟨zr, r0, r1, r2⟩, f0, f1, f2⟩ := gd_box (HR.out u HBu.out)
  obtain ⟨uf, huf, hXf, hBf⟩ := gd_put u w2.heap.size 0 0 0 Ys Ya Yh (HR.out u HBu.out)
  have HBf : Hid (Below w.heap.size w uf) := hBf _ _ (by omega) (bsq HB3.out HBu.out)
  have HUF : Hid (((u.setCell ⟨w2.heap.size, 0, none⟩ (.int .i64 Ys)).setCell ⟨w2.heap.size, 1, none⟩ (.int .i64 Ya)).setCell ⟨w2.heap.size, 2, none⟩ (.int .i64 Yh) = uf) := huf
  clear huf hBf HS HG HR HYb hPu
  go_wp2_with fail
  go_region
  all_goals go_wp2
  all_goals rw [HUF.out]
  all_goals (obtain ⟨⟨zf, x0, x1, x2⟩, _⟩ := gd_box hXf)
  all_goals exact bodyPost_ret (v := ansV ⟨Ys, Ya, Yh, Yt, 0⟩) (by simp [results, Try.results68, go_sem, zf, x0, x1, x2]) rfl ⟨rfl, HBf.out.drew⟩
end Go.Proofs.Ytonheibhbilhhaa.gadget

/- plugkeep's gadget: asks, a device of nothing; gadgets that are alike. -/
namespace Go.Proofs.Ytonheibhbilhhaa.gadget
open Go.RowKit Go.PlainAid Go.Proofs.Ytonheibhbilhhaa.lane Go.Proofs.Ytonheibhbilhhaa.desc
open Go.Proofs.Ytonheibhbilhhaa.setup (inS inS_iff askc good rK rN rC wrT wrC write_any write_read)
set_option linter.unusedVariables false
set_option linter.unusedSimpArgs false

theorem und : Try.prog.underlying 52 = some (.struct (Try.prog.fieldsOf 52)) := by kernel_rfl
theorem stood : Try.prog.stoodInHeld 52 = false := by kernel_rfl
/-- are two gadgets alike? -/
def same (s a h s' a' h' : Int) : Bool := s == s' && (a == a' && h == h')
theorem eq_gd (s a h s' a' h' : Int) (w : World) : (Op.equalIn 10000 52 (gdV s a h) (gdV s' a' h')).run Try.prog w = .ok (same s a h s' a' h') w := by
  rw [run_equalIn_struct w 9999 52 _ _ und stood]
  simp [go_sem]
  unfold same
  by_cases h1 : s = s' <;> by_cases h2 : a = a' <;> by_cases h3 : h = h' <;> simp [h1, h2, h3]
theorem eql_gd (s a h s' a' h' : Int) (w : World) : (binOp .eql 52 (gdV s a h) (gdV s' a' h')).run Try.prog w = .ok (.bool (same s a h s' a' h')) w := by
  rw [run_eql_struct, eq_gd]; rfl
theorem same_iff {s a h s' a' h' : Int} : same s a h s' a' h' = true ↔ s = s' ∧ a = a' ∧ h = h' := by simp [same]
theorem same_self (s a h : Int) : same s a h s a h = true := same_iff.2 ⟨rfl, rfl, rfl⟩
theorem run_sheet {W : World} {B : Nat} {d : Dv} {c : Cf} {v tv : Value} (h : W.heap[B]? = some (shO d c v tv)) : (Instr.loadAt 50 (.pointer (some ⟨B, 0, none⟩))).run Try.prog W = .ok (shV d c v tv) W := by
  simp only [Instr.loadAt, Instr.sureAddr, Sem.run_bind, Sem.run_pure, Result.andThen_ok, run_loadVar_row W B 50 50 _ (0, 0) _ h Try.underlying50 rfl (by kernel_rfl)]
/-- a sheet is read, guarded or not -/
theorem wpList_sheet {ops : Array Oper} {rest : List Oper} {o : Oper} {a : Act} {w : World} {Q : Exit → Act → World → Prop} (hgd : Region.wanted o (yielded ops a.tmps) = true) (x : Operand) (ho : o.op = .load 50 x)
    (B : Nat) (hx : a.eval x = .pointer (some ⟨B, 0, none⟩)) {d : Dv} {c : Cf} {v tv : Value} (hg : w.heap[B]? = some (shO d c v tv)) (h : wpList Try.prog ops Q rest (a.put o.dst (shV d c v tv)) w) : wpList Try.prog ops Q (o :: rest) a w := by
  refine wpList_step fun K hK' => ?_
  rw [if_pos hgd]
  exact wp_load_row _ x ho B hx _ _ (0, 0) _ hg Try.underlying50 rfl (by kernel_rfl) (hK' _ _ h)
/-- Control of an ask that can be asked -/
theorem ctl_asked {d : Dv} {c : Cf} {T : List (List Int)} {s a h k v i l : Int} (hg : good k v i l = true) :
    ctl d c T s a h (wrT k v i l) = if chkS d c T ≠ 0 then bad s a h (chkS d c T) else if gR s a h = false then bad s a h 1 else act d c T s a h k v i l := by
  obtain ⟨e1, e2, e3, e4, e5, _⟩ := write_read hg
  unfold ctl
  rw [e1, e2, e3, e4, e5]
  rfl
end Go.Proofs.Ytonheibhbilhhaa.gadget
