/- DescBack: the walk, once configOf answers as it should. -/
import Derived.Test.YtilfenijbbhfjabDescZ
import Derived.Test.YtilfenijbbhfjabDescSa
import Derived.Test.YtilfenijbbhfjabDescBa
namespace Go.Proofs.Ytilfenijbbhfjab.descBack
open Go.RowKit Go.PlainAid Go.Proofs.Ytilfenijbbhfjab.lane Go.Proofs.Ytilfenijbbhfjab.desc
set_option linter.unusedVariables false
set_option linter.unusedSimpArgs false

/-- a right configuration's text is read as that configuration -/
theorem readBack (hco : CoAll) (c : Cf) (u : World) (hz : chkC c = 0) (hbb : ∀ f ∈ c.fs, BB f.ex) :
    Calls Try.prog 13 #[.string (strOfNums (confL c))] u fun e w' => ∃ vf L X, e = .returned (.tuple #[cfV c vf, .int .i64 0]) ∧ Inv u w' X c.va c.na c.atr c.po vf L ∧ L.map Prod.fst = c.fs := by
  have hok := chkC_ok hz
  have hcl := confL_le hok
  have hns := nums_str _ (byt_confL hok hbb)
  have hss := str_size (confL c)
  have hist : isT (nums (strOfNums (confL c))) c := ⟨hz, hns.symm⟩
  refine (readConfig_of hco _ u (by unfold maxLen; omega)).mono ?_
  intro e w' hr
  rcases hr with ⟨h1, _⟩ | ⟨_, h2, _⟩ | ⟨c', vf, L, X, _, h2, h3, h4, h5⟩
  · exfalso
    apply h1
    unfold splC
    rw [hns, if_neg (by omega), split_confL hok]
  · exact absurd hist (h2 c)
  · have := isT_one hist h2
    subst this
    exact ⟨vf, L, X, h3, h4, h5⟩
set_option maxRecDepth 100000 in
set_option maxHeartbeats 4000000 in
theorem walk_of (hco : CoAll) (a0 : Dv) (a1 : Cf) (c1 : Value) (L1 : FL) (w : World) (hc1 : Rc w c1 a1 L1) :
    Calls Try.prog 3 #[dvV a0, cfV a1 c1] w fun e w' => e = .returned (.bool true) ∧ Below w.heap.size w w' := by
  have HL : Hid (∀ w : World, Calls Try.prog 12 #[] w fun e w' => e = .returned (.bool true) ∧ Below w.heap.size w w') := descLives_any
  have HWD : Hid (∀ w : World, Calls Try.prog 9 #[dvV a0] w fun e w' => e = .returned (.tuple #[.string (wdT a0), .int .i64 (wdC a0)]) ∧ Below w.heap.size w w') := fun w => writeDevice_any _ w
  have HWC : Hid (∀ u, Below w.heap.size w u → Calls Try.prog 11 #[cfV a1 c1] u fun e w' => e = .returned (.tuple #[.string (wcT a1), .int .i64 (chkC a1)]) ∧ Below u.heap.size u w') := fun u hu => writeConfig_any a1 c1 L1 u (hc1.below hu)
  have HSC : Hid (∀ u vf L, Below w.heap.size w u → Rc u vf a1 L → Calls Try.prog 14 #[cfV a1 vf, cfV a1 c1] u fun e w' => e = .returned (.bool true) ∧ Below u.heap.size u w') := fun u vf L hu hr => sameConfig_same a1 vf c1 L L1 u hr (hc1.below hu)
  have HRC : Hid (chkC a1 = 0 → ∀ u, Calls Try.prog 13 #[.string (strOfNums (confL a1))] u fun e w' => ∃ vf L X, e = .returned (.tuple #[cfV a1 vf, .int .i64 0]) ∧ Inv u w' X a1.va a1.na a1.atr a1.po vf L ∧ L.map Prod.fst = a1.fs) := fun hz u => readBack hco a1 u hz (fun f hf => by
      rw [← hc1.eq] at hf
      obtain ⟨q, hq, rfl⟩ := List.mem_map.1 hf
      exact (hc1.fs.all q hq).bb)
  have HTZ : Hid (chkC a1 = 0 → (strOfNums (confL a1)).size ≤ 413) := fun hz => by rw [str_size]; exact confL_le (chkC_ok hz)
  have HWT : Hid (wcT a1 = if chkC a1 = 0 then strOfNums (confL a1) else ⟨#[]⟩) := rfl
  obtain ⟨fa, fn, fc, rfl⟩ : ∃ a n c, c1 = .slice a n c := by obtain ⟨a, c, h, _⟩ := hc1.fs.row; exact ⟨_, _, _, h⟩
  obtain ⟨wa, hwa⟩ : ∃ wa, w.alloc (dvO a0) = wa := ⟨_, rfl⟩
  obtain ⟨wb, hwb⟩ : ∃ wb, wa.alloc (cfO a1.va a1.na a1.atr a1.po (.slice fa fn fc)) = wb := ⟨_, rfl⟩
  have hba : Below w.heap.size w wa := by rw [← hwa]; exact balloc _ _
  have hbb : Below wa.heap.size wa wb := by rw [← hwb]; exact balloc _ _
  have HB : Hid (Below w.heap.size w wb) := bsq hba hbb
  have hA : wb.heap[w.heap.size]? = some (dvO a0) := res_below (by rw [← hwa]; exact (MapKept.heap_alloc w _).1) hbb
  have hB : wb.heap[wa.heap.size]? = some (cfO a1.va a1.na a1.atr a1.po (.slice fa fn fc)) := by rw [← hwb]; exact (MapKept.heap_alloc wa _).1
  have HXA : Hid (∀ u, Below wb.heap.size wb u → DvC u w.heap.size a0) := fun u hu => (box12 (res_below hA hu)).1
  have HXB : Hid (∀ u, Below wb.heap.size wb u → u.cell? ⟨wa.heap.size, 0, none⟩ = some (.int .i64 a1.va) ∧ u.cell? ⟨wa.heap.size, 1, none⟩ = some (.int .i64 a1.na) ∧ u.cell? ⟨wa.heap.size, 2, none⟩ = some (.int .i64 a1.atr) ∧ u.cell? ⟨wa.heap.size, 3, none⟩ = some (.int .i64 a1.po) ∧ u.cell? ⟨wa.heap.size, 4, none⟩ = some (.slice fa fn fc)) := fun u hu => (box5f (res_below hB hu)).1.2
  have hRC : ∀ vf L X u u', Inv u u' X a1.va a1.na a1.atr a1.po vf L → L.map Prod.fst = a1.fs → Rc u' vf a1 L := fun vf L X u u' h1 h2 => ⟨h1.rc.fs, h2⟩
  have HRR : Hid _ := hRC
  clear hRC hba hbb hA hB hc1
  obtain ⟨cz, hcz⟩ : ∃ z, chkC a1 = z := ⟨_, rfl⟩
  obtain ⟨cT, hcT⟩ : ∃ z, wcT a1 = z := ⟨_, rfl⟩
  rw [hcz, hcT] at HWC
  rw [hcz, hcT] at HWT
  rw [hcz] at HRC HTZ
  generalize strOfNums (confL a1) = T1 at *
  by_cases hd : devOk a0 = true
  · by_cases hz : cz = 0
    · have e1 : wdT a0 = strOfNums (devL a0) := by unfold wdT; rw [if_pos hd]
      have e2 : wdC a0 = 0 := by unfold wdC; rw [if_pos hd]
      obtain ⟨k1, k2⟩ := rd_devL hd
      rw [e1, e2] at HWD
      have hs : (strOfNums (devL a0)).size = 18 := by rw [str_size, devL_length]
      have HD : Hid (∀ w : World, Calls Try.prog 10 #[.string (strOfNums (devL a0))] w fun e w' => e = .returned (.tuple #[dvV a0, .int .i64 0]) ∧ Below w.heap.size w w') := fun w => by
        have := readDevice_any (strOfNums (devL a0)) w (by rw [hs]; decide)
        rw [k1, k2] at this
        exact this
      generalize strOfNums (devL a0) = T at *
      clear k1 k2 e1 e2 hd
      obtain ⟨d0, d1, d2, d3, d4, d5, d6, d7, d8, d9, d10, d11⟩ := a0
      obtain ⟨va, na, atr, po, fs⟩ := a1
      simp only at *
      obtain ⟨x0, x1, x2, x3, x4⟩ := HXB.out wb (Below.refl _ _)
      have hDv := HXA.out wb (Below.refl _ _)
      obtain ⟨hzD, q0, q1, q2, q3, q4, q5, q6, q7, q8, q9, q10, q11⟩ := hDv
      simp only at q0 q1 q2 q3 q4 q5 q6 q7 q8 q9 q10 q11
      subst hz
      rw [if_pos rfl] at HWT
      have hTT : cT = T1 := HWT.out
      subst hTT
      have hTz : cT.size ≤ 413 := HTZ.out rfl
      clear HTZ HWT hcz hcT
      go_enter Try.func3, Try.ntmps3
      go_wp2_with fail
      refine (HWD.out _).mono ?_
      rintro e wc ⟨rfl, hbc⟩
      have HCb : Hid (Below wb.heap.size wb wc) := hbc
      clear hbc q0 q1 q2 q3 q4 q5 q6 q7 q8 q9 q10 q11 hzD x0 x1 x2 x3 x4
      go_wp2_with fail
      refine (HD.out _).mono ?_
      rintro e wd ⟨rfl, hbd⟩
      obtain ⟨we, hwe⟩ : ∃ we, wd.alloc (dvO ⟨d0, d1, d2, d3, d4, d5, d6, d7, d8, d9, d10, d11⟩) = we := ⟨_, rfl⟩
      have hbe : Below wd.heap.size wd we := by rw [← hwe]; exact balloc _ _
      have HCd : Hid (Below wb.heap.size wb we) := bsq (bsq HCb.out hbd) hbe
      have hE : we.heap[wd.heap.size]? = some (dvO ⟨d0, d1, d2, d3, d4, d5, d6, d7, d8, d9, d10, d11⟩) := by rw [← hwe]; exact (MapKept.heap_alloc wd _).1
      obtain ⟨hzE, p0, p1, p2, p3, p4, p5, p6, p7, p8, p9, p10, p11⟩ := (box12 (d := ⟨d0, d1, d2, d3, d4, d5, d6, d7, d8, d9, d10, d11⟩) hE).1
      obtain ⟨hzD, q0, q1, q2, q3, q4, q5, q6, q7, q8, q9, q10, q11⟩ := HXA.out we HCd.out
      simp only at q0 q1 q2 q3 q4 q5 q6 q7 q8 q9 q10 q11 p0 p1 p2 p3 p4 p5 p6 p7 p8 p9 p10 p11
      obtain ⟨x0, x1, x2, x3, x4⟩ := HXB.out we HCd.out
      clear hbd hbe hE
      go_wp2_with fail
      refine (HWC.out we (bsq HB.out HCd.out)).mono ?_
      rintro e wf ⟨rfl, hbf⟩
      have HCf : Hid (Below wb.heap.size wb wf) := bsq HCd.out hbf
      clear hbf hwe hzE hzD q0 q1 q2 q3 q4 q5 q6 q7 q8 q9 q10 q11 p0 p1 p2 p3 p4 p5 p6 p7 p8 p9 p10 p11 x0 x1 x2 x3 x4
      go_wp2_with fail
      refine (HRC.out trivial _).mono ?_
      rintro e wg ⟨vf, L, X, rfl, hI, hL⟩
      have HBg : Hid (Below wb.heap.size wb wg) := bsq HCf.out hI.bel
      have hrc := HRR.out vf L X _ _ hI hL
      obtain ⟨ga, gn, gc, rfl⟩ : ∃ a n c, vf = .slice a n c := by obtain ⟨a, c, h, _⟩ := hrc.fs.row; exact ⟨_, _, _, h⟩
      obtain ⟨wh, hwh⟩ : ∃ wh, wg.alloc (cfO va na atr po (.slice ga gn gc)) = wh := ⟨_, rfl⟩
      have hbh : Below wg.heap.size wg wh := by rw [← hwh]; exact balloc _ _
      have HBh : Hid (Below wb.heap.size wb wh) := bsq HBg.out hbh
      have HXh : Hid (wh.heap[wg.heap.size]? = some (cfO va na atr po (.slice ga gn gc))) := by rw [← hwh]; exact (MapKept.heap_alloc wg _).1
      have HRh : Hid (∀ u, Below wh.heap.size wh u → Rc u (.slice ga gn gc) ⟨va, na, atr, po, fs⟩ L) := fun u hu => (hrc.below hbh).below hu
      clear hI hL hrc hbh
      go_wp2_with fail
      refine (HL.out _).mono ?_
      rintro e wi ⟨rfl, hbi⟩
      have HBi : Hid (Below wb.heap.size wb wi) := bsq HBh.out hbi
      obtain ⟨⟨hzY, y0, y1, y2, y3, y4⟩, _⟩ := box5f (res_below HXh.out hbi)
      obtain ⟨x0, x1, x2, x3, x4⟩ := HXB.out wi HBi.out
      have HS : Hid (Below wh.heap.size wh wi) := hbi
      clear hbi
      go_wp2_with fail
      refine (HSC.out wi _ L (bsq HB.out HBi.out) (HRh.out wi HS.out)).mono ?_
      rintro e wj ⟨rfl, hbj⟩
      have HBj : Hid (Below w.heap.size w wj) := bsq HB.out (bsq HBi.out hbj)
      clear hbj y0 y1 y2 y3 y4 x0 x1 x2 x3 x4 hzY
      go_wp2
      go_ret
      refine ⟨?_, HBj.out⟩
      show Ending.returned (.bool (decide ((cT.size : Int) ≤ 512))) = _
      rw [decide_eq_true (by omega)]
    · have e1 : wdT a0 = strOfNums (devL a0) := by unfold wdT; rw [if_pos hd]
      have e2 : wdC a0 = 0 := by unfold wdC; rw [if_pos hd]
      obtain ⟨k1, k2⟩ := rd_devL hd
      rw [e1, e2] at HWD
      have hs : (strOfNums (devL a0)).size = 18 := by rw [str_size, devL_length]
      have HD : Hid (∀ w : World, Calls Try.prog 10 #[.string (strOfNums (devL a0))] w fun e w' => e = .returned (.tuple #[dvV a0, .int .i64 0]) ∧ Below w.heap.size w w') := fun w => by
        have := readDevice_any (strOfNums (devL a0)) w (by rw [hs]; decide)
        rw [k1, k2] at this
        exact this
      generalize strOfNums (devL a0) = T at *
      clear k1 k2 e1 e2 hd
      obtain ⟨d0, d1, d2, d3, d4, d5, d6, d7, d8, d9, d10, d11⟩ := a0
      obtain ⟨va, na, atr, po, fs⟩ := a1
      simp only at *
      obtain ⟨x0, x1, x2, x3, x4⟩ := HXB.out wb (Below.refl _ _)
      have hDv := HXA.out wb (Below.refl _ _)
      obtain ⟨hzD, q0, q1, q2, q3, q4, q5, q6, q7, q8, q9, q10, q11⟩ := hDv
      simp only at q0 q1 q2 q3 q4 q5 q6 q7 q8 q9 q10 q11
      have hzn : (cz != 0) = true := by simpa using hz
      rw [if_neg hz] at HWT
      have hTT : cT = ⟨#[]⟩ := HWT.out
      subst hTT
      clear HTZ HWT hcz hcT HRC
      go_enter Try.func3, Try.ntmps3
      go_wp2_with fail
      refine (HWD.out _).mono ?_
      rintro e wc ⟨rfl, hbc⟩
      have HCb : Hid (Below wb.heap.size wb wc) := hbc
      clear hbc q0 q1 q2 q3 q4 q5 q6 q7 q8 q9 q10 q11 hzD x0 x1 x2 x3 x4
      go_wp2_with fail
      refine (HD.out _).mono ?_
      rintro e wd ⟨rfl, hbd⟩
      obtain ⟨we, hwe⟩ : ∃ we, wd.alloc (dvO ⟨d0, d1, d2, d3, d4, d5, d6, d7, d8, d9, d10, d11⟩) = we := ⟨_, rfl⟩
      have hbe : Below wd.heap.size wd we := by rw [← hwe]; exact balloc _ _
      have HCd : Hid (Below wb.heap.size wb we) := bsq (bsq HCb.out hbd) hbe
      have hE : we.heap[wd.heap.size]? = some (dvO ⟨d0, d1, d2, d3, d4, d5, d6, d7, d8, d9, d10, d11⟩) := by rw [← hwe]; exact (MapKept.heap_alloc wd _).1
      obtain ⟨hzE, p0, p1, p2, p3, p4, p5, p6, p7, p8, p9, p10, p11⟩ := (box12 (d := ⟨d0, d1, d2, d3, d4, d5, d6, d7, d8, d9, d10, d11⟩) hE).1
      obtain ⟨hzD, q0, q1, q2, q3, q4, q5, q6, q7, q8, q9, q10, q11⟩ := HXA.out we HCd.out
      simp only at q0 q1 q2 q3 q4 q5 q6 q7 q8 q9 q10 q11 p0 p1 p2 p3 p4 p5 p6 p7 p8 p9 p10 p11
      obtain ⟨x0, x1, x2, x3, x4⟩ := HXB.out we HCd.out
      clear hbd hbe hE
      go_wp2_with fail
      refine (HWC.out we (bsq HB.out HCd.out)).mono ?_
      rintro e wf ⟨rfl, hbf⟩
      have HCf : Hid (Below wb.heap.size wb wf) := bsq HCd.out hbf
      clear hbf hwe hzE hzD q0 q1 q2 q3 q4 q5 q6 q7 q8 q9 q10 q11 p0 p1 p2 p3 p4 p5 p6 p7 p8 p9 p10 p11 x0 x1 x2 x3 x4
      go_wp2_with fail
      refine (HL.out _).mono ?_
      rintro e wi ⟨rfl, hbi⟩
      have HBi : Hid (Below w.heap.size w wi) := bsq HB.out (bsq HCf.out hbi)
      clear hbi
      go_wp2
      go_ret
      exact ⟨rfl, HBi.out⟩
  · by_cases hz : cz = 0
    · have e2 : wdC a0 ≠ 0 := by unfold wdC; rw [if_neg hd]; decide
      obtain ⟨dT, hdT⟩ : ∃ z, wdT a0 = z := ⟨_, rfl⟩
      obtain ⟨dz, hdz⟩ : ∃ z, wdC a0 = z := ⟨_, rfl⟩
      rw [hdT, hdz] at HWD
      have hdn : (dz == 0) = false := by rw [← hdz]; simpa using e2
      clear hdT hdz e2 hd
      obtain ⟨d0, d1, d2, d3, d4, d5, d6, d7, d8, d9, d10, d11⟩ := a0
      obtain ⟨va, na, atr, po, fs⟩ := a1
      simp only at *
      obtain ⟨x0, x1, x2, x3, x4⟩ := HXB.out wb (Below.refl _ _)
      obtain ⟨hzD, q0, q1, q2, q3, q4, q5, q6, q7, q8, q9, q10, q11⟩ := HXA.out wb (Below.refl _ _)
      simp only at q0 q1 q2 q3 q4 q5 q6 q7 q8 q9 q10 q11
      subst hz
      rw [if_pos rfl] at HWT
      have hTT : cT = T1 := HWT.out
      subst hTT
      have hTz : cT.size ≤ 413 := HTZ.out rfl
      clear HTZ HWT hcz hcT
      go_enter Try.func3, Try.ntmps3
      go_wp2_with fail
      refine (HWD.out _).mono ?_
      rintro e wc ⟨rfl, hbc⟩
      have HCb : Hid (Below wb.heap.size wb wc) := hbc
      clear q0 q1 q2 q3 q4 q5 q6 q7 q8 q9 q10 q11 hzD x0 x1 x2 x3 x4
      obtain ⟨x0, x1, x2, x3, x4⟩ := HXB.out wc HCb.out
      clear hbc
      go_wp2_with fail
      refine (HWC.out wc (bsq HB.out HCb.out)).mono ?_
      rintro e wf ⟨rfl, hbf⟩
      have HCf : Hid (Below wb.heap.size wb wf) := bsq HCb.out hbf
      clear hbf x0 x1 x2 x3 x4
      go_wp2_with fail
      refine (HRC.out trivial _).mono ?_
      rintro e wg ⟨vf, L, X, rfl, hI, hL⟩
      have HBg : Hid (Below wb.heap.size wb wg) := bsq HCf.out hI.bel
      have hrc := HRR.out vf L X _ _ hI hL
      obtain ⟨ga, gn, gc, rfl⟩ : ∃ a n c, vf = .slice a n c := by obtain ⟨a, c, h, _⟩ := hrc.fs.row; exact ⟨_, _, _, h⟩
      obtain ⟨wh, hwh⟩ : ∃ wh, wg.alloc (cfO va na atr po (.slice ga gn gc)) = wh := ⟨_, rfl⟩
      have hbh : Below wg.heap.size wg wh := by rw [← hwh]; exact balloc _ _
      have HBh : Hid (Below wb.heap.size wb wh) := bsq HBg.out hbh
      have HXh : Hid (wh.heap[wg.heap.size]? = some (cfO va na atr po (.slice ga gn gc))) := by rw [← hwh]; exact (MapKept.heap_alloc wg _).1
      have HRh : Hid (∀ u, Below wh.heap.size wh u → Rc u (.slice ga gn gc) ⟨va, na, atr, po, fs⟩ L) := fun u hu => (hrc.below hbh).below hu
      clear hI hL hrc hbh
      go_wp2_with fail
      refine (HL.out _).mono ?_
      rintro e wi ⟨rfl, hbi⟩
      have HBi : Hid (Below wb.heap.size wb wi) := bsq HBh.out hbi
      obtain ⟨⟨hzY, y0, y1, y2, y3, y4⟩, _⟩ := box5f (res_below HXh.out hbi)
      obtain ⟨x0, x1, x2, x3, x4⟩ := HXB.out wi HBi.out
      have HS : Hid (Below wh.heap.size wh wi) := hbi
      clear hbi
      go_wp2_with fail
      refine (HSC.out wi _ L (bsq HB.out HBi.out) (HRh.out wi HS.out)).mono ?_
      rintro e wj ⟨rfl, hbj⟩
      have HBj : Hid (Below w.heap.size w wj) := bsq HB.out (bsq HBi.out hbj)
      clear hbj y0 y1 y2 y3 y4 x0 x1 x2 x3 x4 hzY
      go_wp2
      go_ret
      refine ⟨?_, HBj.out⟩
      show Ending.returned (.bool (decide ((cT.size : Int) ≤ 512))) = _
      rw [decide_eq_true (by omega)]
    · have e2 : wdC a0 ≠ 0 := by unfold wdC; rw [if_neg hd]; decide
      obtain ⟨dT, hdT⟩ : ∃ z, wdT a0 = z := ⟨_, rfl⟩
      obtain ⟨dz, hdz⟩ : ∃ z, wdC a0 = z := ⟨_, rfl⟩
      rw [hdT, hdz] at HWD
      have hdn : (dz == 0) = false := by rw [← hdz]; simpa using e2
      clear hdT hdz e2 hd
      obtain ⟨d0, d1, d2, d3, d4, d5, d6, d7, d8, d9, d10, d11⟩ := a0
      obtain ⟨va, na, atr, po, fs⟩ := a1
      simp only at *
      obtain ⟨x0, x1, x2, x3, x4⟩ := HXB.out wb (Below.refl _ _)
      obtain ⟨hzD, q0, q1, q2, q3, q4, q5, q6, q7, q8, q9, q10, q11⟩ := HXA.out wb (Below.refl _ _)
      simp only at q0 q1 q2 q3 q4 q5 q6 q7 q8 q9 q10 q11
      have hzn : (cz != 0) = true := by simpa using hz
      rw [if_neg hz] at HWT
      have hTT : cT = ⟨#[]⟩ := HWT.out
      subst hTT
      clear HTZ HWT hcz hcT HRC
      go_enter Try.func3, Try.ntmps3
      go_wp2_with fail
      refine (HWD.out _).mono ?_
      rintro e wc ⟨rfl, hbc⟩
      have HCb : Hid (Below wb.heap.size wb wc) := hbc
      clear q0 q1 q2 q3 q4 q5 q6 q7 q8 q9 q10 q11 hzD x0 x1 x2 x3 x4
      obtain ⟨x0, x1, x2, x3, x4⟩ := HXB.out wc HCb.out
      clear hbc
      go_wp2_with fail
      refine (HWC.out wc (bsq HB.out HCb.out)).mono ?_
      rintro e wf ⟨rfl, hbf⟩
      have HCf : Hid (Below wb.heap.size wb wf) := bsq HCb.out hbf
      clear hbf x0 x1 x2 x3 x4
      go_wp2_with fail
      refine (HL.out _).mono ?_
      rintro e wi ⟨rfl, hbi⟩
      have HBi : Hid (Below w.heap.size w wi) := bsq HB.out (bsq HCf.out hbi)
      clear hbi
      go_wp2
      go_ret
      exact ⟨rfl, HBi.out⟩
end Go.Proofs.Ytilfenijbbhfjab.descBack
