/- DescOwn: the walk, once configOf answers as it should. -/
import Derived.Test.YtilfenijbbhfjabDescOa
import Derived.Test.YtilfenijbbhfjabDescSa
import Derived.Test.YtilfenijbbhfjabDescBackV
namespace Go.Proofs.Ytilfenijbbhfjab.descOwn
open Go.RowKit Go.PlainAid Go.Proofs.Ytilfenijbbhfjab.lane Go.Proofs.Ytilfenijbbhfjab.desc
set_option linter.unusedVariables false
set_option linter.unusedSimpArgs false
set_option maxRecDepth 100000

abbrev fcO (f : Fc) (ve vd : Value) : Obj := .cells #[.int .i64 f.cl, .int .i64 f.su, .int .i64 f.pr, .int .i64 f.nm, ve, vd] 43
/-- the face is as it was read -/
def Cur (wo : World) (f : Fc) (ve vd : Value) (u : World) : Prop := Below wo.heap.size wo u ∧ u.heap[wo.heap.size]? = some (fcO f ve vd)
theorem Cur.below {wo u u' : World} {f : Fc} {ve vd : Value} (h : Cur wo f ve vd u) (hb : Below u.heap.size u u') : Cur wo f ve vd u' := ⟨bsq h.1 hb, res_below h.2 hb⟩
theorem boxF {u : World} {X : Nat} {f : Fc} {ve vd : Value} (h : u.heap[X]? = some (fcO f ve vd)) : (X < u.heap.size ∧ u.cell? ⟨X, 4, none⟩ = some ve ∧ u.cell? ⟨X, 5, none⟩ = some vd) ∧ u.frozen? ⟨X, 4, none⟩ = false ∧ u.frozen? ⟨X, 5, none⟩ = false := by
  have hf : ∀ i, u.frozen? ⟨X, i, none⟩ = false := fun i => frozen_of_row u X i _ _ h
  refine ⟨⟨(Array.getElem?_eq_some_iff.1 h).1, ?_, ?_⟩, hf 4, hf 5⟩ <;> (rw [cell_of_row u X _ _ _ (0, 0) h]; rfl)
set_option maxHeartbeats 8000000 in
theorem walk_of (hco : CoAll) (a0 : Cf) (c0 : Value) (L0 : FL) (w : World) (hc0 : Rc w c0 a0 L0) (hbk : L0.length * 80 ≤ 140737488351232 ∧ ∀ q ∈ L0, q.1.ex.length * 16 ≤ 140737488351232 ∧ q.1.en.length * 40 ≤ 140737488351232) :
    Calls Try.prog 8 #[cfV a0 c0] w fun e w' => e = .returned (.bool true) ∧ Below w.heap.size w w' := by
  have HL : Hid (∀ w : World, Calls Try.prog 12 #[] w fun e w' => e = .returned (.bool true) ∧ Below w.heap.size w w') := descLives_any
  have HWC : Hid (∀ u, Below w.heap.size w u → Calls Try.prog 11 #[cfV a0 c0] u fun e w' => e = .returned (.tuple #[.string (wcT a0), .int .i64 (chkC a0)]) ∧ Below u.heap.size u w') := fun u hu => writeConfig_any a0 c0 L0 u (hc0.below hu)
  have HSC : Hid (∀ u vf L, Below w.heap.size w u → Rc u vf a0 L → Calls Try.prog 14 #[cfV a0 c0, cfV a0 vf] u fun e w' => e = .returned (.bool true) ∧ Below u.heap.size u w') := fun u vf L hu hr => sameConfig_same a0 c0 vf L0 L u (hc0.below hu) hr
  have HSD : Hid (∀ u vf L, Below w.heap.size w u → Rc u vf a0 L → Calls Try.prog 14 #[cfV a0 vf, cfV a0 c0] u fun e w' => e = .returned (.bool true) ∧ Below u.heap.size u w') := fun u vf L hu hr => sameConfig_same a0 vf c0 L L0 u hr (hc0.below hu)
  have HRC : Hid (chkC a0 = 0 → ∀ u, Calls Try.prog 13 #[.string (strOfNums (confL a0))] u fun e w' => ∃ vf L X, e = .returned (.tuple #[cfV a0 vf, .int .i64 0]) ∧ Inv u w' X a0.va a0.na a0.atr a0.po vf L ∧ L.map Prod.fst = a0.fs) := fun hz u => descBack.readBack hco a0 u hz (fun f hf => by
      rw [← hc0.eq] at hf
      obtain ⟨q, hq, rfl⟩ := List.mem_map.1 hf
      exact (hc0.fs.all q hq).bb)
  have HWT : Hid (chkC a0 = 0 → wcT a0 = strOfNums (confL a0)) := fun hz => by unfold wcT; rw [if_pos hz]
  have HEQ : Hid (L0.map Prod.fst = a0.fs) := hc0.eq
  have HBK : Hid _ := hbk.2
  have hn0 := hbk.1
  obtain ⟨a, cap, rfl, hlc, hcm, _⟩ := hc0.fs.cell
  unfold maxLen at hcm
  obtain ⟨w0, hw0⟩ : ∃ w0, w.alloc (cfO a0.va a0.na a0.atr a0.po (.slice a L0.length cap)) = w0 := ⟨_, rfl⟩
  have hb0 : Below w.heap.size w w0 := by rw [← hw0]; exact balloc _ _
  have hC0 : w0.heap[w.heap.size]? = some (cfO a0.va a0.na a0.atr a0.po (.slice a L0.length cap)) := by rw [← hw0]; exact (MapKept.heap_alloc w _).1
  have HX : Hid (∀ u, Below w0.heap.size w0 u → (u.cell? ⟨w.heap.size, 0, none⟩ = some (.int .i64 a0.va) ∧ u.cell? ⟨w.heap.size, 1, none⟩ = some (.int .i64 a0.na) ∧ u.cell? ⟨w.heap.size, 2, none⟩ = some (.int .i64 a0.atr) ∧ u.cell? ⟨w.heap.size, 3, none⟩ = some (.int .i64 a0.po) ∧ u.cell? ⟨w.heap.size, 4, none⟩ = some (.slice a L0.length cap)) ∧ Rfs u (.slice a L0.length cap) L0) := fun u hu => ⟨(box5f (res_below hC0 hu)).1.2, hc0.fs.below (bsq hb0 hu)⟩
  have HB0 : Hid (Below w.heap.size w w0) := hb0
  obtain ⟨w1, hw1⟩ : ∃ w1, w0.alloc (cfO a0.va a0.na a0.atr a0.po (.slice none 0 0)) = w1 := ⟨_, rfl⟩
  have hb1 : Below w0.heap.size w0 w1 := by rw [← hw1]; exact balloc _ _
  have HF1 : Hid (Bf w0 w1 w0.heap.size a0.va a0.na a0.atr a0.po (.slice none 0 0) []) :=
    ⟨by rw [← hw1]; exact (MapKept.heap_alloc w0 _).1, Nat.le_refl _, ⟨rfl, .inl ⟨rfl, rfl⟩⟩, fun q hq => by simp at hq, fun q hq => by simp at hq, fun q hq => by simp at hq, hb1⟩
  obtain ⟨⟨x0, x1, x2, x3, x4⟩, _⟩ := HX.out w0 (Below.refl _ _)
  obtain ⟨⟨y0, y1, y2, y3, y4⟩, _⟩ := HX.out w1 hb1
  obtain ⟨n, hn⟩ : ∃ n, L0.length = n := ⟨_, rfl⟩
  have HN : Hid (L0.length = n) := hn
  rw [hn] at hlc hn0 HX HWC HSC HSD x4 y4 hw0
  rw [hn]
  obtain ⟨cz, hcz⟩ : ∃ z, chkC a0 = z := ⟨_, rfl⟩
  obtain ⟨cT, hcT⟩ : ∃ z, wcT a0 = z := ⟨_, rfl⟩
  rw [hcz, hcT] at HWC
  rw [hcz, hcT] at HWT
  rw [hcz] at HRC
  generalize strOfNums (confL a0) = T1 at *
  obtain ⟨va, na, atr, po, fs⟩ := a0
  simp only at *
  rw [← hw1] at HF1 y0 y1 y2 y3 y4
  clear hb0 hC0 hb1 hc0 hbk hn hcz hcT hw1
  go_enter Try.func8, Try.ntmps8
  go_wp2
  clear x0 x1 x2 x3 x4 y0 y1 y2 y3 y4
  go_loopw [26] (fun i wr => ∃ (k : Nat) (vb : Value) (L' : FL), k ≤ n ∧ i = .int .i64 (k : Int) ∧ Bf w0 wr w0.heap.size va na atr po vb L' ∧ Hid (L'.map Prod.fst = (L0.take k).map Prod.fst)) (fun i _ => n - (intOf i).toNat)
  case atStart => exact ⟨0, _, [], Nat.zero_le _, rfl, HF1.out, by show _ = _; simp⟩
  case round =>
    obtain ⟨k, vb, L', hk, rfl, hBf, HR⟩ := hrel
    obtain ⟨wo, rfl⟩ : ∃ wo, wo = wr := ⟨_, rfl⟩
    have HBf : Hid (Bf w0 wo w0.heap.size va na atr po vb L') := hBf
    clear hBf
    by_cases hlt : k < n
    · have hk1 : k < L0.length := by have := HN.out; omega
      obtain ⟨q, hq⟩ : ∃ q, L0[k]? = some q := ⟨L0[k], List.getElem?_eq_getElem hk1⟩
      obtain ⟨_, hRL⟩ := HX.out wo HBf.out.bel
      have hRq := hRL.all q (List.mem_of_getElem? hq)
      have hqb := HBK.out q (List.mem_of_getElem? hq)
      obtain ⟨f, ve, vd⟩ := q
      obtain ⟨a', cap', e1, _, _, hcell⟩ := hRL.cell
      obtain ⟨g, off, hag, d0, d1, d2, d3, d4, d5⟩ := hcell k _ hq
      have haa : a = a' := by injection e1
      rw [← haa] at hag
      subst hag
      simp only at *
      obtain ⟨w2, hw2⟩ : ∃ w2, wo.alloc (fcO f ve vd) = w2 := ⟨_, rfl⟩
      have hb2 : Below wo.heap.size wo w2 := by rw [← hw2]; exact balloc _ _
      have hF2 : w2.heap[wo.heap.size]? = some (fcO f ve vd) := by rw [← hw2]; exact (MapKept.heap_alloc wo _).1
      have HCU : Hid (Cur wo f ve vd w2.drew) := ⟨hb2.drew, hF2⟩
      have HCT : Hid (∀ u, Hid (Cur wo f ve vd u) → Calls Try.prog 20 #[ve] u fun e w' => ∃ v', e = .returned v' ∧ Txs w' wo.heap.size v' f.ex ∧ Below u.heap.size u w' ∧ Cur wo f ve vd w') := fun u hu => (cloneT_any ve f.ex u (hRq.ex.below hu.out.1) (by omega)).mono fun e w' ⟨v', h1, h2, h3⟩ => ⟨v', h1, own_mono h2 hu.out.1.size, h3, hu.out.below h3⟩
      have HCE : Hid (∀ u, Hid (Cur wo f ve vd u) → Calls Try.prog 21 #[vd] u fun e w' => ∃ v', e = .returned v' ∧ Eds w' wo.heap.size v' f.en ∧ Below u.heap.size u w' ∧ Cur wo f ve vd w') := fun u hu => (cloneE_any vd f.en u (hRq.en.below hu.out.1) (by omega)).mono fun e w' ⟨v', h1, h2, h3⟩ => ⟨v', h1, own_mono h2 hu.out.1.size, h3, hu.out.below h3⟩
      have HBB : Hid (BB f.ex ∧ ∀ x ∈ f.ex, x.length ≤ maxLen) := ⟨hRq.bb, hRq.sz⟩
      have HQK : Hid (L0[k]? = some (f, ve, vd)) := hq
      obtain ⟨ve1, ve3, hve, _, _, _⟩ := hRq.ex.cell
      obtain ⟨vd1, vd3, hvd, _, _, _⟩ := hRq.en.cell
      simp only at hve hvd
      subst hve hvd
      obtain ⟨nx, hnx⟩ : ∃ m, f.ex.length = m := ⟨_, rfl⟩
      obtain ⟨nE, hnE⟩ : ∃ m, f.en.length = m := ⟨_, rfl⟩
      have HNX : Hid (f.ex.length = nx) := hnx
      have HNE : Hid (f.en.length = nE) := hnE
      simp only [hnx, hnE] at d4 d5 hw2 HCU HCT HCE HQK
      obtain ⟨⟨hz2, p4, p5⟩, g4, g5⟩ := boxF (u := w2.drew) HCU.out.2
      clear hb2 hF2 hRq hRL hcell e1 haa hq hk1 hqb hnx hnE
      go_wp2_with fail
      obtain ⟨i0, hi, hz0, hz1, hz2'⟩ := info_parts infoF
      go_region_law (first
        | (refine step_call (by rfl) 20 #[.slice ve1 nx ve3] ?_ ?_
           · (simp [execOp, go_sem]; done)
           refine (HCT.out _ (by assumption)).mono ?_
           rintro r u1 ⟨vT, rfl, hT, hbT, hcT⟩
           obtain ⟨aT, kT, rfl, _, _⟩ := own_form hT
           refine ⟨_, rfl, ?_⟩
           rw [HNX.out] at hT ⊢
           have cC : Hid (Cur wo f (.slice ve1 nx ve3) (.slice vd1 nE vd3) u1) := hcT
           have tT : Hid (Txs u1 wo.heap.size (.slice aT nx kT) f.ex) := hT
           try (have tE : Hid (Eds u1 wo.heap.size (.slice aE nE kE) f.en) := own_below tE.out hbT)
           obtain ⟨⟨_, pp4, pp5⟩, gg4, gg5⟩ := boxF hcT.2
           clear hT hbT hcT)
        | (refine step_call (by rfl) 21 #[.slice vd1 nE vd3] ?_ ?_
           · (simp [execOp, go_sem]; done)
           refine (HCE.out _ (by assumption)).mono ?_
           rintro r u1 ⟨vE, rfl, hE, hbE, hcE⟩
           obtain ⟨aE, kE, rfl, _, _⟩ := own_form hE
           refine ⟨_, rfl, ?_⟩
           rw [HNE.out] at hE ⊢
           have cC : Hid (Cur wo f (.slice ve1 nx ve3) (.slice vd1 nE vd3) u1) := hcE
           have tE : Hid (Eds u1 wo.heap.size (.slice aE nE kE) f.en) := hE
           try (have tT : Hid (Txs u1 wo.heap.size (.slice aT nx kT) f.ex) := own_below tT.out hbE)
           obtain ⟨⟨_, pp4, pp5⟩, gg4, gg5⟩ := boxF hcE.2
           clear hE hbE hcE))
      all_goals go_simp
      all_goals
        (obtain ⟨w5, hw5⟩ : ∃ w5, (u1.setCell ⟨wo.heap.size, 4, none⟩ (.slice aT nx kT)).setCell ⟨wo.heap.size, 5, none⟩ (.slice aE nE kE) = w5 := ⟨_, rfl⟩
         have hF4 : (u1.setCell ⟨wo.heap.size, 4, none⟩ (.slice aT nx kT)).heap[wo.heap.size]? = some (fcO f (.slice aT nx kT) (.slice vd1 nE vd3)) := csetX 4 _ cC.out.2 rfl
         have hF5 : w5.heap[wo.heap.size]? = some (fcO f (.slice aT nx kT) (.slice aE nE kE)) := by rw [← hw5]; exact csetX 5 _ hF4 rfl
         have hB5 : Below wo.heap.size wo w5 := by rw [← hw5]; exact (cC.out.1.setCell (Nat.le_refl _) _).setCell (Nat.le_refl _) _
         have hT4 := ownsRow_setCell_other (a := ⟨wo.heap.size, 4, none⟩) tT.out (box_ne tT.out cC.out.2 (by decide)) (.slice aT nx kT)
         have hT5 : Txs w5 wo.heap.size (.slice aT nx kT) f.ex := by rw [← hw5]; exact ownsRow_setCell_other hT4 (box_ne hT4 hF4 (by decide)) _
         have hE4 := ownsRow_setCell_other (a := ⟨wo.heap.size, 4, none⟩) tE.out (box_ne tE.out cC.out.2 (by decide)) (.slice aT nx kT)
         have hE5 : Eds w5 wo.heap.size (.slice aE nE kE) f.en := by rw [← hw5]; exact ownsRow_setCell_other hE4 (box_ne hE4 hF4 (by decide)) _
         have hf5 := HBf.out.below hB5
         have hlk : L'.length = k := by have h1 := congrArg List.length HR.out; rw [List.length_map, List.length_map, List.length_take, HN.out] at h1; omega
         obtain ⟨ab, cb, hvb, _, hcb⟩ := own_form hf5.row
         rw [hlk] at hvb
         subst hvb
         obtain ⟨r0, r1, r2, r3, r4, r5⟩ := box6r hF5
         obtain ⟨⟨hzB, _, _, _, _, s4⟩, _⟩ := box5f hf5.box
         have H5 : Hid (Bf w0 w5 w0.heap.size va na atr po (.slice ab k cb) L' ∧ Txs w5 w0.heap.size (.slice aT nx kT) f.ex ∧ Eds w5 w0.heap.size (.slice aE nE kE) f.en) := ⟨hf5, own_mono hT5 HBf.out.bel.size, own_mono hE5 HBf.out.bel.size⟩
         have HLK : Hid (L'.length = k) := hlk
         rw [hw5]
         clear hF4 hF5 hB5 hT4 hT5 hE4 hE5 hf5 hlk hw5 pp4 pp5 gg4 gg5 p4 p5 g4 g5 cC tT tE HCT HCE HCU
         go_wp2_with
           (at_builtin
            refine wpList_append_own _ rfl _ _ 24 rfl w0.heap.size 43 i0 _ 6 80 Try.underlying24 hi hz0 hz1 hz2' rfl (by omega) _ k (fcells L') rfl (by have := World.ownsRow.alloc H5.out.1.row (.cells #[.int .i64 f.cl, .int .i64 f.su, .int .i64 f.pr, .int .i64 f.nm, .slice aT nx kT, .slice aE nE kE] 43); rw [HLK.out] at this; exact this)
              ⟨w5.heap.size, 0, none⟩ 1 1 (fcell (f, .slice aT nx kT, .slice aE nE kE)) rfl rfl (World.news_of_block (cs := #[.int .i64 f.cl, .int .i64 f.su, .int .i64 f.pr, .int .i64 f.nm, .slice aT nx kT, .slice aE nE kE]) (t := 43) (fr := (0, 0)) (heap_alloc_new w5 _)) (by simp [fcell, Value.oneCell']) (by unfold maxLen; omega) (by omega) (Nat.le_trans H5.out.1.bel.size (balloc w5 _).size) ?_
            intro v6 w6 q1 q2 _
            obtain ⟨a6, c6, rfl, _, hc6⟩ := own_form q1
            have hbx := res_grow (World.ownsRow.alloc H5.out.1.row _) (res_below H5.out.1.box (balloc w5 _)) (by decide) q2
            obtain ⟨⟨hz6, _, _, _, _, s6⟩, _, _, _, _, g6⟩ := box5f hbx
            have HN6 : Hid (Bf w0 (w6.setCell ⟨w0.heap.size, 4, none⟩ (.slice a6 (k + 1) c6)) w0.heap.size va na atr po (.slice a6 (k + 1) c6) (L' ++ [(f, .slice aT nx kT, .slice aE nE kE)])) :=
              Bf.add (H5.out.1.below (balloc w5 _)) (own_below H5.out.2.1 (balloc w5 _)) (own_below H5.out.2.2 (balloc w5 _)) HBB.out (by rw [HLK.out]; exact q1) q2
            clear q1 q2 hbx)
         refine ⟨⟨k + 1, _, _, by omega, by go_num, HN6.out, ?_⟩, by simp [intOf]; omega⟩
         show _ = _
         have hk1 : k < L0.length := by have := HN.out; omega
         rw [List.map_append, HR.out, List.take_succ_eq_append_getElem hk1, (List.getElem?_eq_some_iff.1 HQK.out).2, List.map_append]
         rfl)
    · have HRC' : Hid (∀ u, Below wo.heap.size wo u → Rc u vb ⟨va, na, atr, po, fs⟩ L') := fun u hu => by
        have h1 := (HBf.out.below hu).rc
        refine ⟨h1.fs, ?_⟩
        have h2 := HR.out
        rw [List.take_of_length_le (by have := HN.out; omega), HEQ.out] at h2
        exact h2
      have HBx : Hid (∀ u, Below wo.heap.size wo u → u.cell? ⟨w0.heap.size, 0, none⟩ = some (.int .i64 va) ∧ u.cell? ⟨w0.heap.size, 1, none⟩ = some (.int .i64 na) ∧ u.cell? ⟨w0.heap.size, 2, none⟩ = some (.int .i64 atr) ∧ u.cell? ⟨w0.heap.size, 3, none⟩ = some (.int .i64 po) ∧ u.cell? ⟨w0.heap.size, 4, none⟩ = some vb) := fun u hu => (box5f (HBf.out.below hu).box).1.2
      have HBo : Hid (Below w0.heap.size w0 wo) := HBf.out.bel
      obtain ⟨ab, cb, hvb, _, hcb⟩ := own_form HBf.out.row
      subst hvb
      obtain ⟨m', hm'⟩ : ∃ m, L'.length = m := ⟨_, rfl⟩
      rw [hm'] at HRC' HBx
      obtain ⟨⟨x0, x1, x2, x3, x4⟩, _⟩ := HX.out wo HBo.out
      clear HBf HR HBK HF1 hm'
      go_wp2_with fail
      refine (HWC.out wo (bsq HB0.out HBo.out)).mono ?_
      rintro e w2 ⟨rfl, hb2⟩
      have HB2 : Hid (Below wo.heap.size wo w2) := hb2
      clear hb2 x0 x1 x2 x3 x4
      go_wp2_with fail
      refine (HL.out _).mono ?_
      rintro e w3 ⟨rfl, hb3⟩
      have HB3 : Hid (Below wo.heap.size wo w3) := bsq HB2.out hb3
      clear hb3 HB2
      obtain ⟨⟨x0, x1, x2, x3, x4⟩, _⟩ := HX.out w3 (bsq HBo.out HB3.out)
      obtain ⟨y0, y1, y2, y3, y4⟩ := HBx.out w3 HB3.out
      go_wp2_with fail
      refine (HSC.out w3 _ L' (bsq HB0.out (bsq HBo.out HB3.out)) (HRC'.out w3 HB3.out)).mono ?_
      rintro e w4 ⟨rfl, hb4⟩
      have HB4 : Hid (Below wo.heap.size wo w4) := bsq HB3.out hb4
      clear hb4 HB3 x0 x1 x2 x3 x4 y0 y1 y2 y3 y4
      by_cases hz : cz = 0
      · subst hz
        have hTT : cT = T1 := HWT.out rfl
        subst hTT
        clear HWT
        go_wp2_with fail
        refine (HRC.out trivial w4).mono ?_
        rintro e w5 ⟨vf, L, XX, rfl, hI, hLf⟩
        obtain ⟨gf, cf, hvf, hLc, hcf⟩ := own_form hI.row
        subst hvf
        unfold maxLen at hcf
        obtain ⟨w6, hw6⟩ : ∃ w6, w5.alloc (cfO va na atr po (.slice gf L.length cf)) = w6 := ⟨_, rfl⟩
        have hb6 : Below w5.heap.size w5 w6 := by rw [← hw6]; exact balloc _ _
        have hY6 : w6.heap[w5.heap.size]? = some (cfO va na atr po (.slice gf L.length cf)) := by rw [← hw6]; exact (MapKept.heap_alloc w5 _).1
        obtain ⟨D, N, hDs⟩ := (hI.below hb6).ds hY6 hI.bel.size
        obtain ⟨m, hm⟩ : ∃ m, L.length = m := ⟨_, rfl⟩
        rw [hm] at hw6 hY6 hDs hLc ⊢
        have HDs : Hid (Ds w4 w6 w5.heap.size va na atr po (.slice gf m cf) m D N 0) := hDs
        obtain ⟨⟨hzY, _, _, _, _, y4⟩, _⟩ := box5f hY6
        clear hI hLf hb6 hY6 hDs hm
        go_wp2
        clear y4 hzY
        go_loopw [76] (fun iv wr => ∃ i : Nat, i ≤ m ∧ iv = .int .i64 (i : Int) ∧ Ds w4 wr w5.heap.size va na atr po (.slice gf m cf) m D N i) (fun iv _ => m - (intOf iv).toNat)
        case atStart => exact ⟨0, Nat.zero_le _, rfl, HDs.out⟩
        case round =>
          obtain ⟨i, hi, rfl, hDs⟩ := hrel
          obtain ⟨wp, rfl⟩ : ∃ wp, wp = wr := ⟨_, rfl⟩
          have HDp : Hid (Ds w4 wp w5.heap.size va na atr po (.slice gf m cf) m D N i) := hDs
          clear hDs
          by_cases him : i < m
          · obtain ⟨g, rfl, f4, f5, _⟩ := HDp.out.face him
            obtain ⟨ax, cx, hx, hxc, hxm⟩ := HDp.out.texts him
            obtain ⟨ae, ce, he, hec, hem⟩ := HDp.out.ends him
            obtain ⟨⟨hzY, _, _, _, _, y4⟩, _⟩ := box5f HDp.out.box
            rw [hx] at f4
            rw [he] at f5
            obtain ⟨nx, hnx⟩ : ∃ m, (N i).1 = m := ⟨_, rfl⟩
            obtain ⟨nE, hnE⟩ : ∃ m, (N i).2 = m := ⟨_, rfl⟩
            rw [hnx] at f4 hxc
            rw [hnE] at f5 hec
            have HDX : Hid ((D i).1 = .slice ax (N i).1 cx ∧ (N i).1 = nx) := ⟨hx, hnx⟩
            have HDE : Hid ((D i).2 = .slice ae (N i).2 ce ∧ (N i).2 = nE) := ⟨he, hnE⟩
            unfold maxLen at hxm hem
            clear hx he hnx hnE
            go_wp2
            clear f4 f5 y4 hzY
            go_loopw [86] (fun kv wr => ∃ k : Nat, k ≤ nE ∧ kv = .int .i64 (k : Int) ∧ Ds w4 wr w5.heap.size va na atr po (.slice (some ⟨g, 0, none⟩) m cf) m D N i) (fun kv _ => nE - (intOf kv).toNat)
            case atStart => exact ⟨0, Nat.zero_le _, rfl, HDp.out⟩
            case round =>
              obtain ⟨k, hk, rfl, hDs⟩ := hrel
              have HDk : Hid (Ds w4 wr w5.heap.size va na atr po (.slice (some ⟨g, 0, none⟩) m cf) m D N i) := hDs
              clear hDs
              by_cases hkn : k < nE
              · obtain ⟨g', hg', f4, f5, _⟩ := HDk.out.face him
                injection hg' with hg'
                injection hg' with hg' _ _
                subst hg'
                rw [HDE.out.1, HDE.out.2] at f5
                obtain ⟨⟨hzY, _, _, _, _, y4⟩, _⟩ := box5f HDk.out.box
                obtain ⟨gd, rfl, hcell⟩ := HDk.out.endAt him HDE.out.1 (k := k) (by have := HDE.out.2; omega)
                obtain ⟨⟨v0, c0⟩, b0⟩ := hcell 0 (by omega)
                obtain ⟨⟨v1, c1⟩, b1⟩ := hcell 1 (by omega)
                obtain ⟨⟨v2, c2⟩, b2⟩ := hcell 2 (by omega)
                obtain ⟨⟨v3, c3⟩, b3⟩ := hcell 3 (by omega)
                obtain ⟨⟨v4, c4⟩, b4⟩ := hcell 4 (by omega)
                rw [Nat.add_zero] at c0 b0
                have HN5 : Hid (Ds w4 (((((wr.setCell ⟨gd, k * 5, none⟩ (.int .i64 0)).setCell ⟨gd, k * 5 + 1, none⟩ (.bool false)).setCell ⟨gd, k * 5 + 2, none⟩ (.int .i64 0)).setCell ⟨gd, k * 5 + 3, none⟩ (.int .i64 0)).setCell ⟨gd, k * 5 + 4, none⟩ (.int .i64 0)) w5.heap.size va na atr po (.slice (some ⟨g, 0, none⟩) m cf) m D N i) :=
                  ((((HDk.out.wipeE him HDE.out.1 _ _).wipeE him HDE.out.1 _ _).wipeE him HDE.out.1 _ _).wipeE him HDE.out.1 _ _).wipeE him HDE.out.1 _ _
                clear hcell f4
                go_wp2
                go_roundw
                case rel => exact ⟨k + 1, by omega, by go_num, HN5.out⟩
                case measure => simp [intOf]; omega
              · obtain ⟨wq, rfl⟩ : ∃ wq, wq = wr := ⟨_, rfl⟩
                obtain ⟨g', hg', f4, f5, _⟩ := HDk.out.face him
                injection hg' with hg'
                injection hg' with hg' _ _
                subst hg'
                rw [HDX.out.1, HDX.out.2] at f4
                obtain ⟨⟨hzY, _, _, _, _, y4⟩, _⟩ := box5f HDk.out.box
                clear f5
                go_wp2
                clear f4 y4 hzY
                go_loopw [106] (fun kv wr => ∃ k : Nat, k ≤ nx ∧ kv = .int .i64 (k : Int) ∧ Ds w4 wr w5.heap.size va na atr po (.slice (some ⟨g, 0, none⟩) m cf) m D N i) (fun kv _ => nx - (intOf kv).toNat)
                case atStart => exact ⟨0, Nat.zero_le _, rfl, HDk.out⟩
                case round =>
                  obtain ⟨k2, hk2, rfl, hDs⟩ := hrel
                  have HDj : Hid (Ds w4 wr w5.heap.size va na atr po (.slice (some ⟨g, 0, none⟩) m cf) m D N i) := hDs
                  clear hDs
                  obtain ⟨g', hg', f4, f5, hfc⟩ := HDj.out.face him
                  injection hg' with hg'
                  injection hg' with hg' _ _
                  subst hg'
                  obtain ⟨⟨hzY, _, _, _, _, y4⟩, _⟩ := box5f HDj.out.box
                  by_cases hkn2 : k2 < nx
                  · rw [HDX.out.1, HDX.out.2] at f4
                    obtain ⟨gt, rfl, ⟨v0, c0⟩, b0⟩ := HDj.out.textAt him HDX.out.1 (k := k2) (by have := HDX.out.2; omega)
                    have HN5 : Hid (Ds w4 (wr.setCell ⟨gt, k2, none⟩ (.string ⟨#[]⟩)) w5.heap.size va na atr po (.slice (some ⟨g, 0, none⟩) m cf) m D N i) := HDj.out.wipeT him HDX.out.1 _ _
                    clear hfc f5
                    go_wp2
                    go_roundw
                    case rel => exact ⟨k2 + 1, by omega, by go_num, HN5.out⟩
                    case measure => simp [intOf]; omega
                  · obtain ⟨⟨v0, c0⟩, b0⟩ := hfc 0 (by omega)
                    obtain ⟨⟨v1, c1⟩, b1⟩ := hfc 1 (by omega)
                    obtain ⟨⟨v2, c2⟩, b2⟩ := hfc 2 (by omega)
                    obtain ⟨⟨v3, c3⟩, b3⟩ := hfc 3 (by omega)
                    obtain ⟨_, b4⟩ := hfc 4 (by omega)
                    obtain ⟨_, b5⟩ := hfc 5 (by omega)
                    rw [Nat.add_zero] at c0 b0
                    have HN5 : Hid (Ds w4 ((((((wr.setCell ⟨g, i * 6, none⟩ (.int .i64 7)).setCell ⟨g, i * 6 + 1, none⟩ (.int .i64 0)).setCell ⟨g, i * 6 + 2, none⟩ (.int .i64 0)).setCell ⟨g, i * 6 + 3, none⟩ (.int .i64 0)).setCell ⟨g, i * 6 + 4, none⟩ (.slice none 0 0)).setCell ⟨g, i * 6 + 5, none⟩ (.slice none 0 0)) w5.heap.size va na atr po (.slice (some ⟨g, 0, none⟩) m cf) m D N (i + 1)) :=
                      ((((((HDj.out.up (Nat.le_succ i)).setF _ (by omega) _).setF _ (by omega) _).setF _ (by omega) _).setF _ (by omega) _).setF _ (by omega) _).setF _ (by omega) _
                    clear hfc
                    go_wp2
                    go_roundw
                    case rel => exact ⟨i + 1, by omega, by go_num, HN5.out⟩
                    case measure => simp [intOf]; omega
          · have HBp : Hid (Below wo.heap.size wo wp) := bsq HB4.out HDp.out.bel
            clear HDp HDs
            go_wp2_with fail
            refine (HRC.out trivial wp).mono ?_
            rintro e w7 ⟨vf2, L2, XX2, rfl, hI2, hLf2⟩
            obtain ⟨gf2, cf2, hvf2, _, _⟩ := own_form hI2.row
            subst hvf2
            obtain ⟨w8, hw8⟩ : ∃ w8, w7.alloc (cfO va na atr po (.slice gf2 L2.length cf2)) = w8 := ⟨_, rfl⟩
            have hb8 : Below w7.heap.size w7 w8 := by rw [← hw8]; exact balloc _ _
            have hY8 : w8.heap[w7.heap.size]? = some (cfO va na atr po (.slice gf2 L2.length cf2)) := by rw [← hw8]; exact (MapKept.heap_alloc w7 _).1
            have hrc8 : Rc w8 (.slice gf2 L2.length cf2) ⟨va, na, atr, po, fs⟩ L2 := ⟨(hI2.below hb8).rc.fs, hLf2⟩
            obtain ⟨m2, hm2⟩ : ∃ m, L2.length = m := ⟨_, rfl⟩
            rw [hm2] at hw8 hY8 hrc8 ⊢
            have HB8 : Hid (Below wo.heap.size wo w8) := bsq HBp.out (bsq hI2.bel hb8)
            have HR8 : Hid (Rc w8 (.slice gf2 m2 cf2) ⟨va, na, atr, po, fs⟩ L2) := hrc8
            obtain ⟨⟨hzY, z0, z1, z2, z3, z4⟩, _⟩ := box5f hY8
            obtain ⟨⟨x0, x1, x2, x3, x4⟩, _⟩ := HX.out w8 (bsq HBo.out HB8.out)
            clear hI2 hLf2 hb8 hY8 hrc8 hm2
            go_wp2_with fail
            refine (HSD.out w8 _ L2 (bsq HB0.out (bsq HBo.out HB8.out)) HR8.out).mono ?_
            rintro e w9 ⟨rfl, hb9⟩
            have HB9 : Hid (Below w.heap.size w w9) := bsq HB0.out (bsq HBo.out (bsq HB8.out hb9))
            clear hb9 x0 x1 x2 x3 x4 z0 z1 z2 z3 z4
            go_wp2
            go_ret
            exact ⟨rfl, HB9.out⟩
      · have hzn : (cz != 0) = true := by simpa using hz
        clear hz HRC HWT
        go_wp2_with fail
        refine (HL.out _).mono ?_
        rintro e w5 ⟨rfl, hb5⟩
        have HB5 : Hid (Below wo.heap.size wo w5) := bsq HB4.out hb5
        clear hb5
        obtain ⟨⟨x0, x1, x2, x3, x4⟩, _⟩ := HX.out w5 (bsq HBo.out HB5.out)
        obtain ⟨y0, y1, y2, y3, y4⟩ := HBx.out w5 HB5.out
        go_wp2_with fail
        refine (HSC.out w5 _ L' (bsq HB0.out (bsq HBo.out HB5.out)) (HRC'.out w5 HB5.out)).mono ?_
        rintro e w6 ⟨rfl, hb6⟩
        have HB6 : Hid (Below w.heap.size w w6) := bsq HB0.out (bsq HBo.out (bsq HB5.out hb6))
        clear hb6 x0 x1 x2 x3 x4 y0 y1 y2 y3 y4
        go_wp2
        go_ret
        exact ⟨rfl, HB6.out⟩
end Go.Proofs.Ytilfenijbbhfjab.descOwn
