/- desc: what configOf answers. -/
import Derived.Test.YtonheibhbilhhaaZBd
namespace Go.Proofs.Ytonheibhbilhhaa.desc
open Go.RowKit Go.PlainAid Go.Proofs.Ytonheibhbilhhaa.lane
set_option linter.unusedVariables false
set_option linter.unusedSimpArgs false

set_option maxRecDepth 100000 in
set_option maxHeartbeats 20000000 in
theorem configOf_some (v : Value) (p0 : List Int) (r : List (List Int)) (w : World) (h : Rts w v (p0 :: r)) (hb : BB (p0 :: r)) (hl : ∀ p ∈ r, p.length ≤ 512) (hn : r.length ≤ 512) (h9 : p0.length = 9) :
    Calls Try.prog 91 #[v] w (CoP (p0 :: r) w) := by
  obtain ⟨w0, hw0⟩ : ∃ w0, w.alloc (cfO 0 0 0 0 (.slice none 0 0)) = w0 := ⟨_, rfl⟩
  have hb0 : Below w.heap.size w w0 := by rw [← hw0]; exact balloc _ _
  have hR0 : w0.heap[w.heap.size]? = some (cfO 0 0 0 0 (.slice none 0 0)) := by rw [← hw0]; exact (MapKept.heap_alloc w _).1
  have hlt0 : w.heap.size < w0.heap.size := (Array.getElem?_eq_some_iff.1 hR0).1
  obtain ⟨a, c, rfl, hlc, hcm, hc⟩ := h.cell
  unfold maxLen at hcm
  obtain ⟨g, off, rfl, c0⟩ := hc 0 p0 rfl
  have c1 := kc hb0 c0
  rw [Nat.add_zero] at c1
  have hz := str_size p0
  rw [h9] at hz
  have hbt := get_bt (strOfNums p0)
  have hbp := hb p0 (by simp)
  have g5 := getD_all p0 hbp 9 h9 5 (by omega)
  have g6 := getD_all p0 hbp 9 h9 6 (by omega)
  have g7 := getD_all p0 hbp 9 h9 7 (by omega)
  have g8 := getD_all p0 hbp 9 h9 8 (by omega)
  have HCF : Hid (confO (p0 :: r) = match foldP none r with | none => none | some fs => some ⟨bt (strOfNums p0) 5, bt (strOfNums p0) 6, bt (strOfNums p0) 7, bt (strOfNums p0) 8, fs⟩) := by
    show _ = _
    rw [confO, if_pos h9, g5, g6, g7, g8]
    rfl
  have hzi : ((strOfNums p0).size : Int) = 9 := by omega
  obtain ⟨CF, hCF⟩ : ∃ CF : World → Ending → World → Prop, CF = CoP (p0 :: r) := ⟨_, rfl⟩
  have HP : Hid (∀ w e w', CF w e w' ↔ CoP (p0 :: r) w e w') := fun w e w' => by rw [hCF]
  rw [← hCF]
  clear hCF
  obtain ⟨n, hnn⟩ : ∃ n, r.length = n := ⟨_, rfl⟩
  rw [List.length_cons, hnn] at hlc ⊢
  rw [hnn] at hn
  obtain ⟨a1, hsl, ha1⟩ := rest_texts g off n c hlc
  have HA1 : Hid (0 < n → a1 = some ⟨g, off + 1, none⟩) := ha1
  have HN : Hid (r.length = n) := hnn
  have HC : Hid (∀ u, Below w.heap.size w u → ∀ j p, r[j]? = some p → u.cell? ⟨g, off + 1 + j, none⟩ = some (.string (strOfNums p)) ∧ Byt p ∧ p.length ≤ 512) := by
    intro u hu j p hj
    obtain ⟨g', off', he, hx⟩ := hc (j + 1) p hj
    injection he with he
    injection he with e1 e2
    subst e1 e2
    have hm := List.mem_of_getElem? hj
    refine ⟨?_, hb p (by simp [hm]), hl p hm⟩
    rw [show off + 1 + j = off + (j + 1) by omega]
    exact kc hu hx
  generalize strOfNums p0 = s at *
  have b5 := bt_nonneg s 5
  have b6 := bt_nonneg s 6
  have b7 := bt_nonneg s 7
  have b8 := bt_nonneg s 8
  have d5 := bt_le s 5
  have d6 := bt_le s 6
  have d7 := bt_le s 7
  have d8 := bt_le s 8
  have HB0 : Hid (Below w.heap.size w w0) := hb0
  have HR0 : Hid (w0.heap[w.heap.size]? = some (cfO 0 0 0 0 (.slice none 0 0))) := hR0
  have HLT : Hid (w.heap.size < w0.heap.size) := hlt0
  have hn0 : ((n : Int) + 1 == 0) = false := by rw [beq_eq_false_iff_ne]; omega
  clear hc hb hl h9 h hbp g5 g6 g7 g8 hnn ha1 hb0 hR0 hlt0 c0
  go_enter Try.func91, Try.ntmps91
  go_wp2_with fail
  go_region
  go_wp2_with fail
  obtain ⟨w1, hw1⟩ : ∃ w1, (w0.alloc (cfO (bt s 5) (bt s 6) (bt s 7) (bt s 8) (.slice none 0 0))).drew = w1 := ⟨_, rfl⟩
  have HX1 : Hid (w1.heap[w0.heap.size]? = some (cfO (bt s 5) (bt s 6) (bt s 7) (bt s 8) (.slice none 0 0))) := by rw [← hw1]; exact (MapKept.heap_alloc w0 _).1
  have hb1 : Below w0.heap.size w0 w1 := by rw [← hw1]; exact (balloc _ _).drew
  have HI1 : Hid (Inv w w1 w0.heap.size (bt s 5) (bt s 6) (bt s 7) (bt s 8) (.slice none 0 0) []) :=
    ⟨HX1.out, Nat.le_of_lt HLT.out, ⟨rfl, .inl ⟨rfl, rfl⟩⟩, by simp, by simp, by simp, by simp, by simp, HB0.out.trans (hb1.mono (Nat.le_of_lt HLT.out))⟩
  have HR1 : Hid (w1.heap[w.heap.size]? = some (cfO 0 0 0 0 (.slice none 0 0))) := res_below HR0.out hb1
  rw [hw1]
  obtain ⟨X, hX⟩ : ∃ X, w0.heap.size = X := ⟨_, rfl⟩
  rw [hX] at HI1 HLT HX1 ⊢
  have HXR : Hid (X ≠ w.heap.size) := by have := HLT.out; show _ ≠ _; omega
  clear HX1 HR0 HB0 hX hw1 hb1 hsl c1 hw0
  clear hz hzi hbt
  generalize bt s 5 = va at *
  generalize bt s 6 = na at *
  generalize bt s 7 = atr at *
  generalize bt s 8 = po at *
  go_loopw [39] (fun i wr => ∃ (k : Nat) (st : Option (List Fc × Fc)) (L : FL) (vf : Value), k ≤ n ∧ i = .int .i64 (k : Int) ∧ Hid (Inv w wr X va na atr po vf L) ∧ Hid (wr.heap[w.heap.size]? = some (cfO 0 0 0 0 (.slice none 0 0))) ∧
      Hid (toFs st = L.map Prod.fst ∧ foldP st (r.drop k) = foldP none r ∧ L.length ≤ k ∧ ∀ q ∈ L, q.1.ex.length ≤ k ∧ q.1.en.length ≤ k)) (fun i _ => n - (intOf i).toNat)
  case atStart => exact ⟨0, none, [], .slice none 0 0, Nat.zero_le _, rfl, HI1, HR1, rfl, rfl, Nat.zero_le _, by simp⟩
  case round =>
    obtain ⟨k, st, L, vf, hk, rfl, HI, HR, HS⟩ := hrel
    have HBW : Hid (Below w.heap.size w wr) := HI.out.bel
    obtain ⟨⟨hzX, x0, x1, x2, x3, x4⟩, y0, y1, y2, y3, y4⟩ := box5f HI.out.box
    by_cases hlt : k < n
    · have hk1 : k < r.length := by have := HN.out; omega
      obtain ⟨p, hp⟩ : ∃ p, r[k]? = some p := ⟨r[k], List.getElem?_eq_getElem hk1⟩
      obtain ⟨cp, hbp, hlp⟩ := HC.out wr HBW.out k p hp
      have ha1 := HA1.out (by omega)
      subst ha1
      have HST : Hid (foldP none r = match stepP st p with | none => none | some q => foldP q (r.drop (k + 1))) := HS.out.2.1.symm.trans (fold_at hp)
      have HP1 := isPart_any p 9 4 wr hbp hlp (by omega) (by omega) (by omega) (by omega)
      have HQ1 : Hid (Calls Try.prog 106 #[.string (strOfNums p), .int .i64 9, .int .u8 4] wr fun e w' => e = .returned (.bool (isP p 9 4)) ∧ wr = w') := HP1
      clear HP1
      by_cases h94 : isP p 9 4 = true
      · rw [h94] at HQ1
        have hp9 : p.length = 9 := ((isP_iff p 9 4).1 h94).1
        have hst : stepP st p = some (some (toFs st, faceO p)) := by unfold stepP; rw [if_pos h94]
        have HST2 : Hid (foldP (some (toFs st, faceO p)) (r.drop (k + 1)) = foldP none r) := by have := HST.out; rw [hst] at this; exact this.symm
        have HFO : Hid (∀ u, Calls Try.prog 107 #[.string (strOfNums p)] u fun e w' => e = .returned (fcV (faceO p) (.slice none 0 0) (.slice none 0 0)) ∧ Below u.heap.size u w') := fun u => faceOf_any p u hbp hp9
        have HEX : Hid ((faceO p).ex = [] ∧ (faceO p).en = []) := ⟨rfl, rfl⟩
        obtain ⟨f, hf⟩ : ∃ f, faceO p = f := ⟨_, rfl⟩
        rw [hf] at HST2 HFO HEX
        generalize strOfNums p = t at *
        obtain ⟨i0, hi, hq⟩ := Option.map_eq_some_iff.1 infoF
        injection hq with hz0 hq
        injection hq with hz1 hz2
        obtain ⟨fa, fc, rfl, _, _⟩ := own_form HI.out.row
        have hLk := HS.out.2.2.1
        have HSL : Hid (toFs st = L.map Prod.fst) := HS.out.1
        have HSQ : Hid (∀ q ∈ L, q.1.ex.length ≤ k ∧ q.1.en.length ≤ k) := HS.out.2.2.2
        obtain ⟨m, hm⟩ : ∃ m, L.length = m := ⟨_, rfl⟩
        rw [hm] at x4 HI hLk
        have HM : Hid (L.length = m) := hm
        have q1 : wr.drew.cell? ⟨X, 4, none⟩ = some (.slice fa m fc) := x4
        have q2 : Hid (Inv w wr.drew X va na atr po (.slice fa m fc) L ∧ wr.drew.heap[w.heap.size]? = some (cfO 0 0 0 0 (.slice none 0 0))) := ⟨HI.out.drew, HR.out⟩
        have HRW : Hid (∀ u, Inv w u X va na atr po (.slice fa m fc) L → u.ownsRow w.heap.size 76 6 (.slice fa m fc) m (fcells L)) := fun u hu => by have := hu.row; rw [HM.out] at this; exact this
        obtain ⟨fcl, fsu, fpr, fnm, fex, fen⟩ := f
        obtain ⟨rfl, rfl⟩ : fex = [] ∧ fen = [] := HEX.out
        simp only [fcV] at HFO
        have hnw : ∀ u ∈ ([.int .i64 fcl, .int .i64 fsu, .int .i64 fpr, .int .i64 fnm, .slice none 0 0, .slice none 0 0] : List Value), u.oneCell' = true := by simp [Value.oneCell']
        clear HST hst h94 hp9 hbp hlp HC HA1 hf hp
        go_wp2_with fail
        refine HQ1.out.mono ?_
        rintro e w2 ⟨rfl, rfl⟩
        clear HEX HS HI HR HQ1 x0 x1 x2 x3 x4 y0 y1 y2 y3 y4 hm
        go_wp2_with fail
        go_region_law (first
            | (refine step_call (by rfl) 107 #[.string t] (by simp [execOp, go_sem]) ?_; refine (HFO.out _).mono ?_; rintro r v1 ⟨rfl, hb1⟩; refine ⟨_, rfl, ?_⟩; have t1 : v1.cell? ⟨X, 4, none⟩ = some (.slice fa m fc) := kc hb1 q1; have t2 : Hid (Inv w v1 X va na atr po (.slice fa m fc) L ∧ v1.heap[w.heap.size]? = some (cfO 0 0 0 0 (.slice none 0 0))) := ⟨q2.out.1.below hb1, res_below q2.out.2 hb1⟩; have t3 : (v1.alloc (.cells #[.int .i64 fcl, .int .i64 fsu, .int .i64 fpr, .int .i64 fnm, .slice none 0 0, .slice none 0 0] 76)).cell? ⟨X, 4, none⟩ = some (.slice fa m fc) := kc (balloc _ _) t1; clear hb1)
            | (refine step_append_lies _ (by rfl) _ _ _ (by rfl) w.heap.size 76 i0 _ 6 80 Try.underlying24 hi hz0 hz1 hz2 rfl (by omega) (.slice fa m fc) m (fcells L) (by rfl) (World.ownsRow.alloc (HRW.out _ t2.out.1) _)
                ⟨v1.heap.size, 0, none⟩ 1 1 [.int .i64 fcl, .int .i64 fsu, .int .i64 fpr, .int .i64 fnm, .slice none 0 0, .slice none 0 0] (by rfl) (by rfl) (World.news_of_block (cs := #[.int .i64 fcl, .int .i64 fsu, .int .i64 fpr, .int .i64 fnm, .slice none 0 0, .slice none 0 0]) (t := 76) (fr := (0, 0)) (heap_alloc_new v1 _)) hnw
                (by omega) (by unfold maxLen; omega) (by omega) (Nat.le_trans t2.out.1.bel.size (balloc v1 _).size) (v1.heap.size + 1) (by simp) ?_; intro gn capn w5 hown5 hgrow5 hat5 hgl5
               have hb5 := res_grow (World.ownsRow.alloc (HRW.out _ t2.out.1) _) (t2.out.1.below (balloc v1 _)).box (by decide) hgrow5
               have hr5 := res_grow (World.ownsRow.alloc (HRW.out _ t2.out.1) _) (res_below t2.out.2 (balloc v1 _)) (by decide) hgrow5
               obtain ⟨⟨_, _, _, _, _, m4⟩, _, _, _, _, n4⟩ := box5f hb5
               have t5 : Hid (w5.heap[w.heap.size]? = some (cfO 0 0 0 0 (.slice none 0 0))) := hr5
               have t6 : Hid (Inv w (w5.setCell ⟨X, 4, none⟩ (.slice (some ⟨gn, 0, none⟩) (m + 1) capn)) X va na atr po (.slice (some ⟨gn, 0, none⟩) (m + 1) capn) (L ++ [(⟨fcl, fsu, fpr, fnm, [], []⟩, .slice none 0 0, .slice none 0 0)])) := Inv.addF (t2.out.1.below (balloc v1 _)) ⟨rfl, rfl⟩ (by rw [HM.out]; exact hown5) hgrow5
               clear hb5 hr5 hown5 hgrow5 hat5 hgl5 t1 t2 t3))
        all_goals go_wp2
        all_goals go_roundw
        all_goals first
          | exact ⟨k + 1, some (toFs st, ⟨fcl, fsu, fpr, fnm, [], []⟩), _, _, by omega, by go_num, t6, res_set t5.out HXR.out.symm, (by show toFs st ++ [_] = _; rw [HSL.out, List.map_append]; rfl), HST2.out, by rw [List.length_append, HM.out]; simp; omega, fun q hq => by
              rcases List.mem_append.1 hq with hq | hq
              · have := HSQ.out q hq; omega
              · simp at hq; subst hq; simp⟩
          | (simp [intOf]; omega)
      · have h94' : isP p 9 4 = false := by simpa using h94
        rw [h94'] at HQ1
        have HP2 := isPart_any p 7 5 wr hbp hlp (by omega) (by omega) (by omega) (by omega)
        have HQ2 : Hid (Calls Try.prog 106 #[.string (strOfNums p), .int .i64 7, .int .u8 5] wr fun e w' => e = .returned (.bool (isP p 7 5)) ∧ wr = w') := HP2
        clear HP2
        obtain ⟨fa, fc, rfl, _, _⟩ := own_form HI.out.row
        rcases split_last L with rfl | ⟨D, q, rfl⟩
        · have hst := toFs_nil HS.out.1
          subst hst
          have hstp : stepP none p = none := by unfold stepP; rw [if_neg h94]
          have hfn : foldP none r = none := by have := HST.out; rw [hstp] at this; exact this
          obtain ⟨⟨hzR, z0, z1, z2, z3, z4⟩, f0, f1, f2, f3, f4⟩ := box5f HR.out
          obtain ⟨wf, hwf, hRf, hBf, _⟩ := ch5 wr w.heap.size _ _ _ _ _ 0 0 0 0 (.slice none 0 0) HR.out
          have hE : CoP (p0 :: r) w (.returned (.tuple #[cfV noC (.slice none 0 0), .bool false])) wf := .inl ⟨by rw [HCF.out, hfn], rfl, hBf w (Nat.le_refl _) HBW.out⟩
          have HE : Hid (CF w (.returned (.tuple #[cfV noC (.slice none 0 0), .bool false])) wf) := (HP.out _ _ _).2 hE
          obtain ⟨⟨hzf, r0, r1, r2, r3, r4⟩, _⟩ := box5f hRf
          generalize strOfNums p = t at *
          simp only [List.length_nil] at x4
          clear HST hstp hfn h94 h94' hbp hlp HC HA1 hp HQ2 hE hBf hRf HI HR HS
          go_wp2_with fail
          refine HQ1.out.mono ?_
          rintro e w2 ⟨rfl, rfl⟩
          clear HQ1
          go_wp2
          try rw [hwf]
          exact bodyPost_ret (v := .tuple #[cfV noC (.slice none 0 0), .bool false]) (by simp [results, Try.results91, go_sem, hzf, r0, r1, r2, r3, r4, noC]) rfl HE.out
        · obtain ⟨f, ve, vd⟩ := q
          have hst : st = some (D.map Prod.fst, f) := toFs_last (by rw [HS.out.1, List.map_append]; rfl)
          subst hst
          have hrow := HI.out.row
          obtain ⟨gF, cF, hform, hgF0, hgF1⟩ := World.ownsRow.form hrow (by simp)
          have hD1 : (D ++ [(f, ve, vd)]).length = D.length + 1 := by simp
          rw [hD1] at hform x4 HI
          injection hform with e1 e2 e3
          subst e1 e3
          have htx := HI.out.tx (f, ve, vd) (by simp)
          have hen := HI.out.en (f, ve, vd) (by simp)
          obtain ⟨va1, va3, hve, _, _⟩ := own_form htx
          obtain ⟨vd1, vd3, hvd, _, _⟩ := own_form hen
          obtain ⟨⟨l4, l5⟩, lf⟩ := Inv.last HI.out htx (by decide) (World.grownBy.refl _ _)
          have hsq := HS.out.2.2.2 (f, ve, vd) (by simp)
          have hDk := HS.out.2.2.1
          rw [hD1] at hDk
          have HSQ : Hid (∀ q ∈ D, q.1.ex.length ≤ k ∧ q.1.en.length ≤ k) := fun q hq => HS.out.2.2.2 q (by simp [hq])
          have HQB : Hid (Byt p ∧ p.length ≤ 512) := ⟨hbp, hlp⟩
          obtain ⟨m, hm⟩ : ∃ m, D.length = m := ⟨_, rfl⟩
          have HM : Hid (D.length = m) := hm
          rw [hm] at x4 l4 l5 hDk HI
          simp only at hve hvd l4 l5 hsq
          have hm1 : (m : Int) + 1 - 1 = (m : Int) := by omega
          have hmn : ((m : Int) + 1 == 0) = false := by rw [beq_eq_false_iff_ne]; omega
          have HT : Hid (Txs wr w.heap.size ve f.ex) := htx
          have HN2 : Hid (Eds wr w.heap.size vd f.en) := hen
          have HRG : Hid (w.heap.size ≠ gF) := fun q => box_ne (show wr.ownsRow w.heap.size 76 6 (.slice (some ⟨gF, 0, none⟩) (D ++ [(f, ve, vd)]).length fc) _ _ from hrow) HR.out (by decide) (by rw [q]; rfl)
          by_cases h75 : isP p 7 5 = true
          · rw [h75] at HQ2
            have hstp : stepP (some (D.map Prod.fst, f)) p = some (some (D.map Prod.fst, addE f (endO p))) := by unfold stepP; rw [if_neg h94]; show (if isP p 7 5 = true then _ else _) = _; rw [if_pos h75]
            have HST2 : Hid (foldP (some (D.map Prod.fst, addE f (endO p))) (r.drop (k + 1)) = foldP none r) := by have := HST.out; rw [hstp] at this; exact this.symm
            have hp7 : p.length = 7 := ((isP_iff p 7 5).1 h75).1
            have HEO : Hid (∀ u, Calls Try.prog 108 #[.string (strOfNums p)] u fun e w' => e = .returned (evV (endO p)) ∧ Below u.heap.size u w') := fun u => endOf_any p u hbp hp7
            obtain ⟨en1, hen1⟩ : ∃ en1, endO p = en1 := ⟨_, rfl⟩
            rw [hen1] at HST2 HEO
            obtain ⟨ead, einw, ekd, emx, eiv⟩ := en1
            simp only [evV] at HEO
            obtain ⟨nd, hnd⟩ : ∃ nd, f.en.length = nd := ⟨_, rfl⟩
            have HND : Hid (f.en.length = nd) := hnd
            rw [hnd] at hvd hsq
            subst hvd
            have HRW : Hid (∀ u, Inv w u X va na atr po (.slice (some ⟨gF, 0, none⟩) (m + 1) fc) (D ++ [(f, ve, .slice vd1 nd vd3)]) → u.ownsRow w.heap.size 85 5 (.slice vd1 nd vd3) nd (ecells f.en)) := fun u hu => by have := hu.en _ (List.mem_append.2 (.inr (List.mem_singleton.2 rfl))); unfold Eds at this; simp only [HND.out] at this; exact this
            obtain ⟨i0, hi, hq⟩ := Option.map_eq_some_iff.1 infoE
            injection hq with hz0 hq
            injection hq with hz1 hz2
            have q1 : wr.drew.cell? ⟨gF, m * 6 + 5, none⟩ = some (.slice vd1 nd vd3) := l5
            have q2 : Hid (Inv w wr.drew X va na atr po (.slice (some ⟨gF, 0, none⟩) (m + 1) fc) (D ++ [(f, ve, .slice vd1 nd vd3)]) ∧ wr.drew.heap[w.heap.size]? = some (cfO 0 0 0 0 (.slice none 0 0))) := ⟨HI.out.drew, HR.out⟩
            have hnw : ∀ u ∈ ([.int .i64 ead, .bool einw, .int .i64 ekd, .int .i64 emx, .int .i64 eiv] : List Value), u.oneCell' = true := by simp [Value.oneCell']
            generalize strOfNums p = t at *
            clear HST hstp h94 h94' h75 hbp hlp HC HA1 hp hrow htx hen hm hnd hve HT HN2 HS hen1 hp7
            go_wp2_with fail
            refine HQ1.out.mono ?_
            rintro e w2 ⟨rfl, rfl⟩
            go_wp2_with fail
            refine HQ2.out.mono ?_
            rintro e w2 ⟨rfl, rfl⟩
            clear HQ1 HQ2 HI HR x0 x1 x2 x3 y0 y1 y2 y3 y4 l4
            go_wp2_with fail
            go_region_law (first
              | (refine step_call (by rfl) 108 #[.string t] (by simp [execOp, go_sem]) ?_
                 refine (HEO.out _).mono ?_
                 rintro rr v1 ⟨rfl, hb1⟩
                 refine ⟨_, rfl, ?_⟩
                 have t1 : v1.cell? ⟨gF, m * 6 + 5, none⟩ = some (.slice vd1 nd vd3) := kc hb1 q1
                 have t2 : Hid (Inv w v1 X va na atr po (.slice (some ⟨gF, 0, none⟩) (m + 1) fc) (D ++ [(f, ve, .slice vd1 nd vd3)]) ∧ v1.heap[w.heap.size]? = some (cfO 0 0 0 0 (.slice none 0 0))) := ⟨q2.out.1.below hb1, res_below q2.out.2 hb1⟩
                 have t3 : (v1.alloc (.cells #[.int .i64 ead, .bool einw, .int .i64 ekd, .int .i64 emx, .int .i64 eiv] 85)).cell? ⟨gF, m * 6 + 5, none⟩ = some (.slice vd1 nd vd3) := kc (balloc _ _) t1
                 clear hb1)
              | (refine step_append_lies _ (by rfl) _ _ _ (by rfl) w.heap.size 85 i0 _ 5 40 Try.underlying74 hi hz0 hz1 hz2 rfl (by omega) (.slice vd1 nd vd3) nd (ecells f.en) (by rfl) (World.ownsRow.alloc (HRW.out _ t2.out.1) _)
                  ⟨v1.heap.size, 0, none⟩ 1 1 [.int .i64 ead, .bool einw, .int .i64 ekd, .int .i64 emx, .int .i64 eiv] (by rfl) (by rfl) (World.news_of_block (cs := #[.int .i64 ead, .bool einw, .int .i64 ekd, .int .i64 emx, .int .i64 eiv]) (t := 85) (fr := (0, 0)) (heap_alloc_new v1 _)) hnw
                  (by omega) (by unfold maxLen; omega) (by omega) (Nat.le_trans t2.out.1.bel.size (balloc v1 _).size) (v1.heap.size + 1) (by simp) ?_
                 intro gn capn w5 hown5 hgrow5 hat5 hgl5
                 have hI5 := t2.out.1.below (balloc v1 (.cells #[.int .i64 ead, .bool einw, .int .i64 ekd, .int .i64 emx, .int .i64 eiv] 85))
                 have hI6 : Inv w (v1.alloc (.cells #[.int .i64 ead, .bool einw, .int .i64 ekd, .int .i64 emx, .int .i64 eiv] 85)) X va na atr po (.slice (some ⟨gF, 0, none⟩) (D.length + 1) fc) (D ++ [(f, ve, .slice vd1 nd vd3)]) := by rw [HM.out]; exact hI5
                 have hl5 := Inv.last hI6 (World.ownsRow.alloc (HRW.out _ t2.out.1) _) (by decide) hgrow5
                 have m4 : w5.cell? ⟨gF, m * 6 + 5, none⟩ = some (.slice vd1 nd vd3) := by have := hl5.1.2; rw [HM.out] at this; exact this
                 have n4 : w5.frozen? ⟨gF, m * 6 + 5, none⟩ = false := hl5.2 _
                 have t5 : Hid (w5.heap[w.heap.size]? = some (cfO 0 0 0 0 (.slice none 0 0))) := res_grow (World.ownsRow.alloc (HRW.out _ t2.out.1) _) (res_below t2.out.2 (balloc v1 _)) (by decide) hgrow5
                 have t6 : Hid (Inv w (w5.setCell ⟨gF, m * 6 + 5, none⟩ (.slice (some ⟨gn, 0, none⟩) (nd + 1) capn)) X va na atr po (.slice (some ⟨gF, 0, none⟩) (m + 1) fc) (D ++ [(addE f ⟨ead, einw, ekd, emx, eiv⟩, ve, .slice (some ⟨gn, 0, none⟩) (nd + 1) capn)])) := by
                   have := Inv.addE (e := ⟨ead, einw, ekd, emx, eiv⟩) hI6 (vd' := .slice (some ⟨gn, 0, none⟩) (nd + 1) capn) (w' := w5) (by rw [HND.out]; exact hown5) hgrow5 (by
                     rcases hat5 with h | h
                     · exact .inl h
                     · right; rw [h]; show some _ = some _; simp)
                   rw [HM.out] at this
                   exact this
                 clear hI5 hI6 hl5 hown5 hgrow5 hat5 hgl5 t1 t2 t3))
            all_goals go_wp2
            all_goals go_roundw
            all_goals first
              | exact ⟨k + 1, some (D.map Prod.fst, addE f ⟨ead, einw, ekd, emx, eiv⟩), _, _, by omega, by go_num, t6, res_set t5.out HRG.out, (by show D.map Prod.fst ++ [_] = _; rw [List.map_append]; rfl), HST2.out, (by rw [List.length_append, HM.out]; simp; omega), fun q hq => by
                  rcases List.mem_append.1 hq with hq | hq
                  · have := HSQ.out q hq; omega
                  · simp at hq; subst hq
                    have e1 : (addE f ⟨ead, einw, ekd, emx, eiv⟩).en.length = nd + 1 := by show (f.en ++ [_]).length = _; rw [List.length_append, HND.out]; rfl
                    have e2 : (addE f ⟨ead, einw, ekd, emx, eiv⟩).ex = f.ex := rfl
                    simp only [e1, e2]
                    omega⟩
              | (simp [intOf]; omega)
          · have h75' : isP p 7 5 = false := by simpa using h75
            rw [h75'] at HQ2
            have hstp : stepP (some (D.map Prod.fst, f)) p = some (some (D.map Prod.fst, addX f p)) := by unfold stepP; rw [if_neg h94]; show (if isP p 7 5 = true then _ else _) = _; rw [if_neg h75]
            have HST2 : Hid (foldP (some (D.map Prod.fst, addX f p)) (r.drop (k + 1)) = foldP none r) := by have := HST.out; rw [hstp] at this; exact this.symm
            obtain ⟨nx, hnx⟩ : ∃ nx, f.ex.length = nx := ⟨_, rfl⟩
            have HNX : Hid (f.ex.length = nx) := hnx
            rw [hnx] at hve hsq
            subst hve
            have HRW : Hid (wr.ownsRow w.heap.size 9 1 (.slice va1 nx va3) nx (tcells f.ex)) := by have := HT.out; unfold Txs at this; rw [HNX.out] at this; exact this
            obtain ⟨i0, hi, hq⟩ := Option.map_eq_some_iff.1 infoS
            injection hq with hz0 hq
            injection hq with hz1 hz2
            obtain ⟨t, ht⟩ : ∃ t, strOfNums p = t := ⟨_, rfl⟩
            have HTT : Hid (strOfNums p = t) := ht
            rw [ht] at HQ1 HQ2 cp
            clear HST hstp h94 h94' ht h75 h75' hbp hlp HC HA1 hp hrow htx hen hm hnx hvd HT HN2 HS
            go_wp2_with fail
            refine HQ1.out.mono ?_
            rintro e w2 ⟨rfl, rfl⟩
            go_wp2_with fail
            refine HQ2.out.mono ?_
            rintro e w2 ⟨rfl, rfl⟩
            clear HQ1 HQ2
            go_wp2_with (
              at_builtin
              refine wpList_append_lies _ rfl _ _ 42 rfl w.heap.size 9 i0 _ 1 16 Try.underlying42 hi hz0 hz1 hz2 rfl (by omega) (.slice va1 nx va3) nx (tcells f.ex) rfl (World.ownsRow.alloc HRW.out _) ⟨wr.heap.size, 0, none⟩ 1 1 [.string t] rfl rfl (World.news_of_block (cs := #[.string t]) (t := 9) (fr := (0, 0)) (heap_alloc_new wr _)) (by simp [Value.oneCell']) (by omega) (by unfold maxLen; omega) (by omega) (Nat.le_trans HBW.out.size (balloc wr _).size) (wr.heap.size + 1) (by simp) ?_
              intro gn capn w5 hown5 hgrow5 hat5 hgl5
              have hI5 := HI.out.below (balloc wr (.cells #[.string t] 9))
              have hI6 : Inv w (wr.alloc (.cells #[.string t] 9)) X va na atr po (.slice (some ⟨gF, 0, none⟩) (D.length + 1) fc) (D ++ [(f, .slice va1 nx va3, vd)]) := by rw [HM.out]; exact hI5
              have hl5 := Inv.last hI6 (World.ownsRow.alloc HRW.out _) (by decide) hgrow5
              have m4 : w5.cell? ⟨gF, m * 6 + 4, none⟩ = some (.slice va1 nx va3) := by have := hl5.1.1; rw [HM.out] at this; exact this
              have n4 : w5.frozen? ⟨gF, m * 6 + 4, none⟩ = false := hl5.2 _
              have t5 : Hid (w5.heap[w.heap.size]? = some (cfO 0 0 0 0 (.slice none 0 0))) := res_grow (World.ownsRow.alloc HRW.out _) (res_below HR.out (balloc wr _)) (by decide) hgrow5
              have t6 : Hid (Inv w (w5.setCell ⟨gF, m * 6 + 4, none⟩ (.slice (some ⟨gn, 0, none⟩) (nx + 1) capn)) X va na atr po (.slice (some ⟨gF, 0, none⟩) (m + 1) fc) (D ++ [(addX f p, .slice (some ⟨gn, 0, none⟩) (nx + 1) capn, vd)])) := by
                have := Inv.addX (x := p) hI6 (ve' := .slice (some ⟨gn, 0, none⟩) (nx + 1) capn) (w' := w5) (by rw [HNX.out, HTT.out]; exact hown5) hgrow5 (by
                  rcases hat5 with h | h
                  · exact .inl h
                  · right; rw [h]; show some _ = some _; simp) HQB.out.1 HQB.out.2
                rw [HM.out] at this
                exact this
              clear hI5 hI6 hl5 hown5 hgrow5 hat5 hgl5)
            go_wp2
            go_roundw
            case rel => exact ⟨k + 1, some (D.map Prod.fst, addX f p), _, _, by omega, by go_num, t6, res_set t5.out HRG.out, by (show D.map Prod.fst ++ [_] = _; rw [List.map_append]; rfl), HST2.out, (by rw [List.length_append, HM.out]; simp; omega), fun q hq => by
              rcases List.mem_append.1 hq with hq | hq
              · have := HSQ.out q hq; omega
              · simp at hq; subst hq
                have e1 : (addX f p).ex.length = nx + 1 := by show (f.ex ++ [p]).length = _; rw [List.length_append, HNX.out]; rfl
                have e2 : (addX f p).en = f.en := rfl
                simp only [e1, e2]
                omega⟩
            case measure => simp [intOf]; omega
    · have hnil : foldP st (r.drop k) = some (toFs st) := by rw [List.drop_eq_nil_of_le (by have := HN.out; omega)]; rfl
      have hfs : foldP none r = some (L.map Prod.fst) := by rw [← HS.out.2.1, hnil, HS.out.1]
      obtain ⟨⟨hzR, z0, z1, z2, z3, z4⟩, f0, f1, f2, f3, f4⟩ := box5f HR.out
      obtain ⟨wf, hwf, hRf, hBf, hIf⟩ := ch5 wr w.heap.size _ _ _ _ _ va na atr po vf HR.out
      obtain ⟨fa, fc, rfl, _, _⟩ := own_form HI.out.row
      have hE : CoP (p0 :: r) w (.returned (.tuple #[cfV ⟨va, na, atr, po, L.map Prod.fst⟩ (.slice fa L.length fc), .bool true])) wf :=
        .inr ⟨⟨va, na, atr, po, L.map Prod.fst⟩, _, L, X, by rw [HCF.out, hfs], rfl, hIf w X va na atr po _ L (Nat.le_refl _) HXR.out HI.out, rfl⟩
      have HE : Hid (CF w (.returned (.tuple #[cfV ⟨va, na, atr, po, L.map Prod.fst⟩ (.slice fa L.length fc), .bool true])) wf) := (HP.out _ _ _).2 hE
      obtain ⟨⟨hzf, r0, r1, r2, r3, r4⟩, _⟩ := box5f hRf
      obtain ⟨m, hm⟩ : ∃ m, L.length = m := ⟨_, rfl⟩
      rw [hm] at x4 hwf r4 HE
      clear hnil hfs hE hBf hIf hRf HI HR HS HC HA1 hm
      go_wp2
      try rw [hwf]
      exact bodyPost_ret (v := .tuple #[cfV ⟨va, na, atr, po, L.map Prod.fst⟩ (.slice fa m fc), .bool true]) (by simp [results, Try.results91, go_sem, hzf, r0, r1, r2, r3, r4]) rfl HE.out
end Go.Proofs.Ytonheibhbilhhaa.desc
