/- desc: what ReadConfig answers, once configOf answers as it should. -/
import Derived.Test.YtonheibhbilhhaaZBd
import Derived.Test.YtonheibhbilhhaaZAf
namespace Go.Proofs.Ytonheibhbilhhaa.desc
open Go.RowKit Go.PlainAid Go.Proofs.Ytonheibhbilhhaa.lane
set_option linter.unusedVariables false
set_option linter.unusedSimpArgs false

/-- configOf answers as it should -/
def CoAll : Prop := ∀ (v : Value) (ps : List (List Int)) (w : World), Rts w v ps → BB ps → (∀ p ∈ ps, p.length ≤ 512) → ps.length ≤ 512 → Calls Try.prog 91 #[v] w (CoP ps w)
/-- what ReadConfig answers -/
def RcP (s : ByteArray) (w : World) (e : Ending) (w' : World) : Prop :=
  (splC (nums s) ≠ 0 ∧ e = .returned (.tuple #[cfV noC (.slice none 0 0), .int .i64 (splC (nums s))]) ∧ Below w.heap.size w w') ∨
  (splC (nums s) = 0 ∧ (∀ c, ¬ isT (nums s) c) ∧ e = .returned (.tuple #[cfV noC (.slice none 0 0), .int .i64 4]) ∧ Below w.heap.size w w') ∨
  (∃ c vf L X, splC (nums s) = 0 ∧ isT (nums s) c ∧ e = .returned (.tuple #[cfV c vf, .int .i64 0]) ∧ Inv w w' X c.va c.na c.atr c.po vf L ∧ L.map Prod.fst = c.fs)
theorem Inv.base {w w0 wr : World} {X : Nat} {va na atr po : Int} {vf : Value} {L : FL} (h : Inv w0 wr X va na atr po vf L) (hb : Below w.heap.size w w0) : Inv w wr X va na atr po vf L :=
  ⟨h.box, Nat.le_trans hb.size h.hX, own_mono h.row hb.size, fun q hq => own_mono (h.tx q hq) hb.size, fun q hq => own_mono (h.en q hq) hb.size, h.sx, h.sn, h.bb, hb.trans (h.bel.mono hb.size)⟩
theorem piece_two {p : List Int} (h : piece p) : 2 ≤ p.length := h.1
theorem pieces_len : ∀ ps : List (List Int), (∀ p ∈ ps, piece p) → ps.length ≤ ps.flatten.length ∧ ∀ p ∈ ps, p.length ≤ ps.flatten.length := by
  intro ps
  induction ps with
  | nil => intro _; simp
  | cons a r ih =>
    intro h
    obtain ⟨h1, h2⟩ := ih fun p hp => h p (by simp [hp])
    have ha := piece_two (h a (by simp))
    rw [List.flatten_cons, List.length_append, List.length_cons]
    refine ⟨by omega, fun p hp => ?_⟩
    rcases List.mem_cons.1 hp with rfl | hp
    · omega
    · have := h2 p hp; omega
theorem splP_len {l : List Int} (h : splC l = 0) : (splP l).length ≤ 512 ∧ (∀ p ∈ splP l, p.length ≤ 512) ∧ splP l = (splitL l).2 ∧ l.length ≤ 512 := by
  unfold splC at h
  unfold splP
  by_cases hl : 512 < l.length
  · rw [if_pos hl] at h; omega
  · rw [if_neg hl] at h ⊢
    obtain ⟨h1, h2⟩ := split_pieces h
    obtain ⟨h3, h4⟩ := pieces_len _ h2
    rw [h1] at h3 h4
    exact ⟨by omega, fun p hp => by have := h4 p hp; omega, rfl, by omega⟩
theorem splP_byt (s : ByteArray) : BB (splP (nums s)) := by
  by_cases h : splC (nums s) = 0
  · obtain ⟨_, _, he, _⟩ := splP_len h
    unfold splC at h
    rw [he]
    by_cases hl : 512 < (nums s).length
    · rw [if_pos hl] at h; omega
    · rw [if_neg hl] at h
      obtain ⟨h1, _⟩ := split_pieces h
      intro p hp x hx
      have : x ∈ nums s := by rw [← h1]; exact List.mem_flatten.2 ⟨p, hp, hx⟩
      exact nums_byt s x this
  · rw [splP_err h]; intro p hp; simp at hp
theorem isT_not {l : List Int} (h : confO (splitL l).2 = none) : ∀ c, ¬ isT l c := fun c hc => by
  have := isT_conf hc
  rw [h] at this
  cases this
theorem isT_only {l : List Int} {c : Cf} (h : confO (splitL l).2 = some c) (hn : ¬ (chkC c = 0 ∧ confL c = l)) : ∀ c', ¬ isT l c' := fun c' hc => by
  have := isT_conf hc
  rw [h] at this
  injection this with this
  subst this
  exact hn hc
set_option maxRecDepth 100000 in
set_option maxHeartbeats 4000000 in
theorem readConfig_of (hco : CoAll) (s : ByteArray) (w : World) (hs : s.size ≤ maxLen) : Calls Try.prog 73 #[.string s] w (RcP s w) := by
  obtain ⟨w0, hw0⟩ : ∃ w0, w.alloc (cfO 0 0 0 0 (.slice none 0 0)) = w0 := ⟨_, rfl⟩
  have hb0 : Below w.heap.size w w0 := by rw [← hw0]; exact balloc _ _
  have HB0 : Hid (Below w.heap.size w w0) := hb0
  have HR0 : Hid (w0.heap[w.heap.size]? = some (cfO 0 0 0 0 (.slice none 0 0))) := by rw [← hw0]; exact (MapKept.heap_alloc w _).1
  have HS : Hid (Calls Try.prog 90 #[.string s] w0 fun e w' => ∃ v, e = .returned (.tuple #[v, .int .i64 (splC (nums s))]) ∧ Txs w' w0.heap.size v (splP (nums s)) ∧ Below w0.heap.size w0 w') := split_any s w0 hs
  have HCO : Hid CoAll := hco
  have HBB : Hid (BB (splP (nums s))) := splP_byt s
  obtain ⟨CF, hCF⟩ : ∃ CF : World → Ending → World → Prop, CF = RcP s := ⟨_, rfl⟩
  have HP : Hid (∀ w e w', CF w e w' ↔ RcP s w e w') := fun w e w' => by rw [hCF]
  rw [← hCF]
  clear hCF hco hb0
  by_cases hz : splC (nums s) = 0
  · have HL : Hid _ := splP_len hz
    have HZ : Hid (splC (nums s) = 0) := hz
    rw [hz] at HS
    obtain ⟨ps, hps⟩ : ∃ ps, splP (nums s) = ps := ⟨_, rfl⟩
    rw [hps] at HS HBB HL
    clear hz hps
    go_enter Try.func73, Try.ntmps73
    go_wp2_with fail
    refine HS.out.mono ?_
    rintro e w1 ⟨v, rfl, hx1, hb1⟩
    have HB1 : Hid (Below w.heap.size w w1) := bsq HB0.out hb1
    have HR1 : Hid (w1.heap[w.heap.size]? = some (cfO 0 0 0 0 (.slice none 0 0))) := res_below HR0.out hb1
    have HC1 : Hid (Calls Try.prog 91 #[v] w1 (CoP ps w1)) := HCO.out v ps w1 hx1.rts HBB.out HL.out.2.1 HL.out.1
    clear hx1 hb1 HS hw0 HB0 HR0
    go_wp2_with fail
    refine HC1.out.mono ?_
    rintro e w2 hres
    rcases hres with ⟨hn, rfl, hb2⟩ | ⟨c, vf, L, X, hc, rfl, hI, hLc⟩
    · have hR2 := res_below HR1.out hb2
      obtain ⟨w3, hw3⟩ : ∃ w3, w2.alloc (cfO 0 0 0 0 (.slice none 0 0)) = w3 := ⟨_, rfl⟩
      have hb3 : Below w2.heap.size w2 w3 := by rw [← hw3]; exact balloc _ _
      have hX3 : w3.heap[w2.heap.size]? = some (cfO 0 0 0 0 (.slice none 0 0)) := by rw [← hw3]; exact (MapKept.heap_alloc w2 _).1
      obtain ⟨⟨hzX, x0, x1, x2, x3, x4⟩, y0, y1, y2, y3, y4⟩ := box5f hX3
      obtain ⟨wg, hwg, _, hBg, _⟩ := ch5 w3 w2.heap.size _ _ _ _ _ 0 0 0 0 (.slice none 0 0) hX3
      have hbg := hBg w2 (Nat.le_refl _) hb3
      have hR3 := res_below hR2 hbg
      obtain ⟨⟨hzR, z0, z1, z2, z3, z4⟩, f0, f1, f2, f3, f4⟩ := box5f hR3
      obtain ⟨wf, hwf, hRf, hBf, _⟩ := ch5 wg w.heap.size _ _ _ _ _ 0 0 0 0 (.slice none 0 0) hR3
      have hE : RcP s w (.returned (.tuple #[cfV noC (.slice none 0 0), .int .i64 4])) wf := .inr (.inl ⟨HZ.out, isT_not (by rw [← HL.out.2.2.1]; exact hn), rfl, hBf w (Nat.le_refl _) (bsq (bsq HB1.out hb2) hbg)⟩)
      have HE : Hid (CF w (.returned (.tuple #[cfV noC (.slice none 0 0), .int .i64 4])) wf) := (HP.out _ _ _).2 hE
      obtain ⟨⟨hzf, r0, r1, r2, r3, r4⟩, _⟩ := box5f hRf
      simp only [noC]
      clear hE hBf hRf hR3 hR2 hn hb2 hb3 HC1 HBB HL hBg hbg hX3
      go_wp2
      try rw [hwf]
      exact bodyPost_ret (v := .tuple #[cfV noC (.slice none 0 0), .int .i64 4]) (by simp [results, Try.results73, go_sem, hzf, r0, r1, r2, r3, r4, noC]) rfl HE.out
    · obtain ⟨va, na, atr, po, fs⟩ := c
      simp only at hI hLc
      subst hLc
      obtain ⟨fa, fc, rfl, _, _⟩ := own_form hI.row
      have hR2 := res_below HR1.out hI.bel
      obtain ⟨w3, hw3⟩ : ∃ w3, w2.alloc (cfO va na atr po (.slice fa L.length fc)) = w3 := ⟨_, rfl⟩
      have hb3 : Below w2.heap.size w2 w3 := by rw [← hw3]; exact balloc _ _
      have HR3 : Hid (w3.heap[w.heap.size]? = some (cfO 0 0 0 0 (.slice none 0 0))) := res_below hR2 hb3
      have hX3 : w3.heap[w2.heap.size]? = some (cfO va na atr po (.slice fa L.length fc)) := by rw [← hw3]; exact (MapKept.heap_alloc w2 _).1
      have hI3 := hI.below hb3
      have HI3 : Hid (Inv w w3 X va na atr po (.slice fa L.length fc) L) := hI3.base HB1.out
      have HXR : Hid (X ≠ w.heap.size) := fun q => by have h1 := hI.hX; have h2 := (Array.getElem?_eq_some_iff.1 HR1.out).1; omega
      have HX3 : Hid (w3.heap[w2.heap.size]? = some (cfO va na atr po (.slice fa L.length fc))) := hX3
      have HW : Hid (Calls Try.prog 18 #[cfV ⟨va, na, atr, po, L.map Prod.fst⟩ (.slice fa L.length fc)] w3 fun e w' => e = .returned (.tuple #[.string (wcT ⟨va, na, atr, po, L.map Prod.fst⟩), .int .i64 (chkC ⟨va, na, atr, po, L.map Prod.fst⟩)]) ∧ Below w3.heap.size w3 w') := writeConfig_any _ _ L w3 hI3.rc
      have HCO2 : Hid (confO (splitL (nums s)).2 = some ⟨va, na, atr, po, L.map Prod.fst⟩) := by show _ = _; rw [← HL.out.2.2.1]; exact hc
      have HTX : Hid (wcT ⟨va, na, atr, po, L.map Prod.fst⟩ = if chkC ⟨va, na, atr, po, L.map Prod.fst⟩ = 0 then strOfNums (confL ⟨va, na, atr, po, L.map Prod.fst⟩) else ⟨#[]⟩) := rfl
      obtain ⟨⟨hzX, x0, x1, x2, x3, x4⟩, _⟩ := box5f hX3
      obtain ⟨m, hm⟩ : ∃ m, L.length = m := ⟨_, rfl⟩
      rw [hm] at hw3 x4 HI3 HX3 HW
      rw [hm]
      obtain ⟨C, hC⟩ : ∃ C : Cf, C = ⟨va, na, atr, po, L.map Prod.fst⟩ := ⟨_, rfl⟩
      rw [← hC] at HTX HCO2
      have HCC : Hid (C = ⟨va, na, atr, po, L.map Prod.fst⟩) := hC
      simp only [cfV, ← hC] at HW
      obtain ⟨z, hzz⟩ : ∃ z, chkC C = z := ⟨_, rfl⟩
      obtain ⟨T, hT⟩ : ∃ T, wcT C = T := ⟨_, rfl⟩
      rw [hzz, hT] at HW
      have HZC : Hid (chkC C = z) := hzz
      have HTT : Hid (wcT C = T) := hT
      clear hzz hT hC hI hI3 hR2 hb3 hX3 hm HC1 HBB hc HR1
      go_wp2_with fail
      refine HW.out.mono ?_
      rintro e w4 ⟨rfl, hb4⟩
      have hX4 := res_below HX3.out hb4
      have hR4 := res_below HR3.out hb4
      have HI4 : Hid (Inv w w4 X va na atr po (.slice fa m fc) L) := HI3.out.below hb4
      obtain ⟨⟨hzX4, y0, y1, y2, y3, y4⟩, _⟩ := box5f hX4
      obtain ⟨⟨hzR, z0, z1, z2, z3, z4⟩, f0, f1, f2, f3, f4⟩ := box5f hR4
      clear hb4 hX4 x0 x1 x2 x3 x4 HW hw3 HX3 HR3 HI3
      by_cases hok : z = 0 ∧ T = s
      · obtain ⟨rfl, rfl⟩ := hok
        obtain ⟨wf, hwf, hRf, _, hIf⟩ := ch5 w4 w.heap.size _ _ _ _ _ va na atr po (.slice fa m fc) hR4
        have hist : isT (nums T) ⟨va, na, atr, po, L.map Prod.fst⟩ := by
          rw [← HCC.out]
          refine ⟨HZC.out, ?_⟩
          rw [← HTT.out, HTX.out, if_pos HZC.out, nums_str _ (byt_confL (chkC_ok HZC.out) (by rw [HCC.out]; intro f hf; obtain ⟨q, hq, rfl⟩ := List.mem_map.1 hf; exact (HI4.out.bb q hq).1))]
        have hE : RcP T w (.returned (.tuple #[cfV ⟨va, na, atr, po, L.map Prod.fst⟩ (.slice fa m fc), .int .i64 0])) wf := .inr (.inr ⟨_, _, L, X, HZ.out, hist, rfl, hIf w X va na atr po _ L (Nat.le_refl _) HXR.out HI4.out, rfl⟩)
        have HE : Hid (CF w (.returned (.tuple #[cfV ⟨va, na, atr, po, L.map Prod.fst⟩ (.slice fa m fc), .int .i64 0])) wf) := (HP.out _ _ _).2 hE
        obtain ⟨⟨hzf, r0, r1, r2, r3, r4⟩, _⟩ := box5f hRf
        clear hE hist hIf hRf hR4
        go_wp2
        try rw [hwf]
        exact bodyPost_ret (v := .tuple #[cfV ⟨va, na, atr, po, L.map Prod.fst⟩ (.slice fa m fc), .int .i64 0]) (by simp [results, Try.results73, go_sem, hzf, r0, r1, r2, r3, r4]) rfl HE.out
      · obtain ⟨wf, hwf, hRf, hBf, _⟩ := ch5 w4 w.heap.size _ _ _ _ _ 0 0 0 0 (.slice none 0 0) hR4
        have hno : ∀ c', ¬ isT (nums s) c' := isT_only HCO2.out (fun ⟨h1, h2⟩ => hok ⟨by rw [← HZC.out]; exact h1, by rw [← HTT.out, HTX.out, if_pos h1, h2, str_nums]⟩)
        have hE : RcP s w (.returned (.tuple #[cfV noC (.slice none 0 0), .int .i64 4])) wf := .inr (.inl ⟨HZ.out, hno, rfl, hBf w (Nat.le_refl _) HI4.out.bel⟩)
        have HE : Hid (CF w (.returned (.tuple #[cfV noC (.slice none 0 0), .int .i64 4])) wf) := (HP.out _ _ _).2 hE
        obtain ⟨⟨hzf, r0, r1, r2, r3, r4⟩, _⟩ := box5f hRf
        have e1 := toList_beq T s
        clear hE hno hBf hRf hR4 HZC HTT HTX HCO2
        by_cases hz1 : z = 0
        · subst hz1
          have hts : decide (T = s) = false := by simpa using hok
          rw [hts] at e1
          clear hts hok
          go_wp2
          try rw [hwf]
          exact bodyPost_ret (v := .tuple #[cfV noC (.slice none 0 0), .int .i64 4]) (by simp [results, Try.results73, go_sem, hzf, r0, r1, r2, r3, r4, noC]) rfl HE.out
        · have hzn : (z != 0) = true := by simpa using hz1
          clear hok e1
          go_wp2
          try rw [hwf]
          exact bodyPost_ret (v := .tuple #[cfV noC (.slice none 0 0), .int .i64 4]) (by simp [results, Try.results73, go_sem, hzf, r0, r1, r2, r3, r4, noC]) rfl HE.out
  · have HNZ : Hid (splC (nums s) ≠ 0) := hz
    obtain ⟨z, hzz⟩ : ∃ z, splC (nums s) = z := ⟨_, rfl⟩
    have HZZ : Hid (splC (nums s) = z) := hzz
    have hzn : (z != 0) = true := by rw [← hzz]; simpa using hz
    rw [hzz] at HS
    clear hz hzz HCO HBB
    go_enter Try.func73, Try.ntmps73
    go_wp2_with fail
    refine HS.out.mono ?_
    rintro e w1 ⟨v, rfl, hx1, hb1⟩
    have hR1 := res_below HR0.out hb1
    obtain ⟨⟨hzR, z0, z1, z2, z3, z4⟩, f0, f1, f2, f3, f4⟩ := box5f hR1
    obtain ⟨wf, hwf, hRf, hBf, _⟩ := ch5 w1 w.heap.size _ _ _ _ _ 0 0 0 0 (.slice none 0 0) hR1
    have hE : RcP s w (.returned (.tuple #[cfV noC (.slice none 0 0), .int .i64 z])) wf := .inl ⟨HNZ.out, by rw [HZZ.out], hBf w (Nat.le_refl _) (bsq HB0.out hb1)⟩
    have HE : Hid (CF w (.returned (.tuple #[cfV noC (.slice none 0 0), .int .i64 z])) wf) := (HP.out _ _ _).2 hE
    obtain ⟨⟨hzf, r0, r1, r2, r3, r4⟩, _⟩ := box5f hRf
    clear hE hBf hRf hR1 hx1 hb1 HS hw0 HR0
    go_wp2
    try rw [hwf]
    exact bodyPost_ret (v := .tuple #[cfV noC (.slice none 0 0), .int .i64 z]) (by simp [results, Try.results73, go_sem, hzf, r0, r1, r2, r3, r4, noC]) rfl HE.out
end Go.Proofs.Ytonheibhbilhhaa.desc
