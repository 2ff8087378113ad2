/- plugref's phy: what Hear answers. -/
import Derived.Test.YtbkdalgmhmaofaaDoorPhyT
import Derived.Test.YtbkdalgmhmaofaaDoorPhyI
namespace Go.Proofs.YtbkdalgmhmaofaaDoor.lane
open Go.RowKit Go.PlainAid
set_option linter.unusedVariables false

theorem take_succ (T : List Int) (k : Nat) (h : k < T.length) : T.take (k + 1) = T.take k ++ [T[k]] := List.take_succ_eq_append_getElem h
theorem step_some (T : List Int) (k : Nat) (p : List Int × Int) (h : k < T.length) (hx : ¬ (T[k] = 74 ∧ T.take k = [])) (hp : heardL (T.take (k + 1)) = some p) :
    hearL (T.take k) (T.drop k) = (p :: (hearL [] (T.drop (k + 1))).1, (hearL [] (T.drop (k + 1))).2) := by
  rw [List.drop_eq_getElem_cons h]
  rw [take_succ T k h] at hp
  exact hear_some _ _ _ _ hx hp
theorem step_none (T : List Int) (k : Nat) (h : k < T.length) (hx : ¬ (T[k] = 74 ∧ T.take k = [])) (hp : heardL (T.take (k + 1)) = none) :
    hearL (T.take k) (T.drop k) = hearL (T.take (k + 1)) (T.drop (k + 1)) := by
  rw [List.drop_eq_getElem_cons h]
  rw [take_succ T k h] at hp ⊢
  exact hear_none _ _ _ hx hp
/-- how Hear stands ahead of a packet -/
structure RS (W : World) (R : List (List Int × Int) × List Int) (t : ByteArray) (k : Nat) (va : Value) (L : List (List Int × Int)) (wr : World) : Prop where
  own : Hrs wr W.heap.size va L
  bel : Below W.heap.size W wr
  sg : sigB (nums t) = true
  eq : (L ++ (hearL ((nums t).take k) ((nums t).drop k)).1, (hearL ((nums t).take k) ((nums t).drop k)).2) = R
/-- the first level is none that is passed over -/
def Fst (t : ByteArray) (k : Nat) : Prop := k = 0 → ∀ x r, nums t = x :: r → ¬ x = 74
theorem Fst.not {t : ByteArray} {k e : Nat} (h : Fst t k) (hke : k ≤ e) (he : e < (nums t).length) : ¬ ((nums t)[e] = 74 ∧ (nums t).take e = []) := by
  rintro ⟨h1, h2⟩
  have e0 : e = 0 := by
    have := congrArg List.length h2
    rw [List.length_take, List.length_nil] at this
    omega
  subst e0
  have hd := List.drop_eq_getElem_cons he
  rw [List.drop_zero] at hd
  exact h (by omega) _ _ hd h1
theorem RS.trim {W : World} {R : List (List Int × Int) × List Int} {t : ByteArray} {va : Value} {L : List (List Int × Int)} {wr : World} (h : RS W R t 0 va L wr) : RS W R (strOfNums (trimL (nums t))) 0 va L wr ∧ Fst (strOfNums (trimL (nums t))) 0 := by
  have hs := trim_byt (nums t) h.sg
  have hn : nums (strOfNums (trimL (nums t))) = trimL (nums t) := nums_str _ (byt_sig hs)
  refine ⟨⟨h.own, h.bel, by rw [hn]; exact hs, ?_⟩, ?_⟩
  · rw [hn, List.take_zero, List.drop_zero, hear_trim]
    have := h.eq
    rw [List.take_zero, List.drop_zero] at this
    exact this
  · intro _ x r hx
    rw [hn] at hx
    exact trim_head _ x r hx
theorem nums_cut (t : ByteArray) (e : Nat) : nums (t.extract e t.size) = (nums t).drop e := by
  rw [nums_extract, ← nums_length t, List.take_length]
theorem nums_front (t : ByteArray) (e : Nat) : nums (t.extract 0 e) = (nums t).take e := by
  rw [nums_extract, List.drop_zero]
theorem sig_drop (l : List Int) (e : Nat) (h : sigB l = true) : sigB (l.drop e) = true := by
  unfold sigB at *
  rw [List.all_eq_true] at *
  intro x hx
  exact h x (List.mem_of_mem_drop hx)
theorem RS.push {W : World} {R : List (List Int × Int) × List Int} {t : ByteArray} {k e : Nat} {va : Value} {L : List (List Int × Int)} {w0 wr w2 : World} {p : List Int × Int} {g2 cap2 : Nat} (h : RS W R t k va L w0) (hf : Fst t k) (hke : k ≤ e) (he : e < t.size)
    (heq : hearL ((nums t).take k) ((nums t).drop k) = hearL ((nums t).take e) ((nums t).drop e)) (hp : heardL ((nums t).take (e + 1)) = some p) (hb : Below w0.heap.size w0 wr)
    (hown : w2.ownsRow W.heap.size 33 2 (.slice (some ⟨g2, 0, none⟩) (L.length + 1) cap2) (L.length + 1) (hcells L ++ [.string (strOfNums p.1), .int .i64 p.2])) (hgr : wr.grownBy w2 va.ownBlock) :
    RS W R (t.extract (e + 1) t.size) 0 (.slice (some ⟨g2, 0, none⟩) (L.length + 1) cap2) (L ++ [p]) w2 := by
  have he' : e < (nums t).length := by rw [nums_length]; exact he
  refine ⟨Hrs.push hown, ?_, ?_, ?_⟩
  · have h1 := h.bel.trans (hb.mono h.bel.size)
    exact h1.grown hgr h1.size (fun k hk => (h.own.lt k hk).1)
  · rw [nums_cut]; exact sig_drop _ _ h.sg
  · rw [nums_cut, List.take_zero, List.drop_zero, ← h.eq, heq, step_some _ e p he' (hf.not hke he') hp]
    simp

set_option maxHeartbeats 1000000 in
theorem rhear_no (r s : ByteArray) (w : World) (hs : s.size + r.size ≤ 1048576) (h : sigB (nums s) = false ∨ sigB (nums r) = false) :
    Calls Tryd.prog 8 #[ear r, .string s] w fun e w' => e = .returned (.tuple #[ear r, .slice none 0 0, .int .i64 1]) ∧ Below w.heap.size w w' := by
  have ez : (s ++ r).size = s.size + r.size := ByteArray.size_append
  have h1 : sigB (nums (s ++ r)) = false := by
    rw [nums_append, sigB_append]
    rcases h with h | h <;> rw [h] <;> simp
  obtain ⟨c, hc⟩ : ∃ c, s ++ r = c := ⟨_, rfl⟩
  rw [hc] at ez h1
  have H1 : Hid (∀ w, Calls Tryd.prog 19 #[.string c, .string ⟨#[74, 75, 48]⟩] w fun e w' => e = .returned (.bool false) ∧ w = w') := fun w => by
    have := only_sig c w (by unfold maxLen; omega)
    rw [h1] at this
    exact this
  clear h1 h
  go_enter Tryd.func8, Tryd.ntmps8
  go_wp2_with fail
  refine (H1.out _).mono ?_
  rintro e u ⟨rfl, rfl⟩
  go_wp2
  exact bodyPost_ret (v := .tuple #[ear r, .slice none 0 0, .int .i64 1]) (by simp [results, Tryd.results8, go_sem]) rfl ⟨rfl, (balloc w _).alloc (by simp) _⟩

theorem RS.done {W : World} {R : List (List Int × Int) × List Int} {t : ByteArray} {k : Nat} {va : Value} {L : List (List Int × Int)} {wr : World} (h : RS W R t k va L wr) (heq : hearL ((nums t).take k) ((nums t).drop k) = hearL ((nums t).take t.size) ((nums t).drop t.size)) :
    L = R.1 ∧ t = strOfNums R.2 := by
  have e := h.eq
  rw [heq, drop_end t _ (Nat.le_refl _), hear_nil, ← nums_length t, List.take_length] at e
  rw [← e]
  exact ⟨by simp, (str_nums t).symm⟩
theorem heard_ends {T : List Int} {d : Nat} (h : endsL (T.take (d + 3)) = true) (hd : d + 3 ≤ T.length) : heardL (T.take (d + 3)) = some ((pieceL (T.take d)).2, (pieceL (T.take d)).1) := by
  have hl : (T.take (d + 3)).length = d + 3 := by rw [List.length_take]; omega
  unfold heardL
  rw [h, if_pos rfl, hl, List.take_take, show min (d + 3 - 3) (d + 3) = d by omega]
theorem heard_large {T : List Int} {e : Nat} (h : endsL (T.take e) = false) (he : e ≤ T.length) (hl : 1000 < e) : heardL (T.take e) = some ([], 2) := by
  have hz : (T.take e).length = e := by rw [List.length_take]; omega
  unfold heardL
  rw [h, if_neg (by simp), if_pos (by rw [hz]; exact hl)]
theorem heard_small {T : List Int} {e : Nat} (h : endsL (T.take e) = false) (he : e ≤ T.length) (hl : e ≤ 1000) : heardL (T.take e) = none := by
  have hz : (T.take e).length = e := by rw [List.length_take]; omega
  unfold heardL
  rw [h, if_neg (by simp), if_neg (by rw [hz]; omega)]
set_option maxRecDepth 100000 in
set_option maxHeartbeats 8000000 in
theorem rhear_ok (r s : ByteArray) (w : World) (m : Int) (hm : w.cell? ⟨0, 0, none⟩ = some (.int .i64 m)) (hs : s.size + r.size ≤ 1048576) (h1 : sigB (nums s) = true) (h2 : sigB (nums r) = true) :
    Calls Tryd.prog 8 #[ear r, .string s] w fun e w' => ∃ v, e = .returned (.tuple #[ear (strOfNums (hearL (nums r) (nums s)).2), v, .int .i64 0]) ∧ Hrs w' w.heap.size v (hearL (nums r) (nums s)).1 ∧ Below w.heap.size w w' := by
  have ez : (s ++ r).size = s.size + r.size := ByteArray.size_append
  have ey : (r ++ s).size = r.size + s.size := ByteArray.size_append
  have hc1 : sigB (nums (s ++ r)) = true := by rw [nums_append, sigB_append, h1, h2]; rfl
  have ht1 : sigB (nums (r ++ s)) = true := by rw [nums_append, sigB_append, h1, h2]; rfl
  have htk : (nums (r ++ s)).take r.size = nums r := by rw [nums_append, ← nums_length r, List.take_left]
  have htd : (nums (r ++ s)).drop r.size = nums s := by rw [nums_append, ← nums_length r, List.drop_left]
  obtain ⟨c, hc⟩ : ∃ c, s ++ r = c := ⟨_, rfl⟩
  obtain ⟨t0, ht0⟩ : ∃ t, r ++ s = t := ⟨_, rfl⟩
  rw [hc] at ez hc1
  rw [ht0] at ey ht1 htk htd
  have H1 : Hid (∀ w, Calls Tryd.prog 19 #[.string c, .string ⟨#[74, 75, 48]⟩] w fun e w' => e = .returned (.bool true) ∧ w = w') := fun w => by
    have := only_sig c w (by unfold maxLen; omega)
    rw [hc1] at this
    exact this
  obtain ⟨R, hR⟩ : ∃ R, hearL (nums r) (nums s) = R := ⟨_, rfl⟩
  rw [hR]
  have HT : Hid (sigB (nums t0) = true ∧ hearL ((nums t0).take r.size) ((nums t0).drop r.size) = R) := ⟨ht1, by rw [htk, htd, hR]⟩
  clear hc1 ht1 htk htd hR h1 h2
  obtain ⟨i0, hi, hz0, hz1, hz2⟩ := info_parts infoH
  obtain ⟨W, hW⟩ : ∃ W : World, (w.alloc (.cells #[.string r] 27)).alloc (.cells #[.string ⟨#[]⟩] 27) = W := ⟨_, rfl⟩
  have hWz : W.heap.size = w.heap.size + 2 := by rw [← hW]; simp
  have hWb : Below w.heap.size w W := by rw [← hW]; exact (balloc w _).alloc (by simp) _
  obtain ⟨hWc, hWf⟩ := ear_res w r
  rw [hW] at hWc hWf
  have hlow : 0 < w.heap.size := World.block_lt_of_cell? w _ hm
  have HM : Hid (∀ u : World, Below W.heap.size W u → u.cell? ⟨0, 0, none⟩ = some (.int .i64 m)) := fun u hb => (hb.cell (p := ⟨0, 0, none⟩) (by show 0 < _; omega)).trans ((hWb.cell (p := ⟨0, 0, none⟩) hlow).trans hm)
  have HW : Hid _ := hW
  have HWc : Hid _ := hWc
  have HWf : Hid _ := hWf
  have HWb : Hid _ := hWb
  clear hW hWc hWf hWb hm hlow
  go_enter Tryd.func8, Tryd.ntmps8
  go_wp2_with fail
  refine (H1.out _).mono ?_
  rintro e u ⟨rfl, rfl⟩
  go_wp2
  go_quiet (fail)
  rw [HW.out]
  go_wp2
  have HS0 : Hid (RS W R t0 r.size (.slice none 0 0) [] (W.drewN nq)) := ⟨Hrs.nil _ _, below_drewN (Below.refl _ _) _, HT.out.1, by rw [HT.out.2]; rfl⟩
  generalize W.drewN nq = w00 at *
  clear HT
  go_loopw [7, 8, 9] (fun va v8 v9 wr => ∃ (t : ByteArray) (k : Nat) (L : List (List Int × Int)), v8 = .string t ∧ v9 = .int .i64 k ∧ k ≤ t.size ∧ t.size + L.length ≤ 1048576 ∧ Hid (RS W R t k va L wr))
    (fun _ v8 _ _ => sLen v8)
  case atStart => exact ⟨t0, r.size, [], rfl, rfl, by omega, by simp; omega, HS0⟩
  case round =>
    clear HS0
    obtain ⟨t1, k, L, rfl, rfl, hk1, hL1, HR1⟩ := hrel
    have hcase : (((k : Int) == 0) = true ∧ Hid (k = 0)) ∨ (((k : Int) == 0) = false ∧ Hid (¬ k = 0)) := by
      by_cases h : k = 0
      · exact .inl ⟨by simp [h], h⟩
      · exact .inr ⟨beq_eq_false_iff_ne.2 (by omega), h⟩
    have hclose : ∃ t : ByteArray, t.size ≤ t1.size ∧ k ≤ t.size ∧ Hid (Fst t k) ∧ Hid (RS W R t k u7 L wr) ∧ ((((k : Int) == 0) = true ∧ Hid (∀ w, Calls Tryd.prog 20 #[.string t1, .string ⟨#[74]⟩] w fun e w' => e = .returned (.string t) ∧ w = w')) ∨ (((k : Int) == 0) = false ∧ t = t1)) := by
      rcases hcase with ⟨c1, c2⟩ | ⟨c1, c2⟩
      · have h := HR1.out
        have k0 : k = 0 := c2.out
        rw [k0] at h
        obtain ⟨q1, q2⟩ := h.trim
        refine ⟨strOfNums (trimL (nums t1)), ?_, by omega, by rw [k0]; exact q2, by rw [k0]; exact q1, .inl ⟨c1, fun w => trimLeft_any t1 w (by omega)⟩⟩
        rw [str_size]
        have := trim_length (nums t1)
        rwa [nums_length] at this
      · exact ⟨t1, Nat.le_refl _, hk1, fun h => absurd h c2.out, HR1, .inr ⟨c1, rfl⟩⟩
    obtain ⟨t, htz, hk, HF, HR, hway⟩ := hclose
    obtain ⟨wo, rfl⟩ : ∃ wo : World, wo = wr := ⟨_, rfl⟩
    obtain ⟨va, rfl⟩ : ∃ va : Value, va = u7 := ⟨_, rfl⟩
    clear HR1 hcase
    rcases hway with ⟨c1, HTL⟩ | ⟨c1, rfl⟩
    · go_wp2_with fail
      refine (HTL.out _).mono ?_
      rintro e u ⟨rfl, rfl⟩
      go_wp2
      clear HTL
      have htz' : t.size + L.length ≤ 1048576 := by omega
      go_loopw [7, 10] (fun v7 v10 wr => ∃ e : Nat, va = v7 ∧ v10 = .int .i64 e ∧ k ≤ e ∧ e ≤ t.size ∧ (e = k ∨ e < t.size) ∧ wo = wr ∧ Hid (hearL ((nums t).take k) ((nums t).drop k) = hearL ((nums t).take e) ((nums t).drop e)))
        (fun _ v10 _ => t.size - (intOf v10).toNat)
      case atStart => exact ⟨k, rfl, rfl, Nat.le_refl _, hk, .inl rfl, rfl, rfl⟩
      case round =>
        obtain ⟨e, rfl, rfl, hke, het, hside, rfl, HQ⟩ := hrel
        by_cases hlt : e < t.size
        · clear hside
          have hfz : (t.extract 0 (e + 1)).size = e + 1 := by rw [ByteArray.size_extract]; omega
          have HX : Hid (∀ w, Calls Tryd.prog 21 #[.string (t.extract 0 (e + 1)), .string ⟨#[48, 48, 74]⟩] w fun r w' => r = .returned (.bool (endsL ((nums t).take (e + 1)))) ∧ w = w') := fun w => by
            have := hasSuffix_str (t.extract 0 (e + 1)) w (by omega)
            rw [nums_front] at this
            exact this
          have hTl : (nums t).length = t.size := nums_length t
          have hnek : (((e : Int) + 1) == (k : Int)) = false := beq_eq_false_iff_ne.2 (by omega)
          cases hends : endsL ((nums t).take (e + 1))
          · rw [hends] at HX
            by_cases hbig : 1000 < e + 1
            · have HPP : Hid _ := heard_large hends (by omega) hbig
              clear hends
              go_wp2_with fail
              refine (HX.out _).mono ?_
              rintro q u ⟨rfl, rfl⟩
              go_wp2_with (at_builtin; (refine wpList_append_lies _ rfl _ _ 28 rfl W.heap.size 33 i0 _ 2 24 Tryd.underlying28 hi hz0 hz1 hz2 rfl (by omega) _ L.length (hcells L) rfl (HR.out.own.below (balloc wo (.cells #[.string ⟨#[]⟩, .int .i64 2] 33))) ⟨wo.heap.size, 0, none⟩ 1 1 [.string ⟨#[]⟩, .int .i64 2] rfl rfl (World.news_of_block (cs := #[.string ⟨#[]⟩, .int .i64 2]) (t := 33) (fr := (0, 0)) (heap_alloc_new wo _)) (by simp [Value.oneCell']) (by omega) (by unfold maxLen; omega) (by omega) (Nat.le_trans HR.out.bel.size (by simp)) (wo.heap.size + 1) (by simp) ?_); intro g2 cap2 w2 hown2 hgrow2 hat2 hlt2)
              have HN : Hid _ := HR.out.push (p := ([], 2)) HF.out hke hlt HQ.out HPP.out (balloc wo (.cells #[.string ⟨#[]⟩, .int .i64 2] 33)) hown2 hgrow2
              have hez : (t.extract (e + 1) t.size).size = t.size - (e + 1) := by rw [ByteArray.size_extract]; omega
              clear hown2 hgrow2 hat2 hlt2 HPP HX HQ HR HF
              go_wp2
              go_roundw
              case rel => exact ⟨_, 0, L ++ [([], 2)], rfl, rfl, Nat.zero_le _, by rw [hez, List.length_append]; simp only [List.length_cons, List.length_nil]; omega, HN⟩
              case measure => simp [sLen]; omega
            · have HPN : Hid _ := heard_small hends (by omega) (by omega)
              clear hends
              have HQ2 : Hid (hearL ((nums t).take k) ((nums t).drop k) = hearL ((nums t).take (e + 1)) ((nums t).drop (e + 1))) := by
                show _ = _
                rw [HQ.out]
                exact step_none _ e (by omega) (HF.out.not hke (by omega)) HPN.out
              clear HQ HPN
              by_cases hlast : e + 1 = t.size
              · have hl2 : (((e : Int) + 1) == (t.size : Int)) = true := by simp; omega
                rw [hlast] at HQ2
                have ex : t.extract 0 (e + 1) = t := by
                  apply nums_inj
                  rw [nums_front, hlast, ← nums_length t, List.take_length]
                rw [ex] at HX
                obtain ⟨d1, d2⟩ := HR.out.done HQ2.out
                have hbel := HR.out.bel
                have b0 : wo.cell? ⟨w.heap.size + 1, 0, none⟩ = some (.string ⟨#[]⟩) := (hbel.cell (p := ⟨w.heap.size + 1, 0, none⟩) (by show w.heap.size + 1 < _; omega)).trans HWc.out
                have f0 : wo.frozen? ⟨w.heap.size + 1, 0, none⟩ = false := (hbel.frozen (p := ⟨w.heap.size + 1, 0, none⟩) (by show w.heap.size + 1 < _; omega)).trans HWf.out
                have HO : Hid (Hrs wo W.heap.size va L) := HR.out.own
                have HB : Hid (Below w.heap.size w wo) := HWb.out.trans (hbel.mono (by omega))
                have D1 : Hid _ := d1
                have D2 : Hid _ := d2
                clear d1 d2 hbel HR HQ2 HF
                go_wp2_with fail
                refine (HX.out _).mono ?_
                rintro q u ⟨rfl, rfl⟩
                go_wp2
                rw [← D1.out, ← D2.out]
                refine bodyPost_ret (v := .tuple #[ear t, va, .int .i64 0]) (by simp [results, Tryd.results8, go_sem, b0]) rfl ⟨va, rfl, ?_, HB.out.setCell (by show w.heap.size ≤ w.heap.size + 1; omega) _⟩
                exact (HO.out.set ⟨w.heap.size + 1, 0, none⟩ _ (by show w.heap.size + 1 < _; omega)).mono (by omega)
              · have hl2 : (((e : Int) + 1) == (t.size : Int)) = false := beq_eq_false_iff_ne.2 (by omega)
                go_wp2_with fail
                refine (HX.out _).mono ?_
                rintro q u ⟨rfl, rfl⟩
                go_wp2
                go_roundw
                case rel => exact ⟨e + 1, rfl, by go_num, by omega, by omega, .inr (by omega), trivial, HQ2⟩
                case measure => simp [intOf]; omega
          · have h3 : 3 ≤ e + 1 := by
              have h := hends
              unfold endsL at h
              rw [Bool.and_eq_true] at h
              have := of_decide_eq_true h.1
              rw [List.length_take] at this
              omega
            obtain ⟨d, rfl⟩ : ∃ d, e = d + 2 := ⟨e - 2, by omega⟩
            rw [hends] at HX
            have HPP : Hid (heardL ((nums t).take (d + 2 + 1)) = _) := heard_ends (T := nums t) (d := d) hends (by omega)
            have HPC : Hid (∀ u, Below W.heap.size W u → Calls Tryd.prog 22 #[.string (t.extract 0 d)] u fun r w' => r = .returned (.tuple #[.string (strOfNums (pieceL ((nums t).take d)).2), .int .i64 (pieceL ((nums t).take d)).1]) ∧ Below u.heap.size u w') := fun u hu => by
              have := rpiece_any (t.extract 0 d) u m (HM.out u hu) (by rw [ByteArray.size_extract]; omega)
              unfold pieceS pieceC at this
              rw [nums_front] at this
              exact this
            obtain ⟨pt, hpt⟩ : ∃ z, (pieceL ((nums t).take d)).2 = z := ⟨_, rfl⟩
            obtain ⟨pc, hpc⟩ : ∃ z, (pieceL ((nums t).take d)).1 = z := ⟨_, rfl⟩
            rw [hpt, hpc] at HPP HPC
            have hi3 : ((d : Int) + 2 + 1 - 3) = (d : Int) := by omega
            clear hends hpt hpc h3
            go_wp2_with fail
            refine (HX.out _).mono ?_
            rintro q u ⟨rfl, rfl⟩
            go_wp2_with fail
            refine (HPC.out _ HR.out.bel).mono ?_
            rintro q u ⟨rfl, hbp⟩
            have HO : Hid (Hrs (u.alloc (.cells #[.string (strOfNums pt), .int .i64 pc] 33)) W.heap.size va L) := (HR.out.own.below hbp).below (balloc u (.cells #[.string (strOfNums pt), .int .i64 pc] 33))
            have HBu : Hid (Below wo.heap.size wo (u.alloc (.cells #[.string (strOfNums pt), .int .i64 pc] 33)) ∧ W.heap.size ≤ u.heap.size) := ⟨bsq hbp (balloc u _), Nat.le_trans HR.out.bel.size hbp.size⟩
            clear hbp HPC HX
            go_wp2_with (at_builtin; (refine wpList_append_lies _ rfl _ _ 28 rfl W.heap.size 33 i0 _ 2 24 Tryd.underlying28 hi hz0 hz1 hz2 rfl (by omega) _ L.length (hcells L) rfl HO.out ⟨u.heap.size, 0, none⟩ 1 1 [.string (strOfNums pt), .int .i64 pc] rfl rfl (World.news_of_block (cs := #[.string (strOfNums pt), .int .i64 pc]) (t := 33) (fr := (0, 0)) (heap_alloc_new u _)) (by simp [Value.oneCell']) (by omega) (by unfold maxLen; omega) (by omega) (Nat.le_trans HBu.out.2 (by simp)) (u.heap.size + 1) (by simp) ?_); intro g2 cap2 w2 hown2 hgrow2 hat2 hlt2)
            have HN : Hid _ := HR.out.push (p := (pt, pc)) HF.out hke hlt HQ.out HPP.out HBu.out.1 hown2 hgrow2
            have hez : (t.extract (d + 2 + 1) t.size).size = t.size - (d + 2 + 1) := by rw [ByteArray.size_extract]; omega
            clear hown2 hgrow2 hat2 hlt2 HPP HQ HR HF HO HBu
            go_wp2
            go_roundw
            case rel => exact ⟨_, 0, L ++ [(pt, pc)], rfl, rfl, Nat.zero_le _, by rw [hez, List.length_append]; simp only [List.length_cons, List.length_nil]; omega, HN⟩
            case measure => simp [sLen]; omega
        · obtain rfl : e = t.size := by omega
          obtain rfl : t.size = k := by omega
          obtain ⟨d1, d2⟩ := HR.out.done HQ.out
          have hbel := HR.out.bel
          have b0 : wo.cell? ⟨w.heap.size + 1, 0, none⟩ = some (.string ⟨#[]⟩) := (hbel.cell (p := ⟨w.heap.size + 1, 0, none⟩) (by show w.heap.size + 1 < _; omega)).trans HWc.out
          have f0 : wo.frozen? ⟨w.heap.size + 1, 0, none⟩ = false := (hbel.frozen (p := ⟨w.heap.size + 1, 0, none⟩) (by show w.heap.size + 1 < _; omega)).trans HWf.out
          have HO : Hid (Hrs wo W.heap.size va L) := HR.out.own
          have HB : Hid (Below w.heap.size w wo) := HWb.out.trans (hbel.mono (by omega))
          have D1 : Hid _ := d1
          have D2 : Hid _ := d2
          clear d1 d2 hbel HR HQ HF hside
          go_wp2
          rw [← D1.out, ← D2.out]
          refine bodyPost_ret (v := .tuple #[ear t, va, .int .i64 0]) (by simp [results, Tryd.results8, go_sem, b0]) rfl ⟨va, rfl, ?_, HB.out.setCell (by show w.heap.size ≤ w.heap.size + 1; omega) _⟩
          exact (HO.out.set ⟨w.heap.size + 1, 0, none⟩ _ (by show w.heap.size + 1 < _; omega)).mono (by omega)
    · go_wp2
      have htz' : t.size + L.length ≤ 1048576 := by omega
      go_loopw [7, 10] (fun v7 v10 wr => ∃ e : Nat, va = v7 ∧ v10 = .int .i64 e ∧ k ≤ e ∧ e ≤ t.size ∧ (e = k ∨ e < t.size) ∧ wo = wr ∧ Hid (hearL ((nums t).take k) ((nums t).drop k) = hearL ((nums t).take e) ((nums t).drop e)))
        (fun _ v10 _ => t.size - (intOf v10).toNat)
      case atStart => exact ⟨k, rfl, rfl, Nat.le_refl _, hk, .inl rfl, rfl, rfl⟩
      case round =>
        obtain ⟨e, rfl, rfl, hke, het, hside, rfl, HQ⟩ := hrel
        by_cases hlt : e < t.size
        · clear hside
          have hfz : (t.extract 0 (e + 1)).size = e + 1 := by rw [ByteArray.size_extract]; omega
          have HX : Hid (∀ w, Calls Tryd.prog 21 #[.string (t.extract 0 (e + 1)), .string ⟨#[48, 48, 74]⟩] w fun r w' => r = .returned (.bool (endsL ((nums t).take (e + 1)))) ∧ w = w') := fun w => by
            have := hasSuffix_str (t.extract 0 (e + 1)) w (by omega)
            rw [nums_front] at this
            exact this
          have hTl : (nums t).length = t.size := nums_length t
          have hnek : (((e : Int) + 1) == (k : Int)) = false := beq_eq_false_iff_ne.2 (by omega)
          cases hends : endsL ((nums t).take (e + 1))
          · rw [hends] at HX
            by_cases hbig : 1000 < e + 1
            · have HPP : Hid _ := heard_large hends (by omega) hbig
              clear hends
              go_wp2_with fail
              refine (HX.out _).mono ?_
              rintro q u ⟨rfl, rfl⟩
              go_wp2_with (at_builtin; (refine wpList_append_lies _ rfl _ _ 28 rfl W.heap.size 33 i0 _ 2 24 Tryd.underlying28 hi hz0 hz1 hz2 rfl (by omega) _ L.length (hcells L) rfl (HR.out.own.below (balloc wo (.cells #[.string ⟨#[]⟩, .int .i64 2] 33))) ⟨wo.heap.size, 0, none⟩ 1 1 [.string ⟨#[]⟩, .int .i64 2] rfl rfl (World.news_of_block (cs := #[.string ⟨#[]⟩, .int .i64 2]) (t := 33) (fr := (0, 0)) (heap_alloc_new wo _)) (by simp [Value.oneCell']) (by omega) (by unfold maxLen; omega) (by omega) (Nat.le_trans HR.out.bel.size (by simp)) (wo.heap.size + 1) (by simp) ?_); intro g2 cap2 w2 hown2 hgrow2 hat2 hlt2)
              have HN : Hid _ := HR.out.push (p := ([], 2)) HF.out hke hlt HQ.out HPP.out (balloc wo (.cells #[.string ⟨#[]⟩, .int .i64 2] 33)) hown2 hgrow2
              have hez : (t.extract (e + 1) t.size).size = t.size - (e + 1) := by rw [ByteArray.size_extract]; omega
              clear hown2 hgrow2 hat2 hlt2 HPP HX HQ HR HF
              go_wp2
              go_roundw
              case rel => exact ⟨_, 0, L ++ [([], 2)], rfl, rfl, Nat.zero_le _, by rw [hez, List.length_append]; simp only [List.length_cons, List.length_nil]; omega, HN⟩
              case measure => simp [sLen]; omega
            · have HPN : Hid _ := heard_small hends (by omega) (by omega)
              clear hends
              have HQ2 : Hid (hearL ((nums t).take k) ((nums t).drop k) = hearL ((nums t).take (e + 1)) ((nums t).drop (e + 1))) := by
                show _ = _
                rw [HQ.out]
                exact step_none _ e (by omega) (HF.out.not hke (by omega)) HPN.out
              clear HQ HPN
              by_cases hlast : e + 1 = t.size
              · have hl2 : (((e : Int) + 1) == (t.size : Int)) = true := by simp; omega
                rw [hlast] at HQ2
                have ex : t.extract 0 (e + 1) = t := by
                  apply nums_inj
                  rw [nums_front, hlast, ← nums_length t, List.take_length]
                rw [ex] at HX
                obtain ⟨d1, d2⟩ := HR.out.done HQ2.out
                have hbel := HR.out.bel
                have b0 : wo.cell? ⟨w.heap.size + 1, 0, none⟩ = some (.string ⟨#[]⟩) := (hbel.cell (p := ⟨w.heap.size + 1, 0, none⟩) (by show w.heap.size + 1 < _; omega)).trans HWc.out
                have f0 : wo.frozen? ⟨w.heap.size + 1, 0, none⟩ = false := (hbel.frozen (p := ⟨w.heap.size + 1, 0, none⟩) (by show w.heap.size + 1 < _; omega)).trans HWf.out
                have HO : Hid (Hrs wo W.heap.size va L) := HR.out.own
                have HB : Hid (Below w.heap.size w wo) := HWb.out.trans (hbel.mono (by omega))
                have D1 : Hid _ := d1
                have D2 : Hid _ := d2
                clear d1 d2 hbel HR HQ2 HF
                go_wp2_with fail
                refine (HX.out _).mono ?_
                rintro q u ⟨rfl, rfl⟩
                go_wp2
                rw [← D1.out, ← D2.out]
                refine bodyPost_ret (v := .tuple #[ear t, va, .int .i64 0]) (by simp [results, Tryd.results8, go_sem, b0]) rfl ⟨va, rfl, ?_, HB.out.setCell (by show w.heap.size ≤ w.heap.size + 1; omega) _⟩
                exact (HO.out.set ⟨w.heap.size + 1, 0, none⟩ _ (by show w.heap.size + 1 < _; omega)).mono (by omega)
              · have hl2 : (((e : Int) + 1) == (t.size : Int)) = false := beq_eq_false_iff_ne.2 (by omega)
                go_wp2_with fail
                refine (HX.out _).mono ?_
                rintro q u ⟨rfl, rfl⟩
                go_wp2
                go_roundw
                case rel => exact ⟨e + 1, rfl, by go_num, by omega, by omega, .inr (by omega), trivial, HQ2⟩
                case measure => simp [intOf]; omega
          · have h3 : 3 ≤ e + 1 := by
              have h := hends
              unfold endsL at h
              rw [Bool.and_eq_true] at h
              have := of_decide_eq_true h.1
              rw [List.length_take] at this
              omega
            obtain ⟨d, rfl⟩ : ∃ d, e = d + 2 := ⟨e - 2, by omega⟩
            rw [hends] at HX
            have HPP : Hid (heardL ((nums t).take (d + 2 + 1)) = _) := heard_ends (T := nums t) (d := d) hends (by omega)
            have HPC : Hid (∀ u, Below W.heap.size W u → Calls Tryd.prog 22 #[.string (t.extract 0 d)] u fun r w' => r = .returned (.tuple #[.string (strOfNums (pieceL ((nums t).take d)).2), .int .i64 (pieceL ((nums t).take d)).1]) ∧ Below u.heap.size u w') := fun u hu => by
              have := rpiece_any (t.extract 0 d) u m (HM.out u hu) (by rw [ByteArray.size_extract]; omega)
              unfold pieceS pieceC at this
              rw [nums_front] at this
              exact this
            obtain ⟨pt, hpt⟩ : ∃ z, (pieceL ((nums t).take d)).2 = z := ⟨_, rfl⟩
            obtain ⟨pc, hpc⟩ : ∃ z, (pieceL ((nums t).take d)).1 = z := ⟨_, rfl⟩
            rw [hpt, hpc] at HPP HPC
            have hi3 : ((d : Int) + 2 + 1 - 3) = (d : Int) := by omega
            clear hends hpt hpc h3
            go_wp2_with fail
            refine (HX.out _).mono ?_
            rintro q u ⟨rfl, rfl⟩
            go_wp2_with fail
            refine (HPC.out _ HR.out.bel).mono ?_
            rintro q u ⟨rfl, hbp⟩
            have HO : Hid (Hrs (u.alloc (.cells #[.string (strOfNums pt), .int .i64 pc] 33)) W.heap.size va L) := (HR.out.own.below hbp).below (balloc u (.cells #[.string (strOfNums pt), .int .i64 pc] 33))
            have HBu : Hid (Below wo.heap.size wo (u.alloc (.cells #[.string (strOfNums pt), .int .i64 pc] 33)) ∧ W.heap.size ≤ u.heap.size) := ⟨bsq hbp (balloc u _), Nat.le_trans HR.out.bel.size hbp.size⟩
            clear hbp HPC HX
            go_wp2_with (at_builtin; (refine wpList_append_lies _ rfl _ _ 28 rfl W.heap.size 33 i0 _ 2 24 Tryd.underlying28 hi hz0 hz1 hz2 rfl (by omega) _ L.length (hcells L) rfl HO.out ⟨u.heap.size, 0, none⟩ 1 1 [.string (strOfNums pt), .int .i64 pc] rfl rfl (World.news_of_block (cs := #[.string (strOfNums pt), .int .i64 pc]) (t := 33) (fr := (0, 0)) (heap_alloc_new u _)) (by simp [Value.oneCell']) (by omega) (by unfold maxLen; omega) (by omega) (Nat.le_trans HBu.out.2 (by simp)) (u.heap.size + 1) (by simp) ?_); intro g2 cap2 w2 hown2 hgrow2 hat2 hlt2)
            have HN : Hid _ := HR.out.push (p := (pt, pc)) HF.out hke hlt HQ.out HPP.out HBu.out.1 hown2 hgrow2
            have hez : (t.extract (d + 2 + 1) t.size).size = t.size - (d + 2 + 1) := by rw [ByteArray.size_extract]; omega
            clear hown2 hgrow2 hat2 hlt2 HPP HQ HR HF HO HBu
            go_wp2
            go_roundw
            case rel => exact ⟨_, 0, L ++ [(pt, pc)], rfl, rfl, Nat.zero_le _, by rw [hez, List.length_append]; simp only [List.length_cons, List.length_nil]; omega, HN⟩
            case measure => simp [sLen]; omega
        · obtain rfl : e = t.size := by omega
          obtain rfl : t.size = k := by omega
          obtain ⟨d1, d2⟩ := HR.out.done HQ.out
          have hbel := HR.out.bel
          have b0 : wo.cell? ⟨w.heap.size + 1, 0, none⟩ = some (.string ⟨#[]⟩) := (hbel.cell (p := ⟨w.heap.size + 1, 0, none⟩) (by show w.heap.size + 1 < _; omega)).trans HWc.out
          have f0 : wo.frozen? ⟨w.heap.size + 1, 0, none⟩ = false := (hbel.frozen (p := ⟨w.heap.size + 1, 0, none⟩) (by show w.heap.size + 1 < _; omega)).trans HWf.out
          have HO : Hid (Hrs wo W.heap.size va L) := HR.out.own
          have HB : Hid (Below w.heap.size w wo) := HWb.out.trans (hbel.mono (by omega))
          have D1 : Hid _ := d1
          have D2 : Hid _ := d2
          clear d1 d2 hbel HR HQ HF hside
          go_wp2
          rw [← D1.out, ← D2.out]
          refine bodyPost_ret (v := .tuple #[ear t, va, .int .i64 0]) (by simp [results, Tryd.results8, go_sem, b0]) rfl ⟨va, rfl, ?_, HB.out.setCell (by show w.heap.size ≤ w.heap.size + 1; omega) _⟩
          exact (HO.out.set ⟨w.heap.size + 1, 0, none⟩ _ (by show w.heap.size + 1 < _; omega)).mono (by omega)
end Go.Proofs.YtbkdalgmhmaofaaDoor.lane
