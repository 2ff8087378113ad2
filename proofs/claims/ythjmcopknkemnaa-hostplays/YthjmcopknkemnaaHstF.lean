/- host: what workOnce answers. -/
import Derived.Test.YthjmcopknkemnaaHstE
namespace Go.Proofs.Ythjmcopknkemnaa.host
open Go Go.RowKit
open Go.Proofs.Ythjmcopknkemnaa
open Go.Proofs.Ythjmcopknkemnaa.slots (Row row_board row_cmd Chg ag fl Wf bsq)
open Go.Proofs.Ythjmcopknkemnaa.ring (Ces Rcs rgV rgW Rg Ce ceV named keep wp_abs h_take h_call h_value h_skip)
set_option linter.unusedVariables false
set_option linter.unusedSimpArgs false
set_option maxRecDepth 100000

theorem Mv.tail {w u : World} {x : Bk} {L : List Bk} {R : List (Bool × Value × List Ce)} (h : Mv w u (x :: L) R) : Mv w u L R :=
  ⟨fun y hy => h.lies y (List.mem_cons_of_mem _ hy), fun y hy => h.own y (List.mem_cons_of_mem _ hy), (List.nodup_cons.1 h.ap).2, fun y hy => h.ty y (List.mem_cons_of_mem _ hy), h.rows, h.below⟩
theorem Mv.less {w u : World} {x : Bool × Value × List Ce} {L : List Bk} {R : List (Bool × Value × List Ce)} (h : Mv w u L (x :: R)) : Mv w u L R :=
  ⟨h.lies, h.own, h.ap, h.ty, fun y hy => h.rows y (List.mem_cons_of_mem _ hy), h.below⟩
theorem atG_mem {r : Rg} (h : ring.Rt r) : ring.atG r ∈ r.C := by
  have h0 := h.ga0
  have h1 := h.ga1
  unfold ring.atG
  rw [List.getD_eq_getElem?_getD, List.getElem?_eq_getElem (by omega)]
  exact List.getElem_mem _
theorem ex_loadv {o : Oper} {a : Act} {W : World} {t : TypeId} {x : Operand} (ho : o.op = .load t x) {B k n : Nat} (hT : Row t n) (hx : a.eval x = .pointer (some ⟨B, k, none⟩)) {T : TypeId} {l r : List Value} (hB : W.heap[B]? = some (bv T l)) (hle : k + n ≤ l.length) (hr : cv l k n = r) :
    (execOp a.eval o).run Try.prog W = .ok (.value (agv r)) W := by
  subst hr
  unfold execOp
  simp only [ho, hx, Sem.run_bind, run_loadv hT hB hle, Result.andThen_ok, Sem.run_pure]
theorem ex_buildv {o : Oper} {a : Act} {W : World} {t : TypeId} {ps : Array (Nat × Operand)} (ho : o.op = .build t ps) {vs : Array (Nat × Value)} {v : Value} (hb : ∀ w, (Instr.build t vs).run Try.prog w = .ok v w) (hv : ps.map (fun q => (q.1, a.eval q.2)) = vs) :
    (execOp a.eval o).run Try.prog W = .ok (.value v) W := by
  subst hv
  unfold execOp
  simp only [ho, Sem.run_bind, hb, Result.andThen_ok, Sem.run_pure]
theorem ex_alloc {o : Oper} {a : Act} {W : World} {t : TypeId} {l : List Value} (ho : o.op = .alloc t) (hz : Zer t l) :
    ∃ u B, (execOp a.eval o).run Try.prog W = .ok (.value (.pointer (some ⟨B, 0, none⟩))) u ∧ New W u B t l := by
  refine ⟨W.alloc (bv t l), W.heap.size, ?_, New.alloc W t l⟩
  unfold execOp
  simp only [ho]
  cases hq : Try.prog.info? t with
  | none => have := hz.eq; simp [hq] at this
  | some i =>
    have hz' : i.zero = some (agv l) := by simpa [hq] using hz.eq
    simp [go_sem, zeroValue, typeInfo, hq, hz', agv, bv]
theorem ex_fillv {o : Oper} {a : Act} {W : World} {t : TypeId} {x y : Operand} (ho : o.op = .store t x y) {B n : Nat} (hT : Row t n) {T : TypeId} {l r : List Value} (hx : a.eval x = .pointer (some ⟨B, 0, none⟩)) (hy : a.eval y = agv r) (hB : W.heap[B]? = some (bv T l)) (hr : Vs r n) (hl : l.length = n) :
    ∃ u, (execOp a.eval o).run Try.prog W = .ok .skip u ∧ u.heap[B]? = some (bv T r) ∧ Chg B W u := by
  have hs := run_storev (k := 0) hT hB hr (by omega)
  rw [ptv_all (by rw [hr.len, hl])] at hs
  refine ⟨_, ?_, setRow_heap W B _ _ T _ hB, setRow_chg _ hB⟩
  unfold execOp
  simp only [ho, hx, hy, Sem.run_bind, hs, Result.andThen_ok, Sem.run_pure]
section
variable {md : Region.Mode} {ops : Array Oper} {Q : Exit → Act → World → Prop} {S : World → Prop} {i : Nat} {o : Oper} {fuel : Nat} {L : Array Bool} {a : Act} {W : World}
theorem h_allocv (hi : ops[i]? = some o) (hrd : Region.ready md ops L = [i]) (hg : o.guard = none) {t : TypeId} {l : List Value} (ho : o.op = .alloc t) (hz : Zer t l)
    (h : ∀ u B, New W u B t l → S u ∧ wpAnyH Try.prog md ops Q S fuel (L.setIfInBounds i true) (a.put o.dst (.pointer (some ⟨B, 0, none⟩))) u) : wpAnyH Try.prog md ops Q S (fuel + 1) L a W := by
  obtain ⟨u, B, h1, h2⟩ := ex_alloc (a := a) (W := W) ho hz
  exact h_value _ hi hrd hg h1 (h u B h2).1 (h u B h2).2
theorem o_allocv {K : Act → World → Prop} (hi : ops[i]? = some o) (hg : o.guard = none) {t : TypeId} {l : List Value} (ho : o.op = .alloc t) (hz : Zer t l)
    (h : ∀ u B, New W u B t l → K (a.put o.dst (.pointer (some ⟨B, 0, none⟩))) u) : wpOp Try.prog ops Q i K a W := by
  obtain ⟨u, B, h1, h2⟩ := ex_alloc (a := a) (W := W) ho hz
  exact ring.o_value _ hi hg h1 (h u B h2)
theorem h_fillv (hi : ops[i]? = some o) (hrd : Region.ready md ops L = [i]) (hg : o.guard = none)
    {t : TypeId} {x y : Operand} (ho : o.op = .store t x y) {B n : Nat} (hT : Row t n) {T : TypeId} {l r : List Value} (hx : a.eval x = .pointer (some ⟨B, 0, none⟩)) (hy : a.eval y = agv r) (hB : W.heap[B]? = some (bv T l)) (hr : Vs r n) (hl : l.length = n)
    (h : ∀ u, u.heap[B]? = some (bv T r) → Chg B W u → S u ∧ wpAnyH Try.prog md ops Q S fuel (L.setIfInBounds i true) (a.put o.dst undef) u) : wpAnyH Try.prog md ops Q S (fuel + 1) L a W := by
  obtain ⟨u, h1, h2, h3⟩ := ex_fillv (a := a) ho hT hx hy hB hr hl
  exact h_skip hi hrd hg h1 (h u h2 h3).1 (h u h2 h3).2
end
theorem ptv_len {l r : List Value} {k : Nat} (h : k + r.length ≤ l.length) : (ptv l k r).length = l.length := by unfold ptv; simp; omega
theorem fold_put : ∀ (r : List Value) (l : List Value) (off k : Nat), off + k + r.length ≤ l.length → (r.zipIdx k).foldl (fun (cs : Array Value) (p : Value × Nat) => cs.setIfInBounds (off + p.2) p.1) l.toArray = (ptv l (off + k) r).toArray
  | [], l, off, k, h => by simp [ptv]
  | x :: r, l, off, k, h => by
    have hl : off + k < l.length := by simp at h; omega
    rw [List.zipIdx_cons, List.foldl_cons]
    have e : l.toArray.setIfInBounds (off + k) x = (l.set (off + k) x).toArray := by simp
    rw [e, fold_put r (l.set (off + k) x) off (k + 1) (by simp at h ⊢; omega)]
    congr 1
    unfold ptv
    refine List.ext_getElem? fun j => ?_
    simp only [List.getElem?_append, List.getElem?_take, List.getElem?_drop, List.getElem?_set, List.length_append, List.length_take, List.length_set, List.length_cons]
    simp only [List.length_cons] at h
    rw [Nat.min_eq_left (by omega), Nat.min_eq_left (by omega)]
    by_cases h1 : j < off + k
    · rw [if_pos (by omega), if_pos (by omega), if_pos (by omega), if_neg (by omega), if_pos (by omega), if_pos h1, if_pos h1]
    · by_cases h2 : j = off + k
      · subst h2
        rw [if_pos (by omega), if_pos (by omega), if_pos (by omega), if_pos rfl, if_pos hl, if_pos (by omega), if_neg (by omega)]
        simp
      · by_cases h3 : j < off + k + 1 + r.length
        · rw [if_pos (by omega), if_neg (by omega), if_pos (by omega), if_neg (by omega), show j - (off + k) = (j - (off + (k + 1))) + 1 by omega, List.getElem?_cons_succ]
        · rw [if_neg (by omega), if_neg (by omega), if_neg (by omega)]
          congr 1
          omega
theorem ptv_mid (A Z C V : List Value) (h : V.length = Z.length) : ptv (A ++ (Z ++ C)) A.length V = A ++ (V ++ C) := by
  unfold ptv
  rw [List.take_left', List.drop_append, List.drop_eq_nil_of_le (by omega), List.nil_append, show A.length + V.length - A.length = Z.length by omega, List.drop_left', List.append_assoc]
  · rfl
  · rfl
theorem und_mach : Try.prog.underlying 43 = some (.struct (Try.prog.fieldsOf 43)) := by kernel_rfl
theorem places_m : (Try.prog.fieldsOf 43).toList.mapM (fun f => (Try.prog.info? f.type).map fun i => (f.offset, i.size)) = some [(0, 6), (6, 6), (12, 594)] := by kernel_rfl
theorem fill_one {place : Nat → Option (Nat × Nat)} {l V : List Value} {i off n : Nat} {rest : List (Nat × Value)} (hp : place i = some (off, n)) (hV : V.length = n) (hl : off + n ≤ l.length) : Instr.fill place l.toArray ((i, agv V) :: rest) = Instr.fill place (ptv l off V).toArray rest := by
  have hf := fold_put V l off 0 (by omega)
  rw [Nat.add_zero] at hf
  have hc : (agv V).cells = V.toArray := rfl
  have hz : V.toArray.zipIdx.foldl (fun (cs : Array Value) (p : Value × Nat) => cs.setIfInBounds (off + p.2) p.1) l.toArray = (V.zipIdx 0).foldl (fun (cs : Array Value) (p : Value × Nat) => cs.setIfInBounds (off + p.2) p.1) l.toArray := by
    rw [← Array.foldl_toList]
    simp
  rw [Instr.fill, hp]
  simp only [hc]
  rw [if_neg (by simp [hV]; omega), hz, hf]
theorem bld_m {V1 V2 V3 : List Value} (h1 : Vs V1 6) (h2 : Vs V2 6) (h3 : Vs V3 594) (w : World) : (Instr.build 43 #[(0, agv V1), (1, agv V2), (2, agv V3)]).run Try.prog w = .ok (agv (V1 ++ (V2 ++ V3))) w := by
  refine run_build w _ _ _ ?_
  obtain ⟨it, hit, hz⟩ : ∃ it, Try.prog.info? 43 = some it ∧ it.zero = some (agv zl) := by
    have := zer_mach.eq
    cases hq : Try.prog.info? 43 with
    | none => simp [hq] at this
    | some i => exact ⟨i, rfl, by simpa [hq] using this⟩
  unfold Program.built
  rw [hit, und_mach]
  simp only
  rw [hz, places_m]
  simp only
  have hzl := zl_vs.len
  have a1 := h1.len
  have a2 := h2.len
  have a3 := h3.len
  have e0 : (agv zl).cells = zl.toArray := rfl
  rw [e0, fill_one (off := 0) (n := 6) rfl a1 (by omega), fill_one (off := 6) (n := 6) rfl a2 (by rw [ptv_len (by omega)]; omega), fill_one (off := 12) (n := 594) rfl a3 (by rw [ptv_len (by rw [ptv_len (by omega)]; omega), ptv_len (by omega)]; omega)]
  have q1 : ptv zl 0 V1 = V1 ++ (rgl nilS ring.zR ++ ivs (fl slots.zB)) := ptv_mid [] (rgl nilS ring.zR) _ V1 a1
  have q2 : ptv (V1 ++ (rgl nilS ring.zR ++ ivs (fl slots.zB))) 6 V2 = V1 ++ (V2 ++ ivs (fl slots.zB)) := by
    have := ptv_mid V1 (rgl nilS ring.zR) (ivs (fl slots.zB)) V2 a2
    rw [a1] at this
    exact this
  have q3 : ptv (V1 ++ (V2 ++ ivs (fl slots.zB))) 12 V3 = V1 ++ (V2 ++ V3) := by
    have := ptv_mid (V1 ++ V2) (ivs (fl slots.zB)) [] V3 (by rw [a3]; exact ((ivs_vs slots.zB_wf.length).len).symm)
    rw [List.length_append, a1, a2, List.append_nil, List.append_nil, List.append_assoc, List.append_assoc] at this
    exact this
  rw [q1, q2, q3]
  rfl
/-- what the callees of workOnce answer -/
structure Wo (w : World) (vc ve : Value) (m : Mc) : Prop where
  hg : ∀ u, Below w.heap.size w u → Calls Try.prog 44 #[agv (rgl vc m.c)] u fun e w' => ∃ v', e = .returned (.tuple #[agv (rgl v' (ring.getV m.c)), .int .u64 (ring.getW m.c), .bool (ring.getB m.c), .int .i64 0]) ∧ ring.Tel u v' (ring.getV m.c) w'
  hu : ∀ u, Calls Try.prog 11 #[.int .u64 (ring.atG m.c).1] u fun e w' => e = .returned (.tuple #[cmV (upK (ring.atG m.c).1), .int .i64 0]) ∧ Below u.heap.size u w'
  hd : ∀ u, Calls Try.prog 30 #[agv (ivs (fl m.B)), cmV (upK (ring.atG m.c).1)] u fun r w' => r = .returned (.tuple #[agv (ivs (fl (dn m).B)), .int .i64 (dn m).c, .int .i64 (dn m).n]) ∧ Below u.heap.size u w'
  he : ∀ u, Calls Try.prog 67 #[agv (ivs [(dn m).c, (dn m).n, m.c.ga])] u fun e w' => e = .returned (.int .u64 (evW (nev m))) ∧ Below u.heap.size u w'
  hp : ∀ u, Below w.heap.size w u → Calls Try.prog 37 #[agv (rgl ve m.e), .int .u64 (evW (nev m))] u fun e w' => ∃ v', e = .returned (.tuple #[agv (rgl v' (if ring.putB m.e = true then ring.putV m.e (evW (nev m)) else ring.zR)), .int .i64 (if ring.putB m.e = true then 0 else 11)]) ∧ ring.Tel u v' (if ring.putB m.e = true then ring.putV m.e (evW (nev m)) else ring.zR) w'
  wd : Wf (dn m).B
theorem In.wo {w : World} {vc ve : Value} {m : Mc} (hi : In w vc ve m) (hr : rtB m = true) : Wo w vc ve m := by
  have hR := rt_iff.1 hr
  have k1 : ring.chk m.c = 0 := ring.chk_ok.2 hR.c
  have k2 : ring.chk m.e = 0 := ring.chk_ok.2 hR.e
  have hm := atG_mem hR.c
  have hb := hi.wc _ hm
  have hc : cwB (ring.atG m.c).1 = true := List.all_eq_true.1 hR.wc _ hm
  have hlt : (ring.atG m.c).1 < 35184372088832 := of_decide_eq_true hc
  refine ⟨fun u hu => ?_, fun u => ?_, fun u => ?_, fun u => packEvent_any (nev m) u hR.sm, fun u hu => ?_, slots.do_wf hi.B⟩
  · have := ring.Get_any vc m.c u (hi.c.below hu)
    unfold ring.gtV ring.gtW ring.gtB at this
    rw [if_pos k1, if_pos k1, if_pos k1, k1] at this
    exact this
  · have := unpack_any (ring.atG m.c).1 u hb.1 hb.2
    unfold upV upC at this
    rw [if_pos hc, if_pos hc] at this
    exact this
  · have hp := up_in hb.1 hlt
    exact slots.do_any m.B _ _ _ _ u hi.B (by have := hp.a0; omega) (by have := hp.a1; omega)
  · have := ring.Put_any ve m.e (evW (nev m)) u (hi.e.below hu)
    unfold ring.ptV ring.ptC at this
    rw [if_pos k2, if_pos k2] at this
    exact this
set_option maxHeartbeats 8000000 in
theorem workOnce_no1 (vc ve : Value) (m : Mc) (w : World) (hi : In w vc ve m) (hr : rtB m = true) (hg : ring.getB m.c = false) :
    Calls Try.prog 41 #[agv (mvl vc ve m)] w fun e w' => e = .returned (.tuple #[agv (mvl vc ve m), .bool false]) ∧ Below w.heap.size w w' := by
  have ho := hi.wo hr
  have hM : Mv w w [] [(false, vc, m.c.C), (false, ve, m.e.C)] := ((Mv.nil w).old hi.e).old hi.c
  have HG : Hid (∀ u, Below w.heap.size w u → Calls Try.prog 44 #[agv (rgl vc m.c)] u fun e w' => ∃ v', e = .returned (.tuple #[agv (rgl v' m.c), .int .u64 0, .bool false, .int .i64 0]) ∧ ring.Tel u v' m.c w') := fun u hu => by
    have := ho.hg u hu
    unfold ring.getV ring.getW at this
    rw [hg] at this
    exact this
  have HV : Hid (Vs (mvl vc ve m) 606) := hi.vs
  have HL0 : Hid (0 + 606 ≤ (mvl vc ve m).length) := by show _ ≤ _; rw [hi.vs.len]; exact Nat.le_refl _
  have HA0 : Hid (cv (mvl vc ve m) 0 606 = mvl vc ve m) := cv_all hi.vs.len
  have HL6 : Hid (0 + 6 ≤ (mvl vc ve m).length) := by show _ ≤ _; rw [hi.vs.len]; omega
  have HA6 : Hid (cv (mvl vc ve m) 0 6 = rgl vc m.c) := cv_c _ _ _
  have Q3 : Hid ((mvl vc ve m)[3]? = some (.int .i64 m.c.ga)) := rfl
  have HZ : Hid (zl.length = 606) := zl_vs.len
  have HZR : Hid ((rgl nilS ring.zR).length = 6) := rfl
  generalize mvl vc ve m = V at *
  clear hi hr hg ho
  go_enter Try.func41, Try.ntmps41
  repeat' (first | (go_big_may; first | (refine v_box rfl rfl rfl ?_; intro u xm hN; replace hM := hM.new hN (by decide); clear hN) | (refine v_alloc rfl zer_mach rfl ?_; intro u xr hN; replace hM := hM.new hN (by decide); clear hN) | (refine v_get rfl rfl (.inl rfl) rfl hM.at1 Q3.out ?_) | (refine v_load rfl rfl row_ring rfl hM.at1 HL6.out HA6.out ?_)) | go_values | go_skip | go_guarded | go_step | go_upon | (simp only [Int.not_lt, Int.not_le] at *; go_simp))
  refine (HG.out _ hM.below).mono ?_
  rintro r u1 ⟨v1, rfl, ht⟩
  replace hM := hM.tel ht.1 ht.2
  have H3 : Hid (Vs (rgl v1 m.c) 6) := rgl_vs (rcs_one ht.1.rcs)
  clear ht
  repeat' (first | (go_big_may; first | (refine v_alloc rfl zer_ring rfl ?_; intro u xg hN; replace hM := hM.new hN (by decide); clear hN) | (refine v_fill rfl rfl row_ring rfl rfl hM.at0 H3.out HZR.out ?_; intro u hv hc; replace hM := hM.put0 hc hv; clear hv hc) | (refine v_load rfl rfl row_mach rfl hM.at2 HL0.out HA0.out ?_) | (refine v_fill rfl rfl row_mach rfl rfl hM.at1 HV.out HZ.out ?_; intro u hv hc; replace hM := hM.put1 hc hv; clear hv hc)) | go_values | go_skip | go_guarded | go_step | go_upon | (simp only [Int.not_lt, Int.not_le] at *; go_simp))
  exact bodyPost_ret (slots.ret_2 Try.results41 rfl (ld_var row_mach hM.at1 HV.out.len) rfl) rfl ⟨rfl, hM.below⟩
set_option maxHeartbeats 8000000 in
theorem workOnce_no2 (vc ve : Value) (m : Mc) (w : World) (hi : In w vc ve m) (hr : rtB m = true) (hg : ring.getB m.c = true) (hp : ring.putB m.e = false) :
    Calls Try.prog 41 #[agv (mvl vc ve m)] w fun e w' => e = .returned (.tuple #[agv (mvl vc ve m), .bool false]) ∧ Below w.heap.size w w' := by
  have ho := hi.wo hr
  have hM : Mv w w [] [(false, vc, m.c.C), (false, ve, m.e.C)] := ((Mv.nil w).old hi.e).old hi.c
  have HG : Hid (∀ u, Below w.heap.size w u → Calls Try.prog 44 #[agv (rgl vc m.c)] u fun e w' => ∃ v', e = .returned (.tuple #[agv (rgl v' (ring.onG m.c)), .int .u64 (ring.atG m.c).1, .bool true, .int .i64 0]) ∧ ring.Tel u v' (ring.onG m.c) w') := fun u hu => by
    have := ho.hg u hu
    unfold ring.getV ring.getW at this
    rw [hg, if_pos rfl, if_pos rfl] at this
    exact this
  have HP : Hid (∀ u, Below w.heap.size w u → Calls Try.prog 37 #[agv (rgl ve m.e), .int .u64 (evW (nev m))] u fun e w' => ∃ v', e = .returned (.tuple #[agv (rgl v' ring.zR), .int .i64 11]) ∧ ring.Tel u v' ring.zR w') := fun u hu => by
    have := ho.hp u hu
    rw [hp] at this
    exact this
  have HUP : Hid (∀ u, Calls Try.prog 11 #[.int .u64 (ring.atG m.c).1] u fun e w' => e = .returned (.tuple #[cmV (upK (ring.atG m.c).1), .int .i64 0]) ∧ Below u.heap.size u w') := ho.hu
  have HD : Hid (∀ u, Calls Try.prog 30 #[agv (ivs (fl m.B)), cmV (upK (ring.atG m.c).1)] u fun r w' => r = .returned (.tuple #[agv (ivs (fl (dn m).B)), .int .i64 (dn m).c, .int .i64 (dn m).n]) ∧ Below u.heap.size u w') := ho.hd
  have HPE : Hid (∀ u, Calls Try.prog 67 #[agv (ivs [(dn m).c, (dn m).n, m.c.ga])] u fun e w' => e = .returned (.int .u64 (evW (nev m))) ∧ Below u.heap.size u w') := ho.he
  have HV : Hid (Vs (mvl vc ve m) 606) := hi.vs
  have HL0 : Hid (0 + 606 ≤ (mvl vc ve m).length) := by show _ ≤ _; rw [hi.vs.len]; exact Nat.le_refl _
  have HA0 : Hid (cv (mvl vc ve m) 0 606 = mvl vc ve m) := cv_all hi.vs.len
  have HL6 : Hid (0 + 6 ≤ (mvl vc ve m).length) := by show _ ≤ _; rw [hi.vs.len]; omega
  have HA6 : Hid (cv (mvl vc ve m) 0 6 = rgl vc m.c) := cv_c _ _ _
  have HL7 : Hid (6 + 6 ≤ (mvl vc ve m).length) := by show _ ≤ _; rw [hi.vs.len]; omega
  have HA7 : Hid (cv (mvl vc ve m) 6 6 = rgl ve m.e) := cv_e _ _ _
  have HL8 : Hid (12 + 594 ≤ (mvl vc ve m).length) := by show _ ≤ _; rw [hi.vs.len]; exact Nat.le_refl _
  have HA8 : Hid (cv (mvl vc ve m) 12 594 = ivs (fl m.B)) := cv_b _ _ hi.B
  have Q3 : Hid ((mvl vc ve m)[3]? = some (.int .i64 m.c.ga)) := rfl
  have HZ : Hid (zl.length = 606) := zl_vs.len
  have HZR : Hid ((rgl nilS ring.zR).length = 6) := rfl
  have HZC : Hid ((ivs [0, 0, 0, 0]).length = 4) := rfl
  have HZB : Hid ((ivs (fl slots.zB)).length = 594) := (ivs_vs slots.zB_wf.length).len
  have HX : Hid (Vs (ivs [(upK (ring.atG m.c).1).1, (upK (ring.atG m.c).1).2.1, (upK (ring.atG m.c).1).2.2.1, (upK (ring.atG m.c).1).2.2.2]) 4) := ivs_vs rfl
  have HDB : Hid (Vs (ivs (fl (dn m).B)) 594) := ivs_vs ho.wd.length
  have hbe := bld_e3 (dn m).c (dn m).n m.c.ga
  unfold cmV at HUP HD
  clear hi hr hg ho hp
  generalize evW (nev m) = W at *
  generalize (ring.atG m.c).1 = cw at *
  generalize upK cw = y at *
  obtain ⟨y1, y2, y3, y4⟩ := y
  simp only at HUP HD HX
  generalize (dn m).c = dc at *
  generalize dnn : (dn m).n = dq at *
  generalize (dn m).B = dB at *
  clear dnn
  obtain ⟨EV, hEV⟩ : ∃ EV, ivs [dc, dq, m.c.ga] = EV := ⟨_, rfl⟩
  rw [hEV] at HPE hbe
  clear hEV
  generalize m.c.ga = ga at *
  generalize ring.onG m.c = G at *
  generalize mvl vc ve m = V at *
  have HLX : Hid (0 + 4 ≤ (ivs [y1, y2, y3, y4]).length) := Nat.le_refl _
  have HAX : Hid (cv (ivs [y1, y2, y3, y4]) 0 4 = ivs [y1, y2, y3, y4]) := rfl
  generalize ivs [y1, y2, y3, y4] = X at *
  generalize hDF : ivs (fl dB) = DF at *
  have HDL : Hid (0 + 594 ≤ DF.length) := by show _ ≤ _; rw [HDB.out.len]; exact Nat.le_refl _
  have HDA : Hid (cv DF 0 594 = DF) := cv_all HDB.out.len
  generalize ivs (fl m.B) = MB at *
  clear hDF
  go_enter Try.func41, Try.ntmps41
  repeat' (first | (go_big_may; first | (refine v_box rfl rfl rfl ?_; intro u xm hN; replace hM := hM.new hN (by decide); clear hN) | (refine v_alloc rfl zer_mach rfl ?_; intro u xr hN; replace hM := hM.new hN (by decide); clear hN) | (refine v_get rfl rfl (.inl rfl) rfl hM.at1 Q3.out ?_) | (refine v_load rfl rfl row_ring rfl hM.at1 HL6.out HA6.out ?_)) | go_values | go_skip | go_guarded | go_step | go_upon | (simp only [Int.not_lt, Int.not_le] at *; go_simp))
  refine (HG.out _ hM.below).mono ?_
  rintro r u1 ⟨v1, rfl, ht⟩
  replace hM := hM.tel ht.1 ht.2
  have H3 : Hid (Vs (rgl v1 G) 6) := rgl_vs (rcs_one ht.1.rcs)
  have HL9 : Hid (0 + 6 ≤ (rgl v1 G).length) := Nat.le_refl _
  have HA9 : Hid (cv (rgl v1 G) 0 6 = rgl v1 G) := rfl
  clear ht
  repeat' (first | (go_big_may; first | (refine v_alloc rfl zer_ring rfl ?_; intro u xg hN; replace hM := hM.new hN (by decide); clear hN) | (refine v_fill rfl rfl row_ring rfl rfl hM.at0 H3.out HZR.out ?_; intro u hv hc; replace hM := hM.put0 hc hv; clear hv hc)) | go_values | go_skip | go_guarded | go_step | go_upon | (simp only [Int.not_lt, Int.not_le] at *; go_simp))
  refine (HUP.out _).mono ?_
  rintro r u2 ⟨rfl, hv⟩
  replace hM := hM.call hv
  clear hv
  repeat' (first | (go_big_may; first | (refine v_alloc rfl zer_cmd rfl ?_; intro u xc hN; replace hM := hM.new hN (by decide); clear hN) | (refine v_fill rfl rfl row_cmd rfl rfl hM.at0 HX.out HZC.out ?_; intro u hv hc; replace hM := hM.put0 hc hv; clear hv hc) | (refine v_load rfl rfl row_board rfl hM.at3 HL8.out HA8.out ?_) | (refine v_load rfl rfl row_cmd rfl hM.at0 HLX.out HAX.out ?_)) | go_values | go_skip | go_guarded | go_step | go_upon | (simp only [Int.not_lt, Int.not_le] at *; go_simp))
  refine (HD.out _).mono ?_
  rintro r u3 ⟨rfl, hv⟩
  replace hM := hM.call hv
  clear hv
  repeat' (first | (go_big_may; first | (refine v_alloc rfl zer_board rfl ?_; intro u xb hN; replace hM := hM.new hN (by decide); clear hN) | (refine v_fill rfl rfl row_board rfl rfl hM.at0 HDB.out HZB.out ?_; intro u hv hc; replace hM := hM.put0 hc hv; clear hv hc)) | go_values | go_skip | go_guarded | go_step | go_upon | (simp only [Int.not_lt, Int.not_le] at *; go_simp))
  go_simp
  rename World => u5
  refine wp_abs (fun a0 => a0.tmps.size = 62 ∧ (∀ h, a0.tmps[1]'h = .pointer (some ⟨xm, 0, none⟩)) ∧ (∀ h, a0.tmps[4]'h = .int .i64 ga) ∧ (∀ h, a0.tmps[12]'h = .int .i64 dc) ∧ (∀ h, a0.tmps[13]'h = .int .i64 dq)) ⟨rfl, fun _ => rfl, fun _ => rfl, fun _ => rfl, fun _ => rfl⟩ ?_
  rintro a0 ⟨hsz, s1, s4, s12, s13⟩ ha0
  obtain ⟨LL, hLL⟩ : ∃ LL : List Bk, [(xb, 41, DF), (xc, 23, X), (xg, 35, rgl v1 G), (xr, 43, zl), (xm, 43, V)] = LL := ⟨_, rfl⟩
  obtain ⟨RR, hRR⟩ : ∃ RR : List (Bool × Value × List Ce), [(true, v1, G.C), (false, vc, m.c.C), (false, ve, m.e.C)] = RR := ⟨_, rfl⟩
  rw [hLL, hRR] at hM
  refine wp_region_held (S := fun W => Mv w W LL RR) (by kernel_rfl) ?_
  have hS0 : Mv w u5.drew LL RR := hM.drew
  refine h_take (i := 0) (.pointer (some ⟨xm, 6, none⟩)) rfl (by kernel_rfl) (by kernel_rfl) (by kernel_rfl) (fun _ _ _ h => h) rfl hS0 (fun W hW => by simp [execOp, go_sem, Act.put, hsz, s1, s4, s12, s13]) ?_
  refine h_take (i := 1) (agv (rgl ve m.e)) rfl (by kernel_rfl) (by kernel_rfl) (by kernel_rfl) (fun _ _ _ h => h) rfl hS0 (fun W hW => by
    rw [← hLL] at hW
    exact ex_loadv rfl row_ring (by simp [go_sem, Act.put, hsz]) hW.at4 HL7.out HA7.out) ?_
  refine h_take (i := 2) (.int .i64 dc) rfl (by kernel_rfl) (by kernel_rfl) (by kernel_rfl) (fun _ _ _ h => h) rfl hS0 (fun W hW => by simp [execOp, go_sem, Act.put, hsz, s1, s4, s12, s13]) ?_
  refine h_take (i := 3) (.int .i64 dq) rfl (by kernel_rfl) (by kernel_rfl) (by kernel_rfl) (fun _ _ _ h => h) rfl hS0 (fun W hW => by simp [execOp, go_sem, Act.put, hsz, s1, s4, s12, s13]) ?_
  refine h_take (i := 4) (.int .i64 ga) rfl (by kernel_rfl) (by kernel_rfl) (by kernel_rfl) (fun _ _ _ h => h) rfl hS0 (fun W hW => by simp [execOp, go_sem, Act.put, hsz, s1, s4, s12, s13]) ?_
  refine h_take (i := 5) (agv EV) rfl (by kernel_rfl) (by kernel_rfl) (by kernel_rfl) (fun _ _ _ h => h) rfl hS0 (fun W hW => ex_buildv rfl hbe (by simp [go_sem, Act.put, hsz, Act.eval])) ?_
  refine ring.h_two 6 11 (by kernel_rfl) ?_ ?_
  · refine ring.o_call (i := 6) 67 #[agv EV] rfl rfl (by simp [execOp, go_sem, Act.put, hsz, s1, s4, s12, s13]) ((HPE.out _).mono ?_)
    rintro e u6 ⟨rfl, hb⟩
    have hS1 : Mv w u6 LL RR := hS0.call hb
    refine ⟨_, rfl, hS1, ?_⟩
    refine ring.h_two 7 11 (by kernel_rfl) ?_ ?_
    · refine ring.o_call (i := 7) 37 #[agv (rgl ve m.e), .int .u64 W] rfl rfl (by simp [execOp, go_sem, Act.put, hsz, s1, s4, s12, s13]) ((HP.out _ hS1.below).mono ?_)
      rintro e u7 ⟨v3, rfl, ht⟩
      have H4 : Hid (Vs (rgl v3 ring.zR) 6) := rgl_vs (rcs_one ht.1.rcs)
      have hS2 := hS1.tel ht.1 ht.2
      refine ⟨_, rfl, hS2.less, ?_⟩
      clear ht
      refine h_take (i := 8) (.tuple #[agv (rgl v3 ring.zR), .int .i64 11]) rfl (by kernel_rfl) (by kernel_rfl) (by kernel_rfl) (fun _ _ _ h => h) rfl hS2.less (fun W hW => by simp [execOp, go_sem, Act.put, hsz, s1, s4, s12, s13]) ?_
      refine h_take (i := 9) (agv (rgl v3 ring.zR)) rfl (by kernel_rfl) (by kernel_rfl) (by kernel_rfl) (fun _ _ _ h => h) rfl hS2.less (fun W hW => by simp [execOp, go_sem, Act.put, hsz, s1, s4, s12, s13]) ?_
      refine h_take (i := 10) (.int .i64 11) rfl (by kernel_rfl) (by kernel_rfl) (by kernel_rfl) (fun _ _ _ h => h) rfl hS2.less (fun W hW => by simp [execOp, go_sem, Act.put, hsz, s1, s4, s12, s13]) ?_
      refine h_allocv (i := 11) rfl (by kernel_rfl) rfl rfl zer_ring (fun u8 xe hN => ?_)
      have hS3 := hS2.new hN (by decide)
      clear hN
      refine ⟨hS3.tail.less, ?_⟩
      clear hS0 hS1 hS2 hM
      refine h_fillv (i := 12) rfl (by kernel_rfl) rfl rfl row_ring (by simp [go_sem, Act.put, hsz]) (by simp [go_sem, Act.put, hsz]) hS3.at0 H4.out HZR.out (fun u9 hl9 hc9 => ?_)
      have hS4 := hS3.put0 hc9 hl9
      clear hl9 hc9
      refine ⟨hS4.tail.less, ?_⟩
      refine h_take (i := 13) (.int .i64 11) rfl (by kernel_rfl) (by kernel_rfl) (by kernel_rfl) (fun _ _ _ h => h) rfl hS4.tail.less (fun W hW => by simp [execOp, go_sem, Act.put, hsz, s1, s4, s12, s13]) ?_
      refine wpAnyH_done (by kernel_rfl) ?_ _
      subst ha0
      clear hsz s1 s4 s12 s13
      rw [← hLL, ← hRR] at hS4
      have hM := hS4
      clear hS4
      go_simp
      repeat' (first | (go_big_may; first | (refine v_load rfl rfl row_mach rfl hM.at5 HL0.out HA0.out ?_) | (refine v_fill rfl rfl row_mach rfl rfl hM.at4 HV.out HZ.out ?_; intro u hv hc; replace hM := hM.put4 hc hv; clear hv hc)) | go_values | go_skip | go_guarded | go_step | go_upon | (simp only [Int.not_lt, Int.not_le] at *; go_simp))
      exact bodyPost_ret (slots.ret_2 Try.results41 rfl (ld_var row_mach hM.at4 HV.out.len) rfl) rfl ⟨rfl, hM.below⟩
    · refine o_allocv (i := 11) rfl rfl rfl zer_ring (fun u8 xe hN => ?_)
      have hS2 := hS1.new hN (by decide)
      clear hN
      refine ⟨hS2.tail, ?_⟩
      refine h_call (i := 7) 37 #[agv (rgl ve m.e), .int .u64 W] rfl (by kernel_rfl) rfl (by simp [execOp, go_sem, Act.put, hsz, s1, s4, s12, s13]) ((HP.out _ hS2.below).mono ?_)
      rintro e u7 ⟨v3, rfl, ht⟩
      have H4 : Hid (Vs (rgl v3 ring.zR) 6) := rgl_vs (rcs_one ht.1.rcs)
      have hS3 := hS2.tel ht.1 ht.2
      refine ⟨_, rfl, hS3.tail.less, ?_⟩
      clear ht
      refine h_take (i := 8) (.tuple #[agv (rgl v3 ring.zR), .int .i64 11]) rfl (by kernel_rfl) (by kernel_rfl) (by kernel_rfl) (fun _ _ _ h => h) rfl hS3.tail.less (fun W hW => by simp [execOp, go_sem, Act.put, hsz, s1, s4, s12, s13]) ?_
      refine h_take (i := 9) (agv (rgl v3 ring.zR)) rfl (by kernel_rfl) (by kernel_rfl) (by kernel_rfl) (fun _ _ _ h => h) rfl hS3.tail.less (fun W hW => by simp [execOp, go_sem, Act.put, hsz, s1, s4, s12, s13]) ?_
      refine h_take (i := 10) (.int .i64 11) rfl (by kernel_rfl) (by kernel_rfl) (by kernel_rfl) (fun _ _ _ h => h) rfl hS3.tail.less (fun W hW => by simp [execOp, go_sem, Act.put, hsz, s1, s4, s12, s13]) ?_
      clear hS0 hS1 hS2 hM
      refine h_fillv (i := 12) rfl (by kernel_rfl) rfl rfl row_ring (by simp [go_sem, Act.put, hsz]) (by simp [go_sem, Act.put, hsz]) hS3.at0 H4.out HZR.out (fun u9 hl9 hc9 => ?_)
      have hS4 := hS3.put0 hc9 hl9
      clear hl9 hc9
      refine ⟨hS4.tail.less, ?_⟩
      refine h_take (i := 13) (.int .i64 11) rfl (by kernel_rfl) (by kernel_rfl) (by kernel_rfl) (fun _ _ _ h => h) rfl hS4.tail.less (fun W hW => by simp [execOp, go_sem, Act.put, hsz, s1, s4, s12, s13]) ?_
      refine wpAnyH_done (by kernel_rfl) ?_ _
      subst ha0
      clear hsz s1 s4 s12 s13
      rw [← hLL, ← hRR] at hS4
      have hM := hS4
      clear hS4
      go_simp
      repeat' (first | (go_big_may; first | (refine v_load rfl rfl row_mach rfl hM.at5 HL0.out HA0.out ?_) | (refine v_fill rfl rfl row_mach rfl rfl hM.at4 HV.out HZ.out ?_; intro u hv hc; replace hM := hM.put4 hc hv; clear hv hc)) | go_values | go_skip | go_guarded | go_step | go_upon | (simp only [Int.not_lt, Int.not_le] at *; go_simp))
      exact bodyPost_ret (slots.ret_2 Try.results41 rfl (ld_var row_mach hM.at4 HV.out.len) rfl) rfl ⟨rfl, hM.below⟩
  · refine o_allocv (i := 11) rfl rfl rfl zer_ring (fun u8 xe hN => ?_)
    have hS1 := hS0.new hN (by decide)
    clear hN
    refine ⟨hS1.tail, ?_⟩
    refine h_call (i := 6) 67 #[agv EV] rfl (by kernel_rfl) rfl (by simp [execOp, go_sem, Act.put, hsz, s1, s4, s12, s13]) ((HPE.out _).mono ?_)
    rintro e u6 ⟨rfl, hb⟩
    have hS2 := hS1.call hb
    refine ⟨_, rfl, hS2.tail, ?_⟩
    refine h_call (i := 7) 37 #[agv (rgl ve m.e), .int .u64 W] rfl (by kernel_rfl) rfl (by simp [execOp, go_sem, Act.put, hsz, s1, s4, s12, s13]) ((HP.out _ hS2.below).mono ?_)
    rintro e u7 ⟨v3, rfl, ht⟩
    have H4 : Hid (Vs (rgl v3 ring.zR) 6) := rgl_vs (rcs_one ht.1.rcs)
    have hS3 := hS2.tel ht.1 ht.2
    refine ⟨_, rfl, hS3.tail.less, ?_⟩
    clear ht
    refine h_take (i := 8) (.tuple #[agv (rgl v3 ring.zR), .int .i64 11]) rfl (by kernel_rfl) (by kernel_rfl) (by kernel_rfl) (fun _ _ _ h => h) rfl hS3.tail.less (fun W hW => by simp [execOp, go_sem, Act.put, hsz, s1, s4, s12, s13]) ?_
    refine h_take (i := 9) (agv (rgl v3 ring.zR)) rfl (by kernel_rfl) (by kernel_rfl) (by kernel_rfl) (fun _ _ _ h => h) rfl hS3.tail.less (fun W hW => by simp [execOp, go_sem, Act.put, hsz, s1, s4, s12, s13]) ?_
    refine h_take (i := 10) (.int .i64 11) rfl (by kernel_rfl) (by kernel_rfl) (by kernel_rfl) (fun _ _ _ h => h) rfl hS3.tail.less (fun W hW => by simp [execOp, go_sem, Act.put, hsz, s1, s4, s12, s13]) ?_
    clear hS0 hS1 hS2 hM
    refine h_fillv (i := 12) rfl (by kernel_rfl) rfl rfl row_ring (by simp [go_sem, Act.put, hsz]) (by simp [go_sem, Act.put, hsz]) hS3.at0 H4.out HZR.out (fun u9 hl9 hc9 => ?_)
    have hS4 := hS3.put0 hc9 hl9
    clear hl9 hc9
    refine ⟨hS4.tail.less, ?_⟩
    refine h_take (i := 13) (.int .i64 11) rfl (by kernel_rfl) (by kernel_rfl) (by kernel_rfl) (fun _ _ _ h => h) rfl hS4.tail.less (fun W hW => by simp [execOp, go_sem, Act.put, hsz, s1, s4, s12, s13]) ?_
    refine wpAnyH_done (by kernel_rfl) ?_ _
    subst ha0
    clear hsz s1 s4 s12 s13
    rw [← hLL, ← hRR] at hS4
    have hM := hS4
    clear hS4
    go_simp
    repeat' (first | (go_big_may; first | (refine v_load rfl rfl row_mach rfl hM.at5 HL0.out HA0.out ?_) | (refine v_fill rfl rfl row_mach rfl rfl hM.at4 HV.out HZ.out ?_; intro u hv hc; replace hM := hM.put4 hc hv; clear hv hc)) | go_values | go_skip | go_guarded | go_step | go_upon | (simp only [Int.not_lt, Int.not_le] at *; go_simp))
    exact bodyPost_ret (slots.ret_2 Try.results41 rfl (ld_var row_mach hM.at4 HV.out.len) rfl) rfl ⟨rfl, hM.below⟩
set_option maxHeartbeats 8000000 in
theorem workOnce_yes (vc ve : Value) (m : Mc) (w : World) (hi : In w vc ve m) (hr : rtB m = true) (hg : ring.getB m.c = true) (hp : ring.putB m.e = true) :
    Calls Try.prog 41 #[agv (mvl vc ve m)] w fun e w' => ∃ vc' ve', e = .returned (.tuple #[agv (mvl vc' ve' (stV m)), .bool true]) ∧ Tl w vc' ve' (stV m) w' := by
  have ho := hi.wo hr
  have hM : Mv w w [] [(false, vc, m.c.C), (false, ve, m.e.C)] := ((Mv.nil w).old hi.e).old hi.c
  have HG : Hid (∀ u, Below w.heap.size w u → Calls Try.prog 44 #[agv (rgl vc m.c)] u fun e w' => ∃ v', e = .returned (.tuple #[agv (rgl v' (ring.onG m.c)), .int .u64 (ring.atG m.c).1, .bool true, .int .i64 0]) ∧ ring.Tel u v' (ring.onG m.c) w') := fun u hu => by
    have := ho.hg u hu
    unfold ring.getV ring.getW at this
    rw [hg, if_pos rfl, if_pos rfl] at this
    exact this
  have HP : Hid (∀ u, Below w.heap.size w u → Calls Try.prog 37 #[agv (rgl ve m.e), .int .u64 (evW (nev m))] u fun e w' => ∃ v', e = .returned (.tuple #[agv (rgl v' (ring.putV m.e (evW (nev m)))), .int .i64 0]) ∧ ring.Tel u v' (ring.putV m.e (evW (nev m))) w') := fun u hu => by
    have := ho.hp u hu
    rw [hp] at this
    exact this
  have HUP : Hid (∀ u, Calls Try.prog 11 #[.int .u64 (ring.atG m.c).1] u fun e w' => e = .returned (.tuple #[cmV (upK (ring.atG m.c).1), .int .i64 0]) ∧ Below u.heap.size u w') := ho.hu
  have HD : Hid (∀ u, Calls Try.prog 30 #[agv (ivs (fl m.B)), cmV (upK (ring.atG m.c).1)] u fun r w' => r = .returned (.tuple #[agv (ivs (fl (dn m).B)), .int .i64 (dn m).c, .int .i64 (dn m).n]) ∧ Below u.heap.size u w') := ho.hd
  have HPE : Hid (∀ u, Calls Try.prog 67 #[agv (ivs [(dn m).c, (dn m).n, m.c.ga])] u fun e w' => e = .returned (.int .u64 (evW (nev m))) ∧ Below u.heap.size u w') := ho.he
  have HV : Hid (Vs (mvl vc ve m) 606) := hi.vs
  have HL0 : Hid (0 + 606 ≤ (mvl vc ve m).length) := by show _ ≤ _; rw [hi.vs.len]; exact Nat.le_refl _
  have HA0 : Hid (cv (mvl vc ve m) 0 606 = mvl vc ve m) := cv_all hi.vs.len
  have HL6 : Hid (0 + 6 ≤ (mvl vc ve m).length) := by show _ ≤ _; rw [hi.vs.len]; omega
  have HA6 : Hid (cv (mvl vc ve m) 0 6 = rgl vc m.c) := cv_c _ _ _
  have HL7 : Hid (6 + 6 ≤ (mvl vc ve m).length) := by show _ ≤ _; rw [hi.vs.len]; omega
  have HA7 : Hid (cv (mvl vc ve m) 6 6 = rgl ve m.e) := cv_e _ _ _
  have HL8 : Hid (12 + 594 ≤ (mvl vc ve m).length) := by show _ ≤ _; rw [hi.vs.len]; exact Nat.le_refl _
  have HA8 : Hid (cv (mvl vc ve m) 12 594 = ivs (fl m.B)) := cv_b _ _ hi.B
  have Q3 : Hid ((mvl vc ve m)[3]? = some (.int .i64 m.c.ga)) := rfl
  have HZ : Hid (zl.length = 606) := zl_vs.len
  have HZR : Hid ((rgl nilS ring.zR).length = 6) := rfl
  have HZC : Hid ((ivs [0, 0, 0, 0]).length = 4) := rfl
  have HZB : Hid ((ivs (fl slots.zB)).length = 594) := (ivs_vs slots.zB_wf.length).len
  have HX : Hid (Vs (ivs [(upK (ring.atG m.c).1).1, (upK (ring.atG m.c).1).2.1, (upK (ring.atG m.c).1).2.2.1, (upK (ring.atG m.c).1).2.2.2]) 4) := ivs_vs rfl
  have HDB : Hid (Vs (ivs (fl (dn m).B)) 594) := ivs_vs ho.wd.length
  have HWD : Hid (Wf (dn m).B) := ho.wd
  have HST : Hid (∀ x y, mvl x y (stV m) = rgl x (ring.onG m.c) ++ (rgl y (ring.putV m.e (evW (nev m))) ++ ivs (fl (dn m).B))) := fun _ _ => rfl
  have HSC : Hid ((stV m).c.C = (ring.onG m.c).C ∧ (stV m).e.C = (ring.putV m.e (evW (nev m))).C) := ⟨rfl, rfl⟩
  have HSV : Hid (∀ (u1 u2 : World) x y, Rcs u1 x (ring.onG m.c).C → Rcs u2 y (ring.putV m.e (evW (nev m))).C → Vs (mvl x y (stV m)) 606) := fun u1 u2 x y h1 h2 => mvl_vs (rcs_one h1) (rcs_one h2) ho.wd
  have hbe := bld_e3 (dn m).c (dn m).n m.c.ga
  unfold cmV at HUP HD
  clear hi hr hg ho hp
  generalize evW (nev m) = W at *
  generalize (ring.atG m.c).1 = cw at *
  generalize upK cw = y at *
  obtain ⟨y1, y2, y3, y4⟩ := y
  simp only at HUP HD HX
  generalize ring.putV m.e W = R at *
  generalize hsv : stV m = sv at *
  clear hsv
  generalize (dn m).c = dc at *
  generalize dnn : (dn m).n = dq at *
  generalize (dn m).B = dB at *
  clear dnn
  obtain ⟨EV, hEV⟩ : ∃ EV, ivs [dc, dq, m.c.ga] = EV := ⟨_, rfl⟩
  rw [hEV] at HPE hbe
  clear hEV
  generalize m.c.ga = ga at *
  generalize ring.onG m.c = G at *
  generalize mvl vc ve m = V at *
  have HLX : Hid (0 + 4 ≤ (ivs [y1, y2, y3, y4]).length) := Nat.le_refl _
  have HAX : Hid (cv (ivs [y1, y2, y3, y4]) 0 4 = ivs [y1, y2, y3, y4]) := rfl
  generalize ivs [y1, y2, y3, y4] = X at *
  generalize hDF : ivs (fl dB) = DF at *
  have HDL : Hid (0 + 594 ≤ DF.length) := by show _ ≤ _; rw [HDB.out.len]; exact Nat.le_refl _
  have HDA : Hid (cv DF 0 594 = DF) := cv_all HDB.out.len
  generalize ivs (fl m.B) = MB at *
  clear hDF
  go_enter Try.func41, Try.ntmps41
  repeat' (first | (go_big_may; first | (refine v_box rfl rfl rfl ?_; intro u xm hN; replace hM := hM.new hN (by decide); clear hN) | (refine v_alloc rfl zer_mach rfl ?_; intro u xr hN; replace hM := hM.new hN (by decide); clear hN) | (refine v_get rfl rfl (.inl rfl) rfl hM.at1 Q3.out ?_) | (refine v_load rfl rfl row_ring rfl hM.at1 HL6.out HA6.out ?_)) | go_values | go_skip | go_guarded | go_step | go_upon | (simp only [Int.not_lt, Int.not_le] at *; go_simp))
  refine (HG.out _ hM.below).mono ?_
  rintro r u1 ⟨v1, rfl, ht⟩
  replace hM := hM.tel ht.1 ht.2
  have H3 : Hid (Vs (rgl v1 G) 6) := rgl_vs (rcs_one ht.1.rcs)
  have HL9 : Hid (0 + 6 ≤ (rgl v1 G).length) := Nat.le_refl _
  have HA9 : Hid (cv (rgl v1 G) 0 6 = rgl v1 G) := rfl
  clear ht
  repeat' (first | (go_big_may; first | (refine v_alloc rfl zer_ring rfl ?_; intro u xg hN; replace hM := hM.new hN (by decide); clear hN) | (refine v_fill rfl rfl row_ring rfl rfl hM.at0 H3.out HZR.out ?_; intro u hv hc; replace hM := hM.put0 hc hv; clear hv hc)) | go_values | go_skip | go_guarded | go_step | go_upon | (simp only [Int.not_lt, Int.not_le] at *; go_simp))
  refine (HUP.out _).mono ?_
  rintro r u2 ⟨rfl, hv⟩
  replace hM := hM.call hv
  clear hv
  repeat' (first | (go_big_may; first | (refine v_alloc rfl zer_cmd rfl ?_; intro u xc hN; replace hM := hM.new hN (by decide); clear hN) | (refine v_fill rfl rfl row_cmd rfl rfl hM.at0 HX.out HZC.out ?_; intro u hv hc; replace hM := hM.put0 hc hv; clear hv hc) | (refine v_load rfl rfl row_board rfl hM.at3 HL8.out HA8.out ?_) | (refine v_load rfl rfl row_cmd rfl hM.at0 HLX.out HAX.out ?_)) | go_values | go_skip | go_guarded | go_step | go_upon | (simp only [Int.not_lt, Int.not_le] at *; go_simp))
  refine (HD.out _).mono ?_
  rintro r u3 ⟨rfl, hv⟩
  replace hM := hM.call hv
  clear hv
  repeat' (first | (go_big_may; first | (refine v_alloc rfl zer_board rfl ?_; intro u xb hN; replace hM := hM.new hN (by decide); clear hN) | (refine v_fill rfl rfl row_board rfl rfl hM.at0 HDB.out HZB.out ?_; intro u hv hc; replace hM := hM.put0 hc hv; clear hv hc)) | go_values | go_skip | go_guarded | go_step | go_upon | (simp only [Int.not_lt, Int.not_le] at *; go_simp))
  go_simp
  rename World => u5
  refine wp_abs (fun a0 => a0.tmps.size = 62 ∧ (∀ h, a0.tmps[1]'h = .pointer (some ⟨xm, 0, none⟩)) ∧ (∀ h, a0.tmps[4]'h = .int .i64 ga) ∧ (∀ h, a0.tmps[12]'h = .int .i64 dc) ∧ (∀ h, a0.tmps[13]'h = .int .i64 dq)) ⟨rfl, fun _ => rfl, fun _ => rfl, fun _ => rfl, fun _ => rfl⟩ ?_
  rintro a0 ⟨hsz, s1, s4, s12, s13⟩ ha0
  obtain ⟨LL, hLL⟩ : ∃ LL : List Bk, [(xb, 41, DF), (xc, 23, X), (xg, 35, rgl v1 G), (xr, 43, zl), (xm, 43, V)] = LL := ⟨_, rfl⟩
  obtain ⟨RR, hRR⟩ : ∃ RR : List (Bool × Value × List Ce), [(true, v1, G.C), (false, vc, m.c.C), (false, ve, m.e.C)] = RR := ⟨_, rfl⟩
  rw [hLL, hRR] at hM
  refine wp_region_held (S := fun W => Mv w W LL RR) (by kernel_rfl) ?_
  have hS0 : Mv w u5.drew LL RR := hM.drew
  refine h_take (i := 0) (.pointer (some ⟨xm, 6, none⟩)) rfl (by kernel_rfl) (by kernel_rfl) (by kernel_rfl) (fun _ _ _ h => h) rfl hS0 (fun W hW => by simp [execOp, go_sem, Act.put, hsz, s1, s4, s12, s13]) ?_
  refine h_take (i := 1) (agv (rgl ve m.e)) rfl (by kernel_rfl) (by kernel_rfl) (by kernel_rfl) (fun _ _ _ h => h) rfl hS0 (fun W hW => by
    rw [← hLL] at hW
    exact ex_loadv rfl row_ring (by simp [go_sem, Act.put, hsz]) hW.at4 HL7.out HA7.out) ?_
  refine h_take (i := 2) (.int .i64 dc) rfl (by kernel_rfl) (by kernel_rfl) (by kernel_rfl) (fun _ _ _ h => h) rfl hS0 (fun W hW => by simp [execOp, go_sem, Act.put, hsz, s1, s4, s12, s13]) ?_
  refine h_take (i := 3) (.int .i64 dq) rfl (by kernel_rfl) (by kernel_rfl) (by kernel_rfl) (fun _ _ _ h => h) rfl hS0 (fun W hW => by simp [execOp, go_sem, Act.put, hsz, s1, s4, s12, s13]) ?_
  refine h_take (i := 4) (.int .i64 ga) rfl (by kernel_rfl) (by kernel_rfl) (by kernel_rfl) (fun _ _ _ h => h) rfl hS0 (fun W hW => by simp [execOp, go_sem, Act.put, hsz, s1, s4, s12, s13]) ?_
  refine h_take (i := 5) (agv EV) rfl (by kernel_rfl) (by kernel_rfl) (by kernel_rfl) (fun _ _ _ h => h) rfl hS0 (fun W hW => ex_buildv rfl hbe (by simp [go_sem, Act.put, hsz, Act.eval])) ?_
  refine ring.h_two 6 11 (by kernel_rfl) ?_ ?_
  · refine ring.o_call (i := 6) 67 #[agv EV] rfl rfl (by simp [execOp, go_sem, Act.put, hsz, s1, s4, s12, s13]) ((HPE.out _).mono ?_)
    rintro e u6 ⟨rfl, hb⟩
    have hS1 : Mv w u6 LL RR := hS0.call hb
    refine ⟨_, rfl, hS1, ?_⟩
    refine ring.h_two 7 11 (by kernel_rfl) ?_ ?_
    · refine ring.o_call (i := 7) 37 #[agv (rgl ve m.e), .int .u64 W] rfl rfl (by simp [execOp, go_sem, Act.put, hsz, s1, s4, s12, s13]) ((HP.out _ hS1.below).mono ?_)
      rintro e u7 ⟨v3, rfl, ht⟩
      have H4 : Hid (Vs (rgl v3 R) 6) := rgl_vs (rcs_one ht.1.rcs)
      have hS2 := hS1.tel ht.1 ht.2
      refine ⟨_, rfl, hS2.less, ?_⟩
      clear ht
      refine h_take (i := 8) (.tuple #[agv (rgl v3 R), .int .i64 0]) rfl (by kernel_rfl) (by kernel_rfl) (by kernel_rfl) (fun _ _ _ h => h) rfl hS2.less (fun W hW => by simp [execOp, go_sem, Act.put, hsz, s1, s4, s12, s13]) ?_
      refine h_take (i := 9) (agv (rgl v3 R)) rfl (by kernel_rfl) (by kernel_rfl) (by kernel_rfl) (fun _ _ _ h => h) rfl hS2.less (fun W hW => by simp [execOp, go_sem, Act.put, hsz, s1, s4, s12, s13]) ?_
      refine h_take (i := 10) (.int .i64 0) rfl (by kernel_rfl) (by kernel_rfl) (by kernel_rfl) (fun _ _ _ h => h) rfl hS2.less (fun W hW => by simp [execOp, go_sem, Act.put, hsz, s1, s4, s12, s13]) ?_
      refine h_allocv (i := 11) rfl (by kernel_rfl) rfl rfl zer_ring (fun u8 xe hN => ?_)
      have hS3 := hS2.new hN (by decide)
      clear hN
      refine ⟨hS3.tail.less, ?_⟩
      clear hS0 hS1 hS2 hM
      refine h_fillv (i := 12) rfl (by kernel_rfl) rfl rfl row_ring (by simp [go_sem, Act.put, hsz]) (by simp [go_sem, Act.put, hsz]) hS3.at0 H4.out HZR.out (fun u9 hl9 hc9 => ?_)
      have hS4 := hS3.put0 hc9 hl9
      clear hl9 hc9
      refine ⟨hS4.tail.less, ?_⟩
      refine h_take (i := 13) (.int .i64 0) rfl (by kernel_rfl) (by kernel_rfl) (by kernel_rfl) (fun _ _ _ h => h) rfl hS4.tail.less (fun W hW => by simp [execOp, go_sem, Act.put, hsz, s1, s4, s12, s13]) ?_
      refine wpAnyH_done (by kernel_rfl) ?_ _
      subst ha0
      clear hsz s1 s4 s12 s13
      rw [← hLL, ← hRR] at hS4
      have hM := hS4
      clear hS4
      go_simp
      have HL4 : Hid (0 + 6 ≤ (rgl v3 R).length) := Nat.le_refl _
      have HA4 : Hid (cv (rgl v3 R) 0 6 = rgl v3 R) := rfl
      have H5 : Hid (Vs (mvl v1 v3 sv) 606) := HSV.out _ _ _ _ (hM.read (b := true) (by simp)) (hM.read (b := true) (by simp))
      have hbm : ∀ w, (Instr.build 43 #[(0, agv (rgl v1 G)), (1, agv (rgl v3 R)), (2, agv DF)]).run Try.prog w = .ok (agv (mvl v1 v3 sv)) w := fun w => by
        rw [HST.out]
        exact bld_m H3.out H4.out HDB.out w
      clear HST
      generalize hSV : mvl v1 v3 sv = SV at *
      have HSQ : Hid (mvl v1 v3 sv = SV) := hSV
      clear hSV
      repeat' (first | (go_big_may; first | (refine v_load rfl rfl row_ring rfl hM.at3 HL9.out HA9.out ?_) | (refine v_load rfl rfl row_ring rfl hM.at0 HL4.out HA4.out ?_) | (refine v_load rfl rfl row_board rfl hM.at1 HDL.out HDA.out ?_) | (refine v_build rfl rfl hbm (by simp [Act.eval, Act.put]) ?_) | (refine v_fill rfl rfl row_mach rfl rfl hM.at4 H5.out HZ.out ?_; intro u hv hc; replace hM := hM.put4 hc hv; clear hv hc)) | go_values | go_skip | go_guarded | go_step | go_upon | (simp only [Int.not_lt, Int.not_le] at *; go_simp))
      refine bodyPost_ret (slots.ret_2 Try.results41 rfl (ld_var row_mach hM.at4 H5.out.len) rfl) rfl ⟨v1, v3, by show _ = Ending.returned (.tuple #[agv (mvl v1 v3 sv), .bool true]); rw [HSQ.out]; rfl, ?_, ?_, hM.below⟩
      · rw [HSC.out.1]; exact hM.mine (by simp)
      · rw [HSC.out.2]; exact hM.mine (by simp)
    · refine o_allocv (i := 11) rfl rfl rfl zer_ring (fun u8 xe hN => ?_)
      have hS2 := hS1.new hN (by decide)
      clear hN
      refine ⟨hS2.tail, ?_⟩
      refine h_call (i := 7) 37 #[agv (rgl ve m.e), .int .u64 W] rfl (by kernel_rfl) rfl (by simp [execOp, go_sem, Act.put, hsz, s1, s4, s12, s13]) ((HP.out _ hS2.below).mono ?_)
      rintro e u7 ⟨v3, rfl, ht⟩
      have H4 : Hid (Vs (rgl v3 R) 6) := rgl_vs (rcs_one ht.1.rcs)
      have hS3 := hS2.tel ht.1 ht.2
      refine ⟨_, rfl, hS3.tail.less, ?_⟩
      clear ht
      refine h_take (i := 8) (.tuple #[agv (rgl v3 R), .int .i64 0]) rfl (by kernel_rfl) (by kernel_rfl) (by kernel_rfl) (fun _ _ _ h => h) rfl hS3.tail.less (fun W hW => by simp [execOp, go_sem, Act.put, hsz, s1, s4, s12, s13]) ?_
      refine h_take (i := 9) (agv (rgl v3 R)) rfl (by kernel_rfl) (by kernel_rfl) (by kernel_rfl) (fun _ _ _ h => h) rfl hS3.tail.less (fun W hW => by simp [execOp, go_sem, Act.put, hsz, s1, s4, s12, s13]) ?_
      refine h_take (i := 10) (.int .i64 0) rfl (by kernel_rfl) (by kernel_rfl) (by kernel_rfl) (fun _ _ _ h => h) rfl hS3.tail.less (fun W hW => by simp [execOp, go_sem, Act.put, hsz, s1, s4, s12, s13]) ?_
      clear hS0 hS1 hS2 hM
      refine h_fillv (i := 12) rfl (by kernel_rfl) rfl rfl row_ring (by simp [go_sem, Act.put, hsz]) (by simp [go_sem, Act.put, hsz]) hS3.at0 H4.out HZR.out (fun u9 hl9 hc9 => ?_)
      have hS4 := hS3.put0 hc9 hl9
      clear hl9 hc9
      refine ⟨hS4.tail.less, ?_⟩
      refine h_take (i := 13) (.int .i64 0) rfl (by kernel_rfl) (by kernel_rfl) (by kernel_rfl) (fun _ _ _ h => h) rfl hS4.tail.less (fun W hW => by simp [execOp, go_sem, Act.put, hsz, s1, s4, s12, s13]) ?_
      refine wpAnyH_done (by kernel_rfl) ?_ _
      subst ha0
      clear hsz s1 s4 s12 s13
      rw [← hLL, ← hRR] at hS4
      have hM := hS4
      clear hS4
      go_simp
      have HL4 : Hid (0 + 6 ≤ (rgl v3 R).length) := Nat.le_refl _
      have HA4 : Hid (cv (rgl v3 R) 0 6 = rgl v3 R) := rfl
      have H5 : Hid (Vs (mvl v1 v3 sv) 606) := HSV.out _ _ _ _ (hM.read (b := true) (by simp)) (hM.read (b := true) (by simp))
      have hbm : ∀ w, (Instr.build 43 #[(0, agv (rgl v1 G)), (1, agv (rgl v3 R)), (2, agv DF)]).run Try.prog w = .ok (agv (mvl v1 v3 sv)) w := fun w => by
        rw [HST.out]
        exact bld_m H3.out H4.out HDB.out w
      clear HST
      generalize hSV : mvl v1 v3 sv = SV at *
      have HSQ : Hid (mvl v1 v3 sv = SV) := hSV
      clear hSV
      repeat' (first | (go_big_may; first | (refine v_load rfl rfl row_ring rfl hM.at3 HL9.out HA9.out ?_) | (refine v_load rfl rfl row_ring rfl hM.at0 HL4.out HA4.out ?_) | (refine v_load rfl rfl row_board rfl hM.at1 HDL.out HDA.out ?_) | (refine v_build rfl rfl hbm (by simp [Act.eval, Act.put]) ?_) | (refine v_fill rfl rfl row_mach rfl rfl hM.at4 H5.out HZ.out ?_; intro u hv hc; replace hM := hM.put4 hc hv; clear hv hc)) | go_values | go_skip | go_guarded | go_step | go_upon | (simp only [Int.not_lt, Int.not_le] at *; go_simp))
      refine bodyPost_ret (slots.ret_2 Try.results41 rfl (ld_var row_mach hM.at4 H5.out.len) rfl) rfl ⟨v1, v3, by show _ = Ending.returned (.tuple #[agv (mvl v1 v3 sv), .bool true]); rw [HSQ.out]; rfl, ?_, ?_, hM.below⟩
      · rw [HSC.out.1]; exact hM.mine (by simp)
      · rw [HSC.out.2]; exact hM.mine (by simp)
  · refine o_allocv (i := 11) rfl rfl rfl zer_ring (fun u8 xe hN => ?_)
    have hS1 := hS0.new hN (by decide)
    clear hN
    refine ⟨hS1.tail, ?_⟩
    refine h_call (i := 6) 67 #[agv EV] rfl (by kernel_rfl) rfl (by simp [execOp, go_sem, Act.put, hsz, s1, s4, s12, s13]) ((HPE.out _).mono ?_)
    rintro e u6 ⟨rfl, hb⟩
    have hS2 := hS1.call hb
    refine ⟨_, rfl, hS2.tail, ?_⟩
    refine h_call (i := 7) 37 #[agv (rgl ve m.e), .int .u64 W] rfl (by kernel_rfl) rfl (by simp [execOp, go_sem, Act.put, hsz, s1, s4, s12, s13]) ((HP.out _ hS2.below).mono ?_)
    rintro e u7 ⟨v3, rfl, ht⟩
    have H4 : Hid (Vs (rgl v3 R) 6) := rgl_vs (rcs_one ht.1.rcs)
    have hS3 := hS2.tel ht.1 ht.2
    refine ⟨_, rfl, hS3.tail.less, ?_⟩
    clear ht
    refine h_take (i := 8) (.tuple #[agv (rgl v3 R), .int .i64 0]) rfl (by kernel_rfl) (by kernel_rfl) (by kernel_rfl) (fun _ _ _ h => h) rfl hS3.tail.less (fun W hW => by simp [execOp, go_sem, Act.put, hsz, s1, s4, s12, s13]) ?_
    refine h_take (i := 9) (agv (rgl v3 R)) rfl (by kernel_rfl) (by kernel_rfl) (by kernel_rfl) (fun _ _ _ h => h) rfl hS3.tail.less (fun W hW => by simp [execOp, go_sem, Act.put, hsz, s1, s4, s12, s13]) ?_
    refine h_take (i := 10) (.int .i64 0) rfl (by kernel_rfl) (by kernel_rfl) (by kernel_rfl) (fun _ _ _ h => h) rfl hS3.tail.less (fun W hW => by simp [execOp, go_sem, Act.put, hsz, s1, s4, s12, s13]) ?_
    clear hS0 hS1 hS2 hM
    refine h_fillv (i := 12) rfl (by kernel_rfl) rfl rfl row_ring (by simp [go_sem, Act.put, hsz]) (by simp [go_sem, Act.put, hsz]) hS3.at0 H4.out HZR.out (fun u9 hl9 hc9 => ?_)
    have hS4 := hS3.put0 hc9 hl9
    clear hl9 hc9
    refine ⟨hS4.tail.less, ?_⟩
    refine h_take (i := 13) (.int .i64 0) rfl (by kernel_rfl) (by kernel_rfl) (by kernel_rfl) (fun _ _ _ h => h) rfl hS4.tail.less (fun W hW => by simp [execOp, go_sem, Act.put, hsz, s1, s4, s12, s13]) ?_
    refine wpAnyH_done (by kernel_rfl) ?_ _
    subst ha0
    clear hsz s1 s4 s12 s13
    rw [← hLL, ← hRR] at hS4
    have hM := hS4
    clear hS4
    go_simp
    have HL4 : Hid (0 + 6 ≤ (rgl v3 R).length) := Nat.le_refl _
    have HA4 : Hid (cv (rgl v3 R) 0 6 = rgl v3 R) := rfl
    have H5 : Hid (Vs (mvl v1 v3 sv) 606) := HSV.out _ _ _ _ (hM.read (b := true) (by simp)) (hM.read (b := true) (by simp))
    have hbm : ∀ w, (Instr.build 43 #[(0, agv (rgl v1 G)), (1, agv (rgl v3 R)), (2, agv DF)]).run Try.prog w = .ok (agv (mvl v1 v3 sv)) w := fun w => by
      rw [HST.out]
      exact bld_m H3.out H4.out HDB.out w
    clear HST
    generalize hSV : mvl v1 v3 sv = SV at *
    have HSQ : Hid (mvl v1 v3 sv = SV) := hSV
    clear hSV
    repeat' (first | (go_big_may; first | (refine v_load rfl rfl row_ring rfl hM.at3 HL9.out HA9.out ?_) | (refine v_load rfl rfl row_ring rfl hM.at0 HL4.out HA4.out ?_) | (refine v_load rfl rfl row_board rfl hM.at1 HDL.out HDA.out ?_) | (refine v_build rfl rfl hbm (by simp [Act.eval, Act.put]) ?_) | (refine v_fill rfl rfl row_mach rfl rfl hM.at4 H5.out HZ.out ?_; intro u hv hc; replace hM := hM.put4 hc hv; clear hv hc)) | go_values | go_skip | go_guarded | go_step | go_upon | (simp only [Int.not_lt, Int.not_le] at *; go_simp))
    refine bodyPost_ret (slots.ret_2 Try.results41 rfl (ld_var row_mach hM.at4 H5.out.len) rfl) rfl ⟨v1, v3, by show _ = Ending.returned (.tuple #[agv (mvl v1 v3 sv), .bool true]); rw [HSQ.out]; rfl, ?_, ?_, hM.below⟩
    · rw [HSC.out.1]; exact hM.mine (by simp)
    · rw [HSC.out.2]; exact hM.mine (by simp)
end Go.Proofs.Ythjmcopknkemnaa.host
