/- host: what ring.Next and Reap answer. -/
import Derived.Test.YthjmcopknkemnaaHstG
namespace Go.Proofs.Ythjmcopknkemnaa.host
open Go Go.RowKit
open Go.Proofs.Ythjmcopknkemnaa
open Go.Proofs.Ythjmcopknkemnaa.slots (Row row_board row_cmd Chg ag fl Wf bsq)
open Go.Proofs.Ythjmcopknkemnaa.ring (Ces Rcs rgV rgW Rg Ce ceV named keep wp_abs h_take h_call h_value h_skip)
set_option linter.unusedVariables false
set_option linter.unusedSimpArgs false
set_option maxRecDepth 100000

/-- a number is written -/
theorem v_puti {ops : Array Oper} {rest : List Oper} {o : Oper} {a : Act} {w : World} {Q : Exit → Act → World → Prop} (hgd : Region.wanted o (yielded ops a.tmps) = true) {x y : Operand} (ho : o.op = .store 3 x y)
    {B j : Nat} {T : TypeId} {l : List Value} {v : Int} (hx : a.eval x = .pointer (some ⟨B, j, none⟩)) (hy : a.eval y = .int .i64 v) (hB : w.heap[B]? = some (bv T l)) (hle : j < l.length)
    (h : ∀ u, u.heap[B]? = some (bv T (l.set j (.int .i64 v))) → Chg B w u → wpList Try.prog ops Q rest (a.put o.dst undef) u) : wpList Try.prog ops Q (o :: rest) a w :=
  v_put hgd ho (.inl rfl) hx hy (.inl ⟨v, rfl⟩) hB hle h
theorem row_mark : Row 33 2 := ⟨⟨_, Try.underlying33, rfl, by kernel_rfl⟩⟩
theorem bld_k1 (x : Int) (w : World) : (Instr.build 33 #[(0, .int .i64 x)]).run Try.prog w = .ok (ring.mkV x 0) w := by kernel_rfl
theorem fld_k (x y : Int) (w : World) : (Instr.field 33 (ring.mkV x y) 0).run Try.prog w = .ok (.int .i64 x) w := by kernel_rfl
def nxA (n : Nat) (x : Int) : Int := if ring.plB n x = true then (ring.on n x 0).1 else 0
set_option maxHeartbeats 4000000 in
theorem next_any (v : Value) (r : Rg) (x : Int) (w : World) (hv : Rcs w v r.C) (h3 : 3 ≤ r.C.length) (h64 : r.C.length ≤ 64) : Calls Try.prog 47 #[agv (rgl v r), .int .i64 x] w fun e w' => e = .returned (.tuple #[.int .i64 (nxA r.C.length x), .bool (ring.plB r.C.length x)]) ∧ Below w.heap.size w w' := by
  obtain ⟨ad, c, rfl, _⟩ := hv.form
  have HP : Hid (∀ u, Calls Try.prog 71 #[agv (rgl (.slice ad r.C.length c) r), .int .i64 x] u fun e w' => e = .returned (.bool (ring.plB r.C.length x)) ∧ Below u.heap.size u w') := fun u => ring.isPlace_any ad r.C.length c r.pa r.pb r.ga r.gb r.sn x u h3 h64
  have HO : Hid (ring.plB r.C.length x = true → ∀ u, Calls Try.prog 72 #[agv (rgl (.slice ad r.C.length c) r), ring.mkV x 0] u fun e w' => e = .returned (ring.mkV (ring.on r.C.length x 0).1 (ring.on r.C.length x 0).2) ∧ Below u.heap.size u w') := fun h u => ring.onward_any ad r.C.length c r.pa r.pb r.ga r.gb r.sn x 0 u h3 h64 (ring.pl_iff.1 h).1 (ring.pl_iff.1 h).2 (.inl rfl)
  have HL : Hid (0 + 6 ≤ (rgl (.slice ad r.C.length c) r).length) := Nat.le_refl _
  have HA : Hid (cv (rgl (.slice ad r.C.length c) r) 0 6 = rgl (.slice ad r.C.length c) r) := rfl
  have hM := Mv.nil w
  unfold nxA
  generalize rgl (.slice ad r.C.length c) r = V at *
  generalize (ring.on r.C.length x 0).1 = o1 at *
  generalize (ring.on r.C.length x 0).2 = o2 at *
  generalize ring.plB r.C.length x = b at *
  clear h3 h64 hv
  cases b
  · clear HO
    go_enter Try.func47, Try.ntmps47
    repeat' (first | (go_big_may; first | (refine v_box rfl rfl rfl ?_; intro u xm hN; replace hM := hM.new hN (by decide); clear hN) | (refine v_load rfl rfl row_ring rfl hM.at0 HL.out HA.out ?_)) | go_values | go_skip | go_guarded | go_step | go_upon | (simp only [Int.not_lt, Int.not_le] at *; go_simp))
    refine (HP.out _).mono ?_
    rintro r' u1 ⟨rfl, hv⟩
    replace hM := hM.call hv
    clear hv
    repeat' (first | go_values | go_skip | go_guarded | go_step | go_upon | (simp only [Int.not_lt, Int.not_le] at *; go_simp))
    go_ret2
    exact ⟨rfl, hM.below⟩
  · have HO2 : Hid (∀ u, Calls Try.prog 72 #[agv V, ring.mkV x 0] u fun e w' => e = .returned (ring.mkV o1 o2) ∧ Below u.heap.size u w') := HO.out rfl
    clear HO
    have hb := bld_k1 x
    have hf := fld_k o1 o2
    go_enter Try.func47, Try.ntmps47
    repeat' (first | (go_big_may; first | (refine v_box rfl rfl rfl ?_; intro u xm hN; replace hM := hM.new hN (by decide); clear hN) | (refine v_load rfl rfl row_ring rfl hM.at0 HL.out HA.out ?_)) | go_values | go_skip | go_guarded | go_step | go_upon | (simp only [Int.not_lt, Int.not_le] at *; go_simp))
    refine (HP.out _).mono ?_
    rintro r' u1 ⟨rfl, hv⟩
    replace hM := hM.call hv
    clear hv
    repeat' (first | (go_big_may; first | (refine v_load rfl rfl row_ring rfl hM.at0 HL.out HA.out ?_) | (refine v_build rfl rfl hb (by simp [Act.eval, Act.put]) ?_)) | go_values | go_skip | go_guarded | go_step | go_upon | (simp only [Int.not_lt, Int.not_le] at *; go_simp))
    refine (HO2.out _).mono ?_
    rintro r' u2 ⟨rfl, hv⟩
    replace hM := hM.call hv
    clear hv
    repeat' (first | go_values | go_skip | go_guarded | go_step | go_upon | (simp only [Int.not_lt, Int.not_le] at *; go_simp))
    go_ret2
    exact ⟨rfl, hM.below⟩
theorem ret_cct {fn : Func} {p q i : Tmp} {t s : TypeId} {tmps : Array Value} {w : World} {B C : Nat} {v v' v1 : Value} (h : fn.results = #[.cell p t, .cell q s, .tmp i]) (hp : tmps.getD p undef = .pointer (some ⟨B, 0, none⟩)) (hl : (loadVar t ⟨B, 0, none⟩).run Try.prog w = .ok v w)
    (hq : tmps.getD q undef = .pointer (some ⟨C, 0, none⟩)) (hl' : (loadVar s ⟨C, 0, none⟩).run Try.prog w = .ok v' w) (h1 : tmps.getD i undef = v1) : (results fn tmps).run Try.prog w = .ok (.tuple #[v, v', v1]) w := by
  have hp' : tmps[p]?.getD undef = .pointer (some ⟨B, 0, none⟩) := by simpa using hp
  have hq' : tmps[q]?.getD undef = .pointer (some ⟨C, 0, none⟩) := by simpa using hq
  have h1' : tmps[i]?.getD undef = v1 := by simpa using h1
  simp [results, h, hp', hq', asAddr, hl, hl', h1']
/-- what the callees of Reap answer -/
structure Ro (m : Mc) : Prop where
  hg : ∀ v u, Rcs u v m.e.C → Calls Try.prog 44 #[agv (rgl v m.e)] u fun e w' => ∃ v', e = .returned (.tuple #[agv (rgl v' (ring.getV m.e)), .int .u64 (ring.getW m.e), .bool (ring.getB m.e), .int .i64 0]) ∧ ring.Tel u v' (ring.getV m.e) w'
  hu : ∀ u, Calls Try.prog 45 #[.int .u64 (ring.atG m.e).1] u fun e w' => e = .returned (evV (rpE m)) ∧ Below u.heap.size u w'
  hl : ∀ v u, Rcs u v (ring.onG m.e).C → Calls Try.prog 46 #[agv (rgl v (ring.onG m.e))] u fun e w' => ∃ v', e = .returned (.tuple #[agv (rgl v' (ring.lrn (ring.onG m.e))), .int .i64 0]) ∧ ring.Tel u v' (ring.lrn (ring.onG m.e)) w'
  hn : ∀ v u, Rcs u v m.c.C → Calls Try.prog 47 #[agv (rgl v m.c), .int .i64 (rpE m).2.2] u fun e w' => e = .returned (.tuple #[.int .i64 (nxA m.c.C.length (rpE m).2.2), .bool (ring.plB m.c.C.length (rpE m).2.2)]) ∧ Below u.heap.size u w'
theorem In.ro {w : World} {vc ve : Value} {m : Mc} (hi : In w vc ve m) (hr : rtB m = true) : Ro m := by
  have hR := rt_iff.1 hr
  have k2 : ring.chk m.e = 0 := ring.chk_ok.2 hR.e
  have k3 : ring.chk (ring.onG m.e) = 0 := ring.chk_ok.2 (ring.onG_rt hR.e)
  have hb := hi.we _ (atG_mem hR.e)
  refine ⟨fun v u hu => ?_, fun u => unpackEvent_any _ u hb.1 hb.2, fun v u hu => ?_, fun v u hu => next_any v m.c _ u hu hR.c.n3 hR.c.n64⟩
  · have := ring.Get_any v m.e u hu
    unfold ring.gtV ring.gtW ring.gtB at this
    rw [if_pos k2, if_pos k2, if_pos k2, k2] at this
    exact this
  · have := ring.Learn_any v (ring.onG m.e) u hu
    unfold ring.lnV at this
    rw [if_pos k3, k3] at this
    exact this
set_option maxHeartbeats 8000000 in
theorem reap_any (vc ve : Value) (m : Mc) (w : World) (hi : In w vc ve m) :
    Calls Try.prog 18 #[agv (mvl vc ve m)] w fun e w' => ∃ vc' ve', e = .returned (.tuple #[agv (mvl vc' ve' (rpV m)), evV (rpX m), .bool (rpB m)]) ∧ Tl w vc' ve' (rpV m) w' := by
  have hM : Mv w w [] [(false, vc, m.c.C), (false, ve, m.e.C)] := ((Mv.nil w).old hi.e).old hi.c
  have HV : Hid (Vs (mvl vc ve m) 606) := hi.vs
  have HL0 : Hid (0 + 606 ≤ (mvl vc ve m).length) := by show _ ≤ _; rw [hi.vs.len]; exact Nat.le_refl _
  have HA0 : Hid (cv (mvl vc ve m) 0 606 = mvl vc ve m) := cv_all hi.vs.len
  have HCP : Hid (∀ u, Below w.heap.size w u → Calls Try.prog 35 #[agv (mvl vc ve m)] u fun e w' => ∃ vc' ve', e = .returned (agv (mvl vc' ve' m)) ∧ Tl u vc' ve' m w') := fun u hb => copied_any vc ve m u (hi.c.below hb) (hi.e.below hb) hi.B hi.l1 hi.l2
  have HIR : Hid (∀ v1 v2 u, Rcs u v1 m.c.C → Rcs u v2 m.e.C → Calls Try.prog 36 #[agv (mvl v1 v2 m)] u fun e w' => e = .returned (.bool (rtB m)) ∧ Below u.heap.size u w') := fun v1 v2 u h1 h2 => isRight_any v1 v2 m u h1 h2 hi.B hi.wc hi.we
  have HVS : Hid (∀ (u : World) v1 v2, Rcs u v1 m.c.C → Rcs u v2 m.e.C → Vs (mvl v1 v2 m) 606) := fun u v1 v2 h1 h2 => mvl_vs (rcs_one h1) (rcs_one h2) hi.B
  have HZ : Hid (zl.length = 606) := zl_vs.len
  have HZE : Hid ((ivs [0, 0, 0]).length = 3) := rfl
  have HZV : Hid (Vs (ivs [0, 0, 0]) 3) := ivs_vs rfl
  have HZR : Hid ((rgl nilS ring.zR).length = 6) := rfl
  have HRO : Hid (rtB m = true → Ro m) := fun h => hi.ro h
  have HBW : Hid (Wf m.B) := hi.B
  have hb0 := bld_e0
  clear hi
  cases hR : rtB m
  · have HQ : Hid (rpV m = m ∧ rpX m = (0, 0, 0) ∧ rpB m = false) := by
      have : rpB m = false := by unfold rpB; rw [hR]; rfl
      unfold rpV rpX; rw [this]; exact ⟨rfl, rfl, rfl⟩
    obtain ⟨q1, q2, q3⟩ := HQ.out
    rw [q1, q2, q3]
    rw [hR] at HIR
    clear HRO HQ hR q1 q2 q3
    go_enter Try.func18, Try.ntmps18
    repeat' (first | (go_big_may; first | (refine v_box rfl rfl rfl ?_; intro u xm hN; replace hM := hM.new hN (by decide); clear hN) | (refine v_alloc rfl zer_mach rfl ?_; intro u xr hN; replace hM := hM.new hN (by decide); clear hN) | (refine v_alloc rfl zer_event rfl ?_; intro u xv hN; replace hM := hM.new hN (by decide); clear hN) | (refine v_load rfl rfl row_mach rfl hM.at2 HL0.out HA0.out ?_)) | go_values | go_skip | go_guarded | go_step | go_upon | (simp only [Int.not_lt, Int.not_le] at *; go_simp))
    refine (HCP.out _ hM.below).mono ?_
    rintro r u1 ⟨v1, v2, rfl, ht⟩
    replace hM := (hM.tel ht.c ht.below).add (b := true) (ht.e.mono hM.below.size)
    clear ht
    have H2 : Hid (Vs (mvl v1 v2 m) 606) := HVS.out _ _ _ (hM.read (b := true) (by simp)) (hM.read (b := true) (by simp))
    have HL2 : Hid (0 + 606 ≤ (mvl v1 v2 m).length) := by show _ ≤ _; rw [H2.out.len]; exact Nat.le_refl _
    have HA2 : Hid (cv (mvl v1 v2 m) 0 606 = mvl v1 v2 m) := cv_all H2.out.len
    repeat' (first | (go_big_may; first | (refine v_fill rfl rfl row_mach rfl rfl hM.at2 H2.out HV.out.len ?_; intro u hv hc; replace hM := hM.put2 hc hv; clear hv hc) | (refine v_load rfl rfl row_mach rfl hM.at2 HL2.out HA2.out ?_)) | go_values | go_skip | go_guarded | go_step | go_upon | (simp only [Int.not_lt, Int.not_le] at *; go_simp))
    refine (HIR.out v1 v2 _ (hM.read (b := true) (by simp)) (hM.read (b := true) (by simp))).mono ?_
    rintro r u2 ⟨rfl, hv⟩
    replace hM := hM.call hv
    clear hv
    repeat' (first | (go_big_may; first | (refine v_load rfl rfl row_mach rfl hM.at2 HL2.out HA2.out ?_) | (refine v_build rfl rfl hb0 (by simp [Act.eval, Act.put]) ?_) | (refine v_fill rfl rfl row_mach rfl rfl hM.at1 H2.out HZ.out ?_; intro u hv hc; replace hM := hM.put1 hc hv; clear hv hc) | (refine v_fill rfl rfl row_event rfl rfl hM.at0 HZV.out HZE.out ?_; intro u hv hc; replace hM := hM.put0 hc hv; clear hv hc)) | go_values | go_skip | go_guarded | go_step | go_upon | (simp only [Int.not_lt, Int.not_le] at *; go_simp))
    exact bodyPost_ret (ret_cct Try.results18 rfl (ld_var row_mach hM.at1 H2.out.len) rfl (ld_var row_event hM.at0 HZE.out) rfl) rfl ⟨_, _, rfl, hM.mine (by simp), hM.mine (by simp), hM.below⟩
  have hro := HRO.out hR
  have HIQ : Hid (rpB m = ring.getB m.e) := by show _ = _; unfold rpB; rw [hR]; rfl
  rw [hR] at HIR
  have HUE : Hid (∀ u, Calls Try.prog 45 #[.int .u64 (ring.atG m.e).1] u fun e w' => e = .returned (agv (ivs [(rpE m).1, (rpE m).2.1, (rpE m).2.2])) ∧ Below u.heap.size u w') := hro.hu
  have HLN : Hid (∀ v u, Rcs u v (ring.onG m.e).C → Calls Try.prog 46 #[agv (rgl v (ring.onG m.e))] u fun e w' => ∃ v', e = .returned (.tuple #[agv (rgl v' (ring.lrn (ring.onG m.e))), .int .i64 0]) ∧ ring.Tel u v' (ring.lrn (ring.onG m.e)) w') := hro.hl
  cases hG : ring.getB m.e
  · have HGT : Hid (∀ v u, Rcs u v m.e.C → Calls Try.prog 44 #[agv (rgl v m.e)] u fun e w' => ∃ v', e = .returned (.tuple #[agv (rgl v' m.e), .int .u64 0, .bool false, .int .i64 0]) ∧ ring.Tel u v' m.e w') := fun v u h => by
      have := hro.hg v u h
      unfold ring.getV ring.getW at this
      rw [hG] at this
      exact this
    have HQ : Hid (rpV m = m ∧ rpX m = (0, 0, 0) ∧ rpB m = false) := by
      have : rpB m = false := by rw [HIQ.out, hG]
      unfold rpV rpX; rw [this]; exact ⟨rfl, rfl, rfl⟩
    obtain ⟨q1, q2, q3⟩ := HQ.out
    rw [q1, q2, q3]
    clear HRO HQ hR q1 q2 q3 HIQ hro hG HUE HLN
    go_enter Try.func18, Try.ntmps18
    repeat' (first | (go_big_may; first | (refine v_box rfl rfl rfl ?_; intro u xm hN; replace hM := hM.new hN (by decide); clear hN) | (refine v_alloc rfl zer_mach rfl ?_; intro u xr hN; replace hM := hM.new hN (by decide); clear hN) | (refine v_alloc rfl zer_event rfl ?_; intro u xv hN; replace hM := hM.new hN (by decide); clear hN) | (refine v_load rfl rfl row_mach rfl hM.at2 HL0.out HA0.out ?_)) | go_values | go_skip | go_guarded | go_step | go_upon | (simp only [Int.not_lt, Int.not_le] at *; go_simp))
    refine (HCP.out _ hM.below).mono ?_
    rintro r u1 ⟨v1, v2, rfl, ht⟩
    replace hM := (hM.tel ht.c ht.below).add (b := true) (ht.e.mono hM.below.size)
    clear ht
    have H2 : Hid (Vs (mvl v1 v2 m) 606) := HVS.out _ _ _ (hM.read (b := true) (by simp)) (hM.read (b := true) (by simp))
    have HL2 : Hid (0 + 606 ≤ (mvl v1 v2 m).length) := by show _ ≤ _; rw [H2.out.len]; exact Nat.le_refl _
    have HA2 : Hid (cv (mvl v1 v2 m) 0 606 = mvl v1 v2 m) := cv_all H2.out.len
    have HL6 : Hid (6 + 6 ≤ (mvl v1 v2 m).length) := by show _ ≤ _; rw [H2.out.len]; omega
    have HA6 : Hid (cv (mvl v1 v2 m) 6 6 = rgl v2 m.e) := cv_e _ _ _
    repeat' (first | (go_big_may; first | (refine v_fill rfl rfl row_mach rfl rfl hM.at2 H2.out HV.out.len ?_; intro u hv hc; replace hM := hM.put2 hc hv; clear hv hc) | (refine v_load rfl rfl row_mach rfl hM.at2 HL2.out HA2.out ?_)) | go_values | go_skip | go_guarded | go_step | go_upon | (simp only [Int.not_lt, Int.not_le] at *; go_simp))
    refine (HIR.out v1 v2 _ (hM.read (b := true) (by simp)) (hM.read (b := true) (by simp))).mono ?_
    rintro r u2 ⟨rfl, hv⟩
    replace hM := hM.call hv
    clear hv
    repeat' (first | (go_big_may; first | (refine v_load rfl rfl row_ring rfl hM.at2 HL6.out HA6.out ?_)) | go_values | go_skip | go_guarded | go_step | go_upon | (simp only [Int.not_lt, Int.not_le] at *; go_simp))
    refine (HGT.out v2 _ (hM.read (b := true) (by simp))).mono ?_
    rintro r u3 ⟨v3, rfl, ht⟩
    replace hM := hM.tel ht.1 ht.2
    have H3 : Hid (Vs (rgl v3 m.e) 6) := rgl_vs (rcs_one ht.1.rcs)
    clear ht
    repeat' (first | (go_big_may; first | (refine v_alloc rfl zer_ring rfl ?_; intro u xg hN; replace hM := hM.new hN (by decide); clear hN) | (refine v_fill rfl rfl row_ring rfl rfl hM.at0 H3.out HZR.out ?_; intro u hv hc; replace hM := hM.put0 hc hv; clear hv hc) | (refine v_load rfl rfl row_mach rfl hM.at3 HL2.out HA2.out ?_) | (refine v_build rfl rfl hb0 (by simp [Act.eval, Act.put]) ?_) | (refine v_fill rfl rfl row_mach rfl rfl hM.at2 H2.out HZ.out ?_; intro u hv hc; replace hM := hM.put2 hc hv; clear hv hc) | (refine v_fill rfl rfl row_event rfl rfl hM.at1 HZV.out HZE.out ?_; intro u hv hc; replace hM := hM.put1 hc hv; clear hv hc)) | go_values | go_skip | go_guarded | go_step | go_upon | (simp only [Int.not_lt, Int.not_le] at *; go_simp))
    exact bodyPost_ret (ret_cct Try.results18 rfl (ld_var row_mach hM.at2 H2.out.len) rfl (ld_var row_event hM.at1 HZE.out) rfl) rfl ⟨_, _, rfl, hM.mine (by simp), hM.mine (by simp), hM.below⟩
  have HGT : Hid (∀ v u, Rcs u v m.e.C → Calls Try.prog 44 #[agv (rgl v m.e)] u fun e w' => ∃ v', e = .returned (.tuple #[agv (rgl v' (ring.onG m.e)), .int .u64 (ring.atG m.e).1, .bool true, .int .i64 0]) ∧ ring.Tel u v' (ring.onG m.e) w') := fun v u h => by
    have := hro.hg v u h
    unfold ring.getV ring.getW at this
    rw [hG, if_pos rfl, if_pos rfl] at this
    exact this
  have HQ : Hid (rpV m = reV m ∧ rpX m = rpE m ∧ rpB m = true) := by
    have : rpB m = true := by rw [HIQ.out, hG]
    unfold rpV rpX; rw [this]; exact ⟨rfl, rfl, rfl⟩
  obtain ⟨q1, q2, q3⟩ := HQ.out
  rw [q1, q2, q3]
  have HNX : Hid (∀ v u, Rcs u v m.c.C → Calls Try.prog 47 #[agv (rgl v m.c), .int .i64 (rpE m).2.2] u fun e w' => e = .returned (.tuple #[.int .i64 (nxA m.c.C.length (rpE m).2.2), .bool (ring.plB m.c.C.length (rpE m).2.2)]) ∧ Below u.heap.size u w') := hro.hn
  have HSN : Hid (reV m = ⟨rgS m.c (snx m.c (rpE m).2.2), ring.lrn (ring.onG m.e), m.B⟩) := rfl
  have HSX : Hid (snx m.c (rpE m).2.2 = if ring.plB m.c.C.length (rpE m).2.2 = true then (ring.on m.c.C.length (rpE m).2.2 0).1 else m.c.sn) := rfl
  have HNA : Hid (nxA m.c.C.length (rpE m).2.2 = if ring.plB m.c.C.length (rpE m).2.2 = true then (ring.on m.c.C.length (rpE m).2.2 0).1 else 0) := rfl
  have HCE : Hid ((ring.lrn (ring.onG m.e)).C = m.e.C ∧ (ring.onG m.e).C = m.e.C) := ⟨rfl, rfl⟩
  unfold evV
  have EQ2 : Hid ((ivs [(rpE m).1, (rpE m).2.1, (rpE m).2.2])[2]? = some (.int .i64 (rpE m).2.2)) := rfl
  have EVS : Hid (Vs (ivs [(rpE m).1, (rpE m).2.1, (rpE m).2.2]) 3) := ivs_vs rfl
  clear HRO HQ hR q1 q2 q3 HIQ hro hG
  generalize ivs [(rpE m).1, (rpE m).2.1, (rpE m).2.2] = EV at *
  have HLE : Hid (0 + 3 ≤ EV.length) := by show _ ≤ _; rw [EVS.out.len]; exact Nat.le_refl _
  have HAE : Hid (cv EV 0 3 = EV) := cv_all EVS.out.len
  generalize (rpE m).2.2 = at' at *
  generalize (ring.atG m.e).1 = ew at *
  generalize reV m = rv at *
  generalize ring.lrn (ring.onG m.e) = LN at *
  generalize ring.onG m.e = OG at *
  generalize nxA m.c.C.length at' = na at *
  generalize snx m.c at' = sx at *
  generalize (ring.on m.c.C.length at' 0).1 = on1 at *
  generalize ring.plB m.c.C.length at' = pb at *
  go_enter Try.func18, Try.ntmps18
  repeat' (first | (go_big_may; first | (refine v_box rfl rfl rfl ?_; intro u xm hN; replace hM := hM.new hN (by decide); clear hN) | (refine v_alloc rfl zer_mach rfl ?_; intro u xr hN; replace hM := hM.new hN (by decide); clear hN) | (refine v_alloc rfl zer_event rfl ?_; intro u xv hN; replace hM := hM.new hN (by decide); clear hN) | (refine v_load rfl rfl row_mach rfl hM.at2 HL0.out HA0.out ?_)) | go_values | go_skip | go_guarded | go_step | go_upon | (simp only [Int.not_lt, Int.not_le] at *; go_simp))
  refine (HCP.out _ hM.below).mono ?_
  rintro r u1 ⟨v1, v2, rfl, ht⟩
  replace hM := (hM.tel ht.c ht.below).add (b := true) (ht.e.mono hM.below.size)
  clear ht
  have H2 : Hid (Vs (mvl v1 v2 m) 606) := HVS.out _ _ _ (hM.read (b := true) (by simp)) (hM.read (b := true) (by simp))
  have HL2 : Hid (0 + 606 ≤ (mvl v1 v2 m).length) := by show _ ≤ _; rw [H2.out.len]; exact Nat.le_refl _
  have HA2 : Hid (cv (mvl v1 v2 m) 0 606 = mvl v1 v2 m) := cv_all H2.out.len
  have HL6 : Hid (6 + 6 ≤ (mvl v1 v2 m).length) := by show _ ≤ _; rw [H2.out.len]; omega
  have HA6 : Hid (cv (mvl v1 v2 m) 6 6 = rgl v2 m.e) := cv_e _ _ _
  repeat' (first | (go_big_may; first | (refine v_fill rfl rfl row_mach rfl rfl hM.at2 H2.out HV.out.len ?_; intro u hv hc; replace hM := hM.put2 hc hv; clear hv hc) | (refine v_load rfl rfl row_mach rfl hM.at2 HL2.out HA2.out ?_)) | go_values | go_skip | go_guarded | go_step | go_upon | (simp only [Int.not_lt, Int.not_le] at *; go_simp))
  refine (HIR.out v1 v2 _ (hM.read (b := true) (by simp)) (hM.read (b := true) (by simp))).mono ?_
  rintro r u2 ⟨rfl, hv⟩
  replace hM := hM.call hv
  clear hv
  repeat' (first | (go_big_may; first | (refine v_load rfl rfl row_ring rfl hM.at2 HL6.out HA6.out ?_)) | go_values | go_skip | go_guarded | go_step | go_upon | (simp only [Int.not_lt, Int.not_le] at *; go_simp))
  refine (HGT.out v2 _ (hM.read (b := true) (by simp))).mono ?_
  rintro r u3 ⟨v3, rfl, ht⟩
  replace hM := hM.tel ht.1 ht.2
  have H3 : Hid (Vs (rgl v3 OG) 6) := rgl_vs (rcs_one ht.1.rcs)
  have HLO : Hid (0 + 6 ≤ (rgl v3 OG).length) := Nat.le_refl _
  have HAO : Hid (cv (rgl v3 OG) 0 6 = rgl v3 OG) := rfl
  clear ht
  repeat' (first | (go_big_may; first | (refine v_alloc rfl zer_ring rfl ?_; intro u xg hN; replace hM := hM.new hN (by decide); clear hN) | (refine v_fill rfl rfl row_ring rfl rfl hM.at0 H3.out HZR.out ?_; intro u hv hc; replace hM := hM.put0 hc hv; clear hv hc)) | go_values | go_skip | go_guarded | go_step | go_upon | (simp only [Int.not_lt, Int.not_le] at *; go_simp))
  refine (HUE.out _).mono ?_
  rintro r u4 ⟨rfl, hv⟩
  replace hM := hM.call hv
  clear hv
  repeat' (first | (go_big_may; first | (refine v_alloc rfl zer_event rfl ?_; intro u xe hN; replace hM := hM.new hN (by decide); clear hN) | (refine v_fill rfl rfl row_event rfl rfl hM.at0 EVS.out HZE.out ?_; intro u hv hc; replace hM := hM.put0 hc hv; clear hv hc) | (refine v_load rfl rfl row_ring rfl hM.at1 HLO.out HAO.out ?_)) | go_values | go_skip | go_guarded | go_step | go_upon | (simp only [Int.not_lt, Int.not_le] at *; go_simp))
  refine (HLN.out v3 _ (hM.read (b := true) (by simp))).mono ?_
  rintro r u5 ⟨v4, rfl, ht⟩
  replace hM := hM.tel ht.1 ht.2
  have H4 : Hid (Vs (rgl v4 LN) 6) := rgl_vs (rcs_one ht.1.rcs)
  clear ht
  have HP5 : Hid (ptv (mvl v1 v2 m) 6 (rgl v4 LN) = mvl v1 v4 ⟨m.c, LN, m.B⟩) := ptv_e _ _ _ _ _
  have H5 : Hid (Vs (mvl v1 v4 ⟨m.c, LN, m.B⟩) 606) := mvl_vs (rcs_one (hM.read (b := true) (x := v1) (C := m.c.C) (by simp))) (rcs_one (hM.read (b := true) (x := v4) (C := LN.C) (by simp))) HBW.out
  have HL5 : Hid (0 + 6 ≤ (mvl v1 v4 ⟨m.c, LN, m.B⟩).length) := by show _ ≤ _; rw [H5.out.len]; omega
  have HA5 : Hid (cv (mvl v1 v4 ⟨m.c, LN, m.B⟩) 0 6 = rgl v1 m.c) := cv_c _ _ _
  repeat' (first | (go_big_may; first | (refine v_store rfl rfl row_ring rfl rfl hM.at4 H4.out HL6.out HP5.out ?_; intro u hv hc; replace hM := hM.put4 hc hv; clear hv hc) | (refine v_load rfl rfl row_ring rfl hM.at4 HL5.out HA5.out ?_) | (refine v_get rfl rfl (.inl rfl) rfl hM.at0 EQ2.out ?_)) | go_values | go_skip | go_guarded | go_step | go_upon | (simp only [Int.not_lt, Int.not_le] at *; go_simp))
  refine (HNX.out v1 _ (hM.read (b := true) (by simp))).mono ?_
  rintro r u6 ⟨rfl, hv⟩
  replace hM := hM.call hv
  clear hv
  cases pb
  · have HS1 : Hid (rv = ⟨m.c, LN, m.B⟩) := by rw [HSN.out, HSX.out]; rfl
    have HCC : Hid (rv.c.C = m.c.C ∧ rv.e.C = LN.C) := by rw [HS1.out]; exact ⟨rfl, rfl⟩
    have H6 : Hid (Vs (mvl v1 v4 rv) 606) := by rw [HS1.out]; exact H5.out
    rw [← HS1.out] at hM
    repeat' (first | go_values | go_skip | go_guarded | go_step | go_upon | (simp only [Int.not_lt, Int.not_le] at *; go_simp))
    clear HNA HSN HSX HS1
    go_simp
    have HL7 : Hid (0 + 606 ≤ (mvl v1 v4 rv).length) := by show _ ≤ _; rw [H6.out.len]; exact Nat.le_refl _
    have HA7 : Hid (cv (mvl v1 v4 rv) 0 606 = mvl v1 v4 rv) := cv_all H6.out.len
    refine wp_abs (fun a0 => a0.tmps.size = 53 ∧ (∀ h, a0.tmps[1]'h = .pointer (some ⟨xm, 0, none⟩)) ∧ (∀ h, a0.tmps[2]'h = .pointer (some ⟨xr, 0, none⟩)) ∧ (∀ h, a0.tmps[3]'h = .pointer (some ⟨xv, 0, none⟩)) ∧ (∀ h, a0.tmps[9]'h = .pointer (some ⟨xe, 0, none⟩))) ⟨rfl, fun _ => rfl, fun _ => rfl, fun _ => rfl, fun _ => rfl⟩ ?_
    rintro a0 ⟨hsz, s1, s2, s3, s9⟩ ha0
    obtain ⟨RR, hRR⟩ : ∃ RR : List (Bool × Value × List Ce), [(true, v4, LN.C), (true, v3, OG.C), (true, v2, m.e.C), (true, v1, m.c.C), (false, vc, m.c.C), (false, ve, m.e.C)] = RR := ⟨_, rfl⟩
    rw [hRR] at hM
    refine wp_region_held (S := fun W => ∃ l1 l2 : List Value, l1.length = 606 ∧ l2.length = 3 ∧ Mv w W [(xe, 52, EV), (xg, 35, rgl v3 OG), (xv, 52, l2), (xr, 43, l1), (xm, 43, mvl v1 v4 rv)] RR) (by kernel_rfl) ?_
    have hd := hM.drew
    have hS0 : ∃ l1 l2 : List Value, l1.length = 606 ∧ l2.length = 3 ∧ Mv w _ [(xe, 52, EV), (xg, 35, rgl v3 OG), (xv, 52, l2), (xr, 43, l1), (xm, 43, mvl v1 v4 rv)] RR := ⟨_, _, HZ.out, HZE.out, hd⟩
    refine h_take (i := 0) (agv (mvl v1 v4 rv)) rfl (by kernel_rfl) (by kernel_rfl) (by kernel_rfl) (fun _ _ _ h => h) rfl hS0 (fun W hW => by
      obtain ⟨l1, l2, _, _, hm⟩ := hW
      exact ex_loadv rfl row_mach (by simp [go_sem, Act.put, hsz, s1]) hm.at4 HL7.out HA7.out) ?_
    refine h_take (i := 1) (agv EV) rfl (by kernel_rfl) (by kernel_rfl) (by kernel_rfl) (fun _ _ _ h => h) rfl hS0 (fun W hW => by
      obtain ⟨l1, l2, _, _, hm⟩ := hW
      exact ex_loadv rfl row_event (by simp [go_sem, Act.put, hsz, s9]) hm.at0 HLE.out HAE.out) ?_
    refine h_fillv (i := 2) rfl (by kernel_rfl) rfl rfl row_mach (by simp [go_sem, Act.put, hsz, s2]) (by simp [go_sem, Act.put, hsz]) hd.at3 H6.out HZ.out (fun u7 hl7 hc7 => ?_)
    have hd2 := hd.put3 hc7 hl7
    clear hl7 hc7
    refine ⟨⟨_, _, H6.out.len, HZE.out, hd2⟩, ?_⟩
    refine h_fillv (i := 3) rfl (by kernel_rfl) rfl rfl row_event (by simp [go_sem, Act.put, hsz, s3]) (by simp [go_sem, Act.put, hsz]) hd2.at2 EVS.out HZE.out (fun u8 hl8 hc8 => ?_)
    have hd3 := hd2.put2 hc8 hl8
    clear hl8 hc8
    refine ⟨⟨_, _, H6.out.len, EVS.out.len, hd3⟩, ?_⟩
    have hS3 : ∃ l1 l2 : List Value, l1.length = 606 ∧ l2.length = 3 ∧ Mv w u8 [(xe, 52, EV), (xg, 35, rgl v3 OG), (xv, 52, l2), (xr, 43, l1), (xm, 43, mvl v1 v4 rv)] RR := ⟨_, _, H6.out.len, EVS.out.len, hd3⟩
    refine h_take (i := 4) (.bool true) rfl (by kernel_rfl) (by kernel_rfl) (by kernel_rfl) (fun _ _ _ h => h) rfl hS3 (fun W hW => by simp [execOp, go_sem, Act.put, hsz, s1, s2, s3, s9]) ?_
    refine wpAnyH_done (by kernel_rfl) ?_ _
    subst ha0
    clear hsz s1 s2 s3 s9 hS0 hS3 hd hd2 hM
    rw [← hRR] at hd3
    go_simp
    repeat' (first | go_values | go_skip | go_guarded | go_step | go_upon | (simp only [Int.not_lt, Int.not_le] at *; go_simp))
    exact bodyPost_ret (ret_cct Try.results18 rfl (ld_var row_mach hd3.at3 H6.out.len) rfl (ld_var row_event hd3.at2 EVS.out.len) rfl) rfl ⟨_, _, rfl, by rw [HCC.out.1]; exact hd3.mine (by simp), by rw [HCC.out.2]; exact hd3.mine (by simp), hd3.below⟩
  · have HS1 : Hid (na = on1 ∧ rv = ⟨rgS m.c on1, LN, m.B⟩) := ⟨HNA.out, by rw [HSN.out, HSX.out]; rfl⟩
    have H6 : Hid (Vs (mvl v1 v4 rv) 606) := by show Vs _ _; rw [HS1.out.2]; exact mvl_vs (rcs_one (hM.read (b := true) (x := v1) (C := m.c.C) (by simp))) (rcs_one (hM.read (b := true) (x := v4) (C := LN.C) (by simp))) HBW.out
    have HP6 : Hid ((mvl v1 v4 ⟨m.c, LN, m.B⟩).set 5 (.int .i64 na) = mvl v1 v4 rv) := by show _ = _; rw [HS1.out.2, HS1.out.1]; rfl
    have HLT : Hid (5 < (mvl v1 v4 ⟨m.c, LN, m.B⟩).length) := by show _ < _; rw [H5.out.len]; omega
    have HCC : Hid (rv.c.C = m.c.C ∧ rv.e.C = LN.C) := by rw [HS1.out.2]; exact ⟨rfl, rfl⟩
    repeat' (first | (go_big_may; first | (refine v_puti rfl rfl rfl rfl hM.at4 HLT.out ?_; intro u hv hc; replace hM := hM.put4 hc hv; clear hv hc)) | go_values | go_skip | go_guarded | go_step | go_upon | (simp only [Int.not_lt, Int.not_le] at *; go_simp))
    rw [HP6.out] at hM
    clear HNA HSN HSX HS1
    go_simp
    have HL7 : Hid (0 + 606 ≤ (mvl v1 v4 rv).length) := by show _ ≤ _; rw [H6.out.len]; exact Nat.le_refl _
    have HA7 : Hid (cv (mvl v1 v4 rv) 0 606 = mvl v1 v4 rv) := cv_all H6.out.len
    refine wp_abs (fun a0 => a0.tmps.size = 53 ∧ (∀ h, a0.tmps[1]'h = .pointer (some ⟨xm, 0, none⟩)) ∧ (∀ h, a0.tmps[2]'h = .pointer (some ⟨xr, 0, none⟩)) ∧ (∀ h, a0.tmps[3]'h = .pointer (some ⟨xv, 0, none⟩)) ∧ (∀ h, a0.tmps[9]'h = .pointer (some ⟨xe, 0, none⟩))) ⟨rfl, fun _ => rfl, fun _ => rfl, fun _ => rfl, fun _ => rfl⟩ ?_
    rintro a0 ⟨hsz, s1, s2, s3, s9⟩ ha0
    obtain ⟨RR, hRR⟩ : ∃ RR : List (Bool × Value × List Ce), [(true, v4, LN.C), (true, v3, OG.C), (true, v2, m.e.C), (true, v1, m.c.C), (false, vc, m.c.C), (false, ve, m.e.C)] = RR := ⟨_, rfl⟩
    rw [hRR] at hM
    refine wp_region_held (S := fun W => ∃ l1 l2 : List Value, l1.length = 606 ∧ l2.length = 3 ∧ Mv w W [(xe, 52, EV), (xg, 35, rgl v3 OG), (xv, 52, l2), (xr, 43, l1), (xm, 43, mvl v1 v4 rv)] RR) (by kernel_rfl) ?_
    have hd := hM.drew
    have hS0 : ∃ l1 l2 : List Value, l1.length = 606 ∧ l2.length = 3 ∧ Mv w _ [(xe, 52, EV), (xg, 35, rgl v3 OG), (xv, 52, l2), (xr, 43, l1), (xm, 43, mvl v1 v4 rv)] RR := ⟨_, _, HZ.out, HZE.out, hd⟩
    refine h_take (i := 0) (agv (mvl v1 v4 rv)) rfl (by kernel_rfl) (by kernel_rfl) (by kernel_rfl) (fun _ _ _ h => h) rfl hS0 (fun W hW => by
      obtain ⟨l1, l2, _, _, hm⟩ := hW
      exact ex_loadv rfl row_mach (by simp [go_sem, Act.put, hsz, s1]) hm.at4 HL7.out HA7.out) ?_
    refine h_take (i := 1) (agv EV) rfl (by kernel_rfl) (by kernel_rfl) (by kernel_rfl) (fun _ _ _ h => h) rfl hS0 (fun W hW => by
      obtain ⟨l1, l2, _, _, hm⟩ := hW
      exact ex_loadv rfl row_event (by simp [go_sem, Act.put, hsz, s9]) hm.at0 HLE.out HAE.out) ?_
    refine h_fillv (i := 2) rfl (by kernel_rfl) rfl rfl row_mach (by simp [go_sem, Act.put, hsz, s2]) (by simp [go_sem, Act.put, hsz]) hd.at3 H6.out HZ.out (fun u7 hl7 hc7 => ?_)
    have hd2 := hd.put3 hc7 hl7
    clear hl7 hc7
    refine ⟨⟨_, _, H6.out.len, HZE.out, hd2⟩, ?_⟩
    refine h_fillv (i := 3) rfl (by kernel_rfl) rfl rfl row_event (by simp [go_sem, Act.put, hsz, s3]) (by simp [go_sem, Act.put, hsz]) hd2.at2 EVS.out HZE.out (fun u8 hl8 hc8 => ?_)
    have hd3 := hd2.put2 hc8 hl8
    clear hl8 hc8
    refine ⟨⟨_, _, H6.out.len, EVS.out.len, hd3⟩, ?_⟩
    have hS3 : ∃ l1 l2 : List Value, l1.length = 606 ∧ l2.length = 3 ∧ Mv w u8 [(xe, 52, EV), (xg, 35, rgl v3 OG), (xv, 52, l2), (xr, 43, l1), (xm, 43, mvl v1 v4 rv)] RR := ⟨_, _, H6.out.len, EVS.out.len, hd3⟩
    refine h_take (i := 4) (.bool true) rfl (by kernel_rfl) (by kernel_rfl) (by kernel_rfl) (fun _ _ _ h => h) rfl hS3 (fun W hW => by simp [execOp, go_sem, Act.put, hsz, s1, s2, s3, s9]) ?_
    refine wpAnyH_done (by kernel_rfl) ?_ _
    subst ha0
    clear hsz s1 s2 s3 s9 hS0 hS3 hd hd2 hM
    rw [← hRR] at hd3
    go_simp
    repeat' (first | go_values | go_skip | go_guarded | go_step | go_upon | (simp only [Int.not_lt, Int.not_le] at *; go_simp))
    exact bodyPost_ret (ret_cct Try.results18 rfl (ld_var row_mach hd3.at3 H6.out.len) rfl (ld_var row_event hd3.at2 EVS.out.len) rfl) rfl ⟨_, _, rfl, by rw [HCC.out.1]; exact hd3.mine (by simp), by rw [HCC.out.2]; exact hd3.mine (by simp), hd3.below⟩
end Go.Proofs.Ythjmcopknkemnaa.host
