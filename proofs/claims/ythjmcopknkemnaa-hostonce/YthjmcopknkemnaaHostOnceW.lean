/- HostOnce: each command that was taken is done once, in order; each is told by one event, in order, with what the board said of it (without halts). -/
import Derived.Test.YthjmcopknkemnaaHstU
import Derived.Test.YthjmcopknkemnaaHstO
namespace Go.Proofs.Ythjmcopknkemnaa.hostOnce
open Go Go.RowKit
open Go.Proofs.Ythjmcopknkemnaa Go.Proofs.Ythjmcopknkemnaa.host
open Go.Proofs.Ythjmcopknkemnaa.slots (Row row_cmd row_board Chg ag bsq InB Wf fl)
open Go.Proofs.Ythjmcopknkemnaa.ring (Rcs named keep wp_abs h_take h_call h_value h_skip below_drewN)
set_option linter.unusedVariables false
set_option linter.unusedSimpArgs false
set_option maxRecDepth 100000

/-- what the board says of the i-th command, all of them being done in order -/
def cmi (C : List Cm) (i : Nat) : Cm := C.getD i cm0
def bdn (C : List Cm) : Nat → slots.Bd
  | 0 => slots.zB
  | i + 1 => (slots.doB (bdn C i) (cmi C i).1 (cmi C i).2.1 (cmi C i).2.2.1 (cmi C i).2.2.2).B
def asi (C : List Cm) (i : Nat) : slots.Ans := slots.doB (bdn C i) (cmi C i).1 (cmi C i).2.1 (cmi C i).2.2.1 (cmi C i).2.2.2
theorem cmi_app {C : List Cm} {x : Cm} {i : Nat} (h : i < C.length) : cmi (C ++ [x]) i = cmi C i := by
  unfold cmi
  rw [List.getD_eq_getElem?_getD, List.getD_eq_getElem?_getD, List.getElem?_append_left h]
theorem bdn_app {C : List Cm} {x : Cm} : ∀ {i : Nat}, i ≤ C.length → bdn (C ++ [x]) i = bdn C i
  | 0, _ => rfl
  | i + 1, h => by rw [bdn, bdn, bdn_app (by omega), cmi_app (by omega)]
theorem asi_app {C : List Cm} {x : Cm} {i : Nat} (h : i < C.length) : asi (C ++ [x]) i = asi C i := by
  unfold asi
  rw [bdn_app (by omega), cmi_app h]
structure Nh (p : Nat) (s : Ps) : Prop where
  b : s.B = bdn s.C s.E.length
  e : ∀ i x, s.E[i]? = some x → x = ((asi s.C i).c, (asi s.C i).n, ((i % p : Nat) : Int))
theorem Nh.sb {p q : Nat} {s : Ps} (hi : Iv p q s) (h : Nh p s) (x : Cm) : Nh p (sbS p s x) := by
  have hl := hi.c.ga
  rw [List.length_map] at hl
  unfold sbS
  split
  · exact ⟨by show s.B = bdn (s.C ++ [x]) s.E.length; rw [bdn_app hl]; exact h.b, fun i y hy => by
      have hlt := (List.getElem?_eq_some_iff.1 hy).1
      show y = ((asi (s.C ++ [x]) i).c, _, _)
      rw [asi_app (by have hlt : i < s.E.length := hlt; omega)]
      exact h.e i y hy⟩
  · exact h
theorem Nh.ws {p q : Nat} {s : Ps} (hi : Iv p q s) (h : Nh p s) (hb : wsB q s = true) : Nh p (wsV p s) := by
  unfold wsB at hb
  simp only [Bool.and_eq_true, decide_eq_true_eq] at hb
  have ht : tha s = asi s.C s.E.length := by
    unfold tha asi nth
    rw [h.b]
    rfl
  refine ⟨?_, fun i y hy => ?_⟩
  · show (tha s).B = bdn s.C (s.E ++ [wsE p s]).length
    rw [ht, List.length_append, List.length_singleton, bdn]
    rfl
  · have hy : (s.E ++ [wsE p s])[i]? = some y := hy
    by_cases q : i < s.E.length
    · rw [List.getElem?_append_left q] at hy
      exact h.e i y hy
    · have hlt := (List.getElem?_eq_some_iff.1 hy).1
      rw [List.length_append, List.length_singleton] at hlt
      have : i = s.E.length := by omega
      subst this
      rw [List.getElem?_append_right (Nat.le_refl _), Nat.sub_self] at hy
      simp at hy
      subst hy
      unfold wsE
      rw [ht]
      rfl
theorem Nh.wk {p q : Nat} : ∀ (n : Nat) {s : Ps}, Iv p q s → Nh p s → Nh p (wkS p q n s)
  | 0, s, hi, h => h
  | n + 1, s, hi, h => by
    unfold wkS
    split
    · rename_i hb
      exact Nh.wk n (hi.wv hb).2 (h.ws hi hb)
    · exact h
theorem Nh.stp {p q : Nat} {s : Ps} (hi : Iv p q s) (h : Nh p s) (d : Dd) (hd : d.1 ≠ 4) : Nh p (stp p q s d) := by
  unfold host.stp
  split
  · exact h.sb hi _
  · split
    · unfold wrS
      split
      · exact Nh.wk _ hi h
      · exact h
    · split
      · unfold rsV
        split
        · exact ⟨h.b, h.e⟩
        · exact h
      · first | exact h | (rw [if_neg hd]; exact h)
theorem Nh.pls {p q : Nat} : ∀ {T : List Dd} {s : Ps}, Iv p q s → Nh p s → (∀ d ∈ T, d.1 ≠ 4) → Nh p (pls p q s T)
  | [], s, hi, h, _ => h
  | d :: r, s, hi, h, hT => Nh.pls (T := r) (hi.stp d) (h.stp hi d (hT d (by simp))) (fun x hx => hT x (by simp [hx]))
theorem Nh.zero (p : Nat) : Nh p ps0 := ⟨rfl, fun i x hx => by simp [ps0] at hx⟩
theorem bdn_wf (C : List Cm) : ∀ i, Wf (bdn C i)
  | 0 => slots.zB_wf
  | i + 1 => slots.do_wf (bdn_wf C i)
/-- is there a halt? -/
theorem isHalt_any (d : Dd) (w : World) : Calls Try.prog 28 #[agv (ivs (ddL d))] w fun e w' => e = .returned (.bool (d.1 == 4)) ∧ Below w.heap.size w w' := by
  have Q0 : Hid ((ivs (ddL d))[0]? = some (.int .i64 d.1)) := rfl
  generalize ivs (ddL d) = V at *
  generalize d.1 = k at *
  have hM := Mv.nil w
  go_enter Try.func28, Try.ntmps28
  repeat' (first | (go_big_may; first | (refine v_box rfl rfl rfl ?_; intro u xm hN; replace hM := hM.new hN (by decide); clear hN) | (refine v_get rfl rfl (.inl rfl) rfl hM.at0 Q0.out ?_)) | go_values | go_skip | go_guarded | go_step | go_upon | (simp only [Int.not_lt, Int.not_le] at *; go_simp))
  go_ret
  exact ⟨rfl, hM.below⟩
theorem any_atD {L : List Dd} {f : Dd → Bool} {k : Nat} {x : Dd} (h : L[k]? = some x) : (L.drop k).any f = (f x || (L.drop (k + 1)).any f) := by
  have hk := (List.getElem?_eq_some_iff.1 h).1
  have hx := (List.getElem?_eq_some_iff.1 h).2
  rw [List.drop_eq_getElem_cons hk, hx]
  rfl
set_option maxHeartbeats 2000000 in
theorem indexD_any (v : Value) (T : List Dd) (w : World) (hv : Rds 8 w v (T.map ddL)) (hl : T.length ≤ 200) :
    Calls Try.prog 52 #[v, .func (.func 28) #[] #[]] w fun e w' => ∃ i : Int, e = .returned (.int .i64 i) ∧ decide (0 ≤ i) = T.any (fun d => d.1 == 4) ∧ Below w.heap.size w w' := by
  have eg := enters_of Try.func28 (by kernel_rfl) rfl
  obtain ⟨a, c, rfl, hlc, hcm⟩ := hv.form
  rw [List.length_map] at hv hlc ⊢
  obtain ⟨n, hn⟩ : ∃ n, T.length = n := ⟨_, rfl⟩
  have HN : Hid (T.length = n) := hn
  rw [hn] at hv hlc hl ⊢
  have HR : Hid (Rds 8 w (.slice a n c) (T.map ddL)) := hv
  obtain ⟨q, hq⟩ : ∃ q, T.any (fun d => d.1 == 4) = q := ⟨_, rfl⟩
  have HQ : Hid (T.any (fun d => d.1 == 4) = q) := hq
  rw [hq]
  unfold maxLen at hcm
  have hM := Mv.nil w
  clear hv hn hq
  go_enter Try.func52, Try.ntmps52
  go_wp2
  go_loopw [8] (fun i wr => ∃ (k : Nat), k ≤ n ∧ i = .int .i64 (k : Int) ∧ Hid (Below w.heap.size w wr ∧ (T.drop k).any (fun d => d.1 == 4) = q)) (fun i _ => n - (intOf i).toNat)
  case atStart => exact ⟨0, Nat.zero_le _, rfl, Below.refl _ _, HQ.out⟩
  case round =>
    obtain ⟨k, hk, rfl, HA⟩ := hrel
    have HBr : Hid (Below w.heap.size w wr) := HA.out.1
    have hM : Mv w wr [] [] := (Mv.nil w).call HBr.out
    by_cases hlt : ¬ k < n
    · have HQ2 : Hid (false = q) := by
        have h1 := HA.out.2
        rw [List.drop_eq_nil_of_le (by have := HN.out; omega)] at h1
        exact h1
      have e3 : decide ((k : Int) < (n : Int)) = false := by simp; omega
      clear HA HQ hM
      go_wp2
      go_ret
      rw [← HQ2.out]
      exact ⟨-1, rfl, rfl, HBr.out⟩
    have hlt : k < n := by omega
    have e3 : decide ((k : Int) < (n : Int)) = true := by simp; omega
    obtain ⟨x, hx⟩ : ∃ x, T[k]? = some x := ⟨_, List.getElem?_eq_getElem (by have := HN.out; omega)⟩
    have HA2 : Hid (((x.1 == 4) || (T.drop (k + 1)).any (fun d => d.1 == 4)) = q) := by have := HA.out.2; rw [any_atD hx] at this; exact this
    obtain ⟨g, off, rfl, hrg⟩ := HR.out.at k (ddL x) (by rw [List.getElem?_map, hx]; rfl)
    have HRG : Hid (wr.rangeAt g (off + k * 8) (ivs (ddL x))) := hrg wr HBr.out
    have HDL : Hid ((ivs (ddL x)).length = 8) := rfl
    have HC : Hid (∀ u, Calls Try.prog 28 #[agv (ivs (ddL x))] u fun e w' => e = .returned (.bool (x.1 == 4)) ∧ Below u.heap.size u w') := isHalt_any x
    generalize ivs (ddL x) = DD at *
    obtain ⟨b, hb⟩ : ∃ b, (x.1 == 4) = b := ⟨_, rfl⟩
    rw [hb] at HC HA2
    clear hx hrg hb HA
    cases b with
    | true =>
      have HQ2 : Hid (true = q) := HA2.out
      clear HA2 HQ
      repeat' (first | (go_big_may; first | (refine v_ldR rfl rfl row_deed rfl HRG.out HDL.out ?_)) | go_values | go_skip | go_guarded | go_step | go_upon | (simp only [Int.not_lt, Int.not_le] at *; go_simp))
      refine (HC.out _).mono ?_
      rintro e u ⟨rfl, hb⟩
      have HB : Hid (Below w.heap.size w u) := bsq HBr.out hb
      clear hb hM
      go_wp2
      go_ret
      rw [← HQ2.out]
      exact ⟨(k : Int), rfl, by simp, HB.out⟩
    | false =>
      have HA3 : Hid ((T.drop (k + 1)).any (fun d => d.1 == 4) = q) := HA2.out
      clear HA2
      repeat' (first | (go_big_may; first | (refine v_ldR rfl rfl row_deed rfl HRG.out HDL.out ?_)) | go_values | go_skip | go_guarded | go_step | go_upon | (simp only [Int.not_lt, Int.not_le] at *; go_simp))
      refine (HC.out _).mono ?_
      rintro e u ⟨rfl, hb⟩
      have HB : Hid (Below w.heap.size w u) := bsq HBr.out hb
      clear hb hM
      go_wp2
      go_roundw
      case rel => exact ⟨k + 1, by omega, by go_num, HB.out, HA3.out⟩
      case measure => simp [intOf]; omega
theorem containsD_any (v : Value) (T : List Dd) (w : World) (hv : Rds 8 w v (T.map ddL)) (hl : T.length ≤ 200) :
    Calls Try.prog 27 #[v, .func (.func 28) #[] #[]] w fun e w' => e = .returned (.bool (T.any (fun d => d.1 == 4))) ∧ Below w.heap.size w w' := by
  have HI : Hid (Calls Try.prog 52 #[v, .func (.func 28) #[] #[]] w fun e w' => ∃ i : Int, e = .returned (.int .i64 i) ∧ decide (0 ≤ i) = T.any (fun d => d.1 == 4) ∧ Below w.heap.size w w') := indexD_any v T w hv hl
  obtain ⟨a, n, c, rfl⟩ : ∃ a n c, v = .slice a n c := by obtain ⟨a, c, h, _⟩ := hv.form; exact ⟨_, _, _, h⟩
  generalize T.any (fun d => d.1 == 4) = q at *
  clear hv
  go_enter Try.func27, Try.ntmps27
  go_wp2_with fail
  refine HI.out.mono ?_
  rintro e u ⟨i, rfl, hi, hb⟩
  have HB : Hid (Below w.heap.size w u) := hb
  clear hb HI
  go_wp2
  go_ret
  exact ⟨by first | rfl | rw [hi], HB.out⟩
theorem ex_ldR {o : Oper} {a : Act} {W : World} {t : TypeId} {x : Operand} (ho : o.op = .load t x) {B k n : Nat} (hT : Row t n) (hx : a.eval x = .pointer (some ⟨B, k, none⟩)) {V : List Value} (hB : W.rangeAt B k V) (hl : V.length = n) :
    (execOp a.eval o).run Try.prog W = .ok (.value (agv V)) W := by
  obtain ⟨d, h1, h2, h3⟩ := hT.ex
  have hr := run_loadAt_mid W B k t V d hB h1 h2 (by rw [h3, hl])
  unfold execOp
  simp only [ho, hx, Sem.run_bind, hr, Result.andThen_ok, Sem.run_pure]
  rfl
set_option maxHeartbeats 16000000 in
theorem walk0 (cc ee : Int) (v : Value) (T : List Dd) (w : World) (hv : Rds 8 w v (T.map ddL)) : Calls Try.prog 7 #[.int .i64 cc, .int .i64 ee, v] w fun r w' => r = .returned (.bool true) ∧ Below w.heap.size w w' := by
  have HR : Hid (Rds 8 w v (T.map ddL)) := hv
  have HPL : Hid (∀ u, Below w.heap.size w u → Calls Try.prog 20 #[.int .i64 cc, .int .i64 ee, v] u fun r w' => ∃ vc ve gv tv, r = .returned (.tuple #[agv (mvl vc ve (plM cc ee T)), gv, tv, .int .i64 (plC cc ee T)]) ∧ Tl u vc ve (plM cc ee T) w' ∧ Rds 3 w' gv ((plE cc ee T).map evL) ∧ Rds 1 w' tv ((plX cc ee T).map one1)) := fun u hb => play_any cc ee v T u (hv.below hb)
  have HLV : Hid (∀ u, Calls Try.prog 26 #[] u fun e w' => e = .returned (.bool true) ∧ Below u.heap.size u w') := lives_any
  have HZ : Hid (zl.length = 606) := zl_vs.len
  obtain ⟨va, vl, vcp, rfl⟩ : ∃ a n c, v = .slice a n c := by obtain ⟨a, c, h, _⟩ := hv.form; exact ⟨_, _, _, h⟩
  have hM := Mv.nil w
  clear hv
  by_cases hc : ¬ plC cc ee T = 0
  · have e1 : (plC cc ee T != 0) = true := by simpa using hc
    have e2 : (plC cc ee T == 0) = false := by simpa using hc
    have HM : Hid (plM cc ee T = zM) := by unfold plM; exact if_neg hc
    have HE : Hid (plE cc ee T = []) := by unfold plE; exact if_neg hc
    rw [HM.out, HE.out] at HPL
    generalize plC cc ee T = pc at *
    clear hc HM HE
    go_enter Try.func7, Try.ntmps7
    repeat' (first | go_values | go_skip | go_guarded | go_step | go_upon | (simp only [Int.not_lt, Int.not_le] at *; go_simp))
    refine (HPL.out _ hM.below).mono ?_
    rintro r u1 ⟨vc, ve, gv, tv, rfl, ht, hg, ho⟩
    have H3 : Hid (Vs (mvl vc ve zM) 606) := mvl_vs (rcs_one ht.c.rcs) (rcs_one ht.e.rcs) slots.zB_wf
    replace hM := hM.call ht.below
    obtain ⟨ga, gc, hgv, _, hgm⟩ := hg.form
    simp only [List.map_nil, List.length_nil] at hgv
    subst hgv
    clear ht hg ho
    repeat' (first | (go_big_may; first | (refine v_alloc rfl zer_mach rfl ?_; intro u xm hN; replace hM := hM.new hN (by decide); clear hN) | (refine v_fill rfl rfl row_mach rfl rfl hM.at0 H3.out HZ.out ?_; intro u hv hc; replace hM := hM.put0 hc hv; clear hv hc)) | go_values | go_skip | go_guarded | go_step | go_upon | (simp only [Int.not_lt, Int.not_le] at *; go_simp))
    refine (HLV.out _).mono ?_
    rintro r u2 ⟨rfl, hv⟩
    replace hM := hM.call hv
    clear hv
    repeat' (first | go_values | go_skip | go_guarded | go_step | go_upon | (simp only [Int.not_lt, Int.not_le] at *; go_simp))
    refine (HLV.out _).mono ?_
    rintro r u3 ⟨rfl, hv⟩
    replace hM := hM.call hv
    clear hv
    repeat' (first | go_values | go_skip | go_guarded | go_step | go_upon | (simp only [Int.not_lt, Int.not_le] at *; go_simp))
    go_ret
    exact ⟨rfl, hM.below⟩
  have hc : plC cc ee T = 0 := Classical.not_not.1 hc
  obtain ⟨hnb, hT⟩ : nmB cc ee = true ∧ T.length ≤ 200 := by
    unfold plC at hc
    split at hc
    · omega
    · rename_i q
      split at hc
      · omega
      · exact ⟨by simpa using q, by omega⟩
  unfold nmB at hnb
  rw [Bool.and_eq_true, ring.cn_iff, ring.cn_iff] at hnb
  obtain ⟨p, hp⟩ : ∃ p, cc.toNat - 1 = p := ⟨_, rfl⟩
  obtain ⟨q, hq⟩ : ∃ q, ee.toNat - 1 = q := ⟨_, rfl⟩
  have HCP : Hid (cc = (p : Int) + 1) := by show _ = _; omega
  have hp2 : 2 ≤ p := by omega
  have hp3 : p ≤ 63 := by omega
  obtain ⟨s0, hs0⟩ : ∃ s0, pls p q ps0 T = s0 := ⟨_, rfl⟩
  have e1 : plM cc ee T = mcs p q s0 := by unfold plM ply; rw [if_pos hc, hp, hq, hs0]
  have e2 : plE cc ee T = rpd s0 := by unfold plE ply; rw [if_pos hc, hp, hq, hs0]
  have e3 : plX cc ee T = plt p q ps0 T := by unfold plX; rw [if_pos hc, hp, hq]
  have hI0 : Iv p q ps0 := Iv.zero (by omega) (by omega) (by omega) (by omega)
  have hI : Iv p q s0 := by rw [← hs0]; exact Iv.pls hI0
  have HI : Hid (Iv p q s0) := hI
  rw [e1, e2, e3, hc] at HPL
  have HCO : Hid (∀ u, Below w.heap.size w u → Calls Try.prog 27 #[.slice va vl vcp, .func (.func 28) #[] #[]] u fun e w' => e = .returned (.bool (T.any (fun d => d.1 == 4))) ∧ Below u.heap.size u w') := fun u hb => containsD_any _ T u (HR.out.below hb) hT
  have HTK : Hid (∀ tv u, Below w.heap.size w u → Rds 1 u tv ((plt p q ps0 T).map one1) → Calls Try.prog 29 #[.slice va vl vcp, tv] u fun r w' => ∃ lv, r = .returned (.tuple #[lv, .bool true]) ∧ Rds 4 w' lv (s0.C.map cm4) ∧ Below u.heap.size u w') := fun tv u hb h => by
    have := taken_any p q (.slice va vl vcp) tv T u (HR.out.below hb) h hT
    rw [hs0] at this
    exact this
  have HNH : Hid (T.any (fun d => d.1 == 4) = false → Nh p s0) := fun h => by
    rw [← hs0]
    refine Nh.pls hI0 (Nh.zero p) (fun d hd h4 => ?_)
    have := List.any_eq_false.1 h d hd
    rw [h4] at this
    exact this rfl
  have HGL : Hid ((rpd s0).length = s0.g ∧ s0.g ≤ s0.E.length ∧ s0.E.length ≤ s0.C.length) := by
    have h1 := hI.c.sg
    have h2 := hI.c.ga
    rw [List.length_map] at h2
    exact ⟨by unfold rpd; simp; omega, h1, h2⟩
  clear hc hnb hp hq e1 e2 e3 hI0
  cases hany : T.any (fun d => d.1 == 4)
  case true =>
    rw [hany] at HCO
    clear HNH hany
    go_enter Try.func7, Try.ntmps7
    repeat' (first | go_values | go_skip | go_guarded | go_step | go_upon | (simp only [Int.not_lt, Int.not_le] at *; go_simp))
    refine (HPL.out _ hM.below).mono ?_
    rintro r u1 ⟨vc, ve, gv, tv, rfl, ht, hg, ho⟩
    have H3 : Hid (Vs (mvl vc ve (mcs p q s0)) 606) := mvl_vs (rcs_one ht.c.rcs) (rcs_one ht.e.rcs) hI.w
    replace hM := hM.call ht.below
    clear ht hg ho
    repeat' (first | (go_big_may; first | (refine v_alloc rfl zer_mach rfl ?_; intro u xm hN; replace hM := hM.new hN (by decide); clear hN) | (refine v_fill rfl rfl row_mach rfl rfl hM.at0 H3.out HZ.out ?_; intro u hv hc; replace hM := hM.put0 hc hv; clear hv hc)) | go_values | go_skip | go_guarded | go_step | go_upon | (simp only [Int.not_lt, Int.not_le] at *; go_simp))
    refine (HLV.out _).mono ?_
    rintro r u2 ⟨rfl, hv⟩
    replace hM := hM.call hv
    clear hv
    repeat' (first | go_values | go_skip | go_guarded | go_step | go_upon | (simp only [Int.not_lt, Int.not_le] at *; go_simp))
    refine (HCO.out _ hM.below).mono ?_
    rintro r u3 ⟨rfl, hv⟩
    replace hM := hM.call hv
    clear hv
    repeat' (first | go_values | go_skip | go_guarded | go_step | go_upon | (simp only [Int.not_lt, Int.not_le] at *; go_simp))
    refine (HLV.out _).mono ?_
    rintro r u4 ⟨rfl, hv⟩
    replace hM := hM.call hv
    clear hv
    repeat' (first | go_values | go_skip | go_guarded | go_step | go_upon | (simp only [Int.not_lt, Int.not_le] at *; go_simp))
    go_ret
    exact ⟨rfl, hM.below⟩
  case false =>
  rw [hany] at HCO
  have HN : Hid (Nh p s0) := HNH.out hany
  obtain ⟨L, hL⟩ : ∃ L, s0.C.length = L := ⟨_, rfl⟩
  have HLL : Hid (s0.C.length = L) := hL
  obtain ⟨G, hG⟩ : ∃ G, s0.g = G := ⟨_, rfl⟩
  have HGG : Hid (s0.g = G) := hG
  have hGL : G ≤ L := by have := HGL.out; omega
  have HZB : Hid ((ivs (fl slots.zB)).length = 594) := (ivs_vs slots.zB_wf.length).len
  have HZE : Hid ((ivs [0, 0, 0]).length = 3) := rfl
  have HDO : Hid (∀ k, k < L → ∀ u, Calls Try.prog 30 #[agv (ivs (fl (bdn s0.C k))), agv (ivs (cm4 (cmi s0.C k)))] u fun r w' => r = .returned (.tuple #[agv (ivs (fl (bdn s0.C (k + 1)))), .int .i64 (asi s0.C k).c, .int .i64 (asi s0.C k).n]) ∧ Below u.heap.size u w') := fun k hk u => by
    have hpk : Pk (cmi s0.C k) := by
      refine HI.out.pk _ ?_
      unfold cmi
      rw [List.getD_eq_getElem?_getD, List.getElem?_eq_getElem (by omega)]
      exact List.getElem_mem _
    exact slots.do_any (bdn s0.C k) _ _ _ _ u (bdn_wf _ k) (by have := hpk.a0; omega) (by have := hpk.a1; omega)
  clear HNH hany hL hG
  go_enter Try.func7, Try.ntmps7
  repeat' (first | go_values | go_skip | go_guarded | go_step | go_upon | (simp only [Int.not_lt, Int.not_le] at *; go_simp))
  refine (HPL.out _ hM.below).mono ?_
  rintro r u1 ⟨vc, ve, gv, tv, rfl, ht, hg, ho⟩
  have H3 : Hid (Vs (mvl vc ve (mcs p q s0)) 606) := mvl_vs (rcs_one ht.c.rcs) (rcs_one ht.e.rcs) hI.w
  have HU1 : Hid (Below w.heap.size w u1) := (hM.call ht.below).below
  clear hM
  have hM := Mv.nil u1
  have HG : Hid (∀ W, Below u1.heap.size u1 W → Rds 3 W gv ((rpd s0).map evL)) := fun W hW => hg.below hW
  have HO : Hid (∀ W, Below u1.heap.size u1 W → Rds 1 W tv ((plt p q ps0 T).map one1)) := fun W hW => ho.below hW
  obtain ⟨ga, gc, hgv, hgl, hgm⟩ := hg.form
  rw [List.length_map, HGL.out.1, HGG.out] at hgv hgl
  subst hgv
  obtain ⟨ta, tl, tc, rfl⟩ : ∃ a n c, tv = .slice a n c := by obtain ⟨a, c, h, _⟩ := ho.form; exact ⟨_, _, _, h⟩
  clear ht hg ho hI
  repeat' (first | (go_big_may; first | (refine v_alloc rfl zer_mach rfl ?_; intro u xm hN; replace hM := hM.new hN (by decide); clear hN) | (refine v_fill rfl rfl row_mach rfl rfl hM.at0 H3.out HZ.out ?_; intro u hv hc; replace hM := hM.put0 hc hv; clear hv hc)) | go_values | go_skip | go_guarded | go_step | go_upon | (simp only [Int.not_lt, Int.not_le] at *; go_simp))
  refine (HLV.out _).mono ?_
  rintro r u2 ⟨rfl, hv⟩
  replace hM := hM.call hv
  clear hv
  repeat' (first | go_values | go_skip | go_guarded | go_step | go_upon | (simp only [Int.not_lt, Int.not_le] at *; go_simp))
  refine (HCO.out _ (bsq HU1.out hM.below)).mono ?_
  rintro r u3 ⟨rfl, hv⟩
  replace hM := hM.call hv
  clear hv
  repeat' (first | go_values | go_skip | go_guarded | go_step | go_upon | (simp only [Int.not_lt, Int.not_le] at *; go_simp))
  refine (HTK.out _ _ (bsq HU1.out hM.below) (HO.out _ hM.below)).mono ?_
  rintro r u4 ⟨lv, rfl, hl4, hb⟩
  replace hM := hM.call hb
  have HLQ : Hid (∀ W, Below u4.heap.size u4 W → Rds 4 W lv (s0.C.map cm4)) := fun W hW => hl4.below hW
  obtain ⟨la, lc, hlv, hl5, hl6⟩ := hl4.form
  rw [List.length_map, HLL.out] at hlv hl5
  subst hlv
  unfold maxLen at hl6 hgm
  have HU4 : Hid (Below u1.heap.size u1 u4) := hM.below
  clear hb hl4 hM
  have hM := Mv.nil u4
  have e5 : decide ((L : Int) < (G : Int)) = false := by simp; omega
  repeat' (first | (go_big_may; first | (refine v_alloc rfl zer_board rfl ?_; intro u xb hN; replace hM := hM.new hN (by decide); clear hN)) | go_values | go_skip | go_guarded | go_step | go_upon | (simp only [Int.not_lt, Int.not_le] at *; go_simp))
  rename World => u5
  have HC0 : Hid (Mv u4 u5 [(xb, 41, ivs (fl (bdn s0.C 0)))] []) := hM
  clear hM H3
  go_loopw [14, 15, 16, 17, 64] (fun _ _ _ _ i wr => ∃ k : Nat, k ≤ G ∧ i = .int .i64 (k : Int) ∧ Hid (Mv u4 wr [(xb, 41, ivs (fl (bdn s0.C k)))] [])) (fun _ _ _ _ i _ => G - (intOf i).toNat)
  case atStart => exact ⟨0, Nat.zero_le _, rfl, HC0.out⟩
  case round =>
    obtain ⟨k, hk, rfl, HA⟩ := hrel
    have hM := HA.out
    by_cases hlt : ¬ k < G
    · have e3 : decide ((k : Int) < (G : Int)) = false := by simp; omega
      clear HC0 HA
      repeat' (first | go_values | go_skip | go_guarded | go_step | go_upon | (simp only [Int.not_lt, Int.not_le] at *; go_simp))
      go_ret
      exact ⟨rfl, bsq HU1.out (bsq HU4.out hM.below)⟩
    have hlt : k < G := by omega
    have hkL : k < L := by omega
    have e3 : decide ((k : Int) < (G : Int)) = true := by simp; omega
    obtain ⟨x, hx⟩ : ∃ x, (rpd s0)[k]? = some x := ⟨_, List.getElem?_eq_getElem (by have := HGL.out; have := HGG.out; omega)⟩
    have hxE : s0.E[k]? = some x := by
      unfold rpd at hx
      rw [List.getElem?_take] at hx
      split at hx
      · exact hx
      · cases hx
    have hxv := HN.out.e k x hxE
    obtain ⟨g, off, hga, hrg⟩ := (HG.out u1 (Below.refl _ _)).at k (evL x) (by rw [List.getElem?_map, hx]; rfl)
    subst hga
    have HRG : Hid (wr.rangeAt g (off + k * 3) (ivs (evL x))) := hrg wr (bsq HU4.out hM.below)
    obtain ⟨g2, off2, hla, hrg2⟩ := (HLQ.out u4 (Below.refl _ _)).at k (cm4 (cmi s0.C k)) (by
      rw [List.getElem?_map]
      have : s0.C[k]? = some (cmi s0.C k) := by
        unfold cmi
        rw [List.getD_eq_getElem?_getD, List.getElem?_eq_getElem (by have := HLL.out; omega)]
        rfl
      rw [this]; rfl)
    subst hla
    have HRL : Hid (∀ W, Below u4.heap.size u4 W → W.rangeAt g2 (off2 + k * 4) (ivs (cm4 (cmi s0.C k)))) := hrg2
    have HD : Hid (∀ u, Calls Try.prog 30 #[agv (ivs (fl (bdn s0.C k))), agv (ivs (cm4 (cmi s0.C k)))] u fun r w' => r = .returned (.tuple #[agv (ivs (fl (bdn s0.C (k + 1)))), .int .i64 (asi s0.C k).c, .int .i64 (asi s0.C k).n]) ∧ Below u.heap.size u w') := HDO.out k hkL
    have HB1 : Hid (Vs (ivs (fl (bdn s0.C k))) 594) := ivs_vs (bdn_wf _ k).length
    have HB2 : Hid (Vs (ivs (fl (bdn s0.C (k + 1)))) 594) := ivs_vs (bdn_wf _ (k + 1)).length
    have HLB : Hid (0 + 594 ≤ (ivs (fl (bdn s0.C k))).length) := by show _ ≤ _; rw [HB1.out.len]; exact Nat.le_refl _
    have HAB : Hid (cv (ivs (fl (bdn s0.C k))) 0 594 = ivs (fl (bdn s0.C k))) := cv_all HB1.out.len
    have HNX : Hid (∃ Y, ivs (fl (bdn s0.C (k + 1))) = Y) := ⟨_, rfl⟩
    have HC4L : Hid ((ivs (cm4 (cmi s0.C k))).length = 4) := rfl
    have hEL : evL x = [(asi s0.C k).c, (asi s0.C k).n, ((k % p : Nat) : Int)] := by rw [hxv]; rfl
    rw [hEL] at HRG
    obtain ⟨r, hr⟩ : ∃ r : Int, ((k % p : Nat) : Int) = r := ⟨_, rfl⟩
    rw [hr] at HRG
    have hrb : 0 ≤ r ∧ r ≤ 63 := by have := Nat.mod_lt k (show 0 < p by omega); omega
    obtain ⟨P, hP⟩ : ∃ P : Int, cc - 1 = P := ⟨_, rfl⟩
    have hPp : P = (p : Int) := by have := HCP.out; omega
    have hmod : (k : Int) % P = r := by rw [hPp, ← hr]; rfl
    have htm : Int.tmod (k : Int) P = r := by rw [Int.tmod_eq_emod_of_nonneg (by omega)]; exact hmod
    have hP0 : (P == 0) = false := by simp; omega
    have hP1 : 2 ≤ P := by omega
    have hP2 : P ≤ 63 := by omega
    have hcb : 3 ≤ cc := by have := HCP.out; omega
    have hcb2 : cc ≤ 64 := by have := HCP.out; omega
    obtain ⟨hr0, hr1⟩ := hrb
    generalize hdc : (asi s0.C k).c = dc at *
    generalize hdn : (asi s0.C k).n = dq at *
    generalize hBN : ivs (fl (bdn s0.C (k + 1))) = BN at *
    have HBN : Hid (ivs (fl (bdn s0.C (k + 1))) = BN) := hBN
    generalize hBO : ivs (fl (bdn s0.C k)) = BO at *
    generalize hCM : ivs (cm4 (cmi s0.C k)) = CM at *
    have HEV3 : Hid (Vs (ivs [dc, dq, r]) 3) := ivs_vs rfl
    have hneq : ∀ u, (binOp .neq 52 (ev3 dc dq r) (ev3 dc dq r)).run Try.prog u = .ok (.bool false) u := fun u => by rw [neq_ev, decide_eq_true rfl]; rfl
    clear hdc hdn hBN hBO hCM hEL hxv hxE hx hrg hrg2 HC0 HA HNX hPp hr
    go_upto_region 10 with (fail)
    repeat' (first | (go_big_may; first | (refine v_ldR rfl rfl row_event rfl HRG.out HEV3.out.len ?_) | (refine v_alloc rfl zer_event rfl ?_; intro u xe hN; replace hM := hM.new hN (by decide); clear hN) | (refine v_fill rfl rfl row_event rfl rfl hM.at0 HEV3.out HZE.out ?_; intro u hv hc; replace hM := hM.put0 hc hv; clear hv hc)) | go_values | go_skip | go_guarded | go_step | go_upon | (simp only [Int.not_lt, Int.not_le] at *; go_simp))
    go_simp
    rename World => u6
    refine wp_abs (fun a0 => a0.tmps.size = 89 ∧ (∀ h, a0.tmps[13]'h = .pointer (some ⟨xb, 0, none⟩)) ∧ (∀ h, a0.tmps[11]'h = .slice (some ⟨g2, off2, none⟩) L lc) ∧ (∀ h, a0.tmps[14]'h = .int .i64 (k : Int))) ⟨rfl, fun _ => rfl, fun _ => rfl, fun _ => rfl⟩ ?_
    rintro a0 ⟨hsz, s13, s11, s14⟩ ha0
    refine wp_region_held (S := fun W => Below u4.heap.size u4 W) (by kernel_rfl) ?_
    have hM6 := hM.drew
    have hS0 : Below u4.heap.size u4 _ := hM6.below
    have hki : (k : Int) < (L : Int) := by omega
    refine h_take (i := 1) (.slice (some ⟨g2, off2, none⟩) L lc) rfl (by kernel_rfl) (by kernel_rfl) (by kernel_rfl) (fun _ _ _ h => h) rfl hS0 (fun W hW => by simp [execOp, go_sem, Act.put, hsz, s13, s11, s14]) ?_
    refine h_take (i := 2) (.int .i64 (k : Int)) rfl (by kernel_rfl) (by kernel_rfl) (by kernel_rfl) (fun _ _ _ h => h) rfl hS0 (fun W hW => by simp [execOp, go_sem, Act.put, hsz, s13, s11, s14]) ?_
    refine h_take (i := 3) (.pointer (some ⟨g2, off2 + k * 4, none⟩)) rfl (by kernel_rfl) (by kernel_rfl) (by kernel_rfl) (fun _ _ _ h => h) rfl hS0 (fun W hW => by simp [execOp, go_sem, Act.put, hsz, s13, s11, s14, hki, hkL]) ?_
    refine h_take (i := 4) (agv CM) rfl (by kernel_rfl) (by kernel_rfl) (by kernel_rfl) (fun _ _ _ h => h) rfl hS0 (fun W hW => ex_ldR rfl row_cmd (by simp [go_sem, Act.put, hsz]) (HRL.out W hW) HC4L.out) ?_
    refine h_value (i := 0) (w' := _) (agv BO) rfl (by kernel_rfl) rfl (ex_loadv rfl row_board (by simp [go_sem, Act.put, hsz, s13]) hM6.at1 HLB.out HAB.out) hS0 ?_
    refine h_call (i := 5) 30 #[agv BO, agv CM] rfl (by kernel_rfl) rfl (by simp [execOp, go_sem, Act.put, hsz, s13, s11, s14]) ((HD.out _).mono ?_)
    rintro e u7 ⟨rfl, hb⟩
    have hM7 := hM6.call hb
    have hS1 : Below u4.heap.size u4 u7 := hM7.below
    refine ⟨_, rfl, hS1, ?_⟩
    refine h_take (i := 6) (.tuple #[agv BN, .int .i64 dc, .int .i64 dq]) rfl (by kernel_rfl) (by kernel_rfl) (by kernel_rfl) (fun _ _ _ h => h) rfl hS1 (fun W hW => by simp [execOp, go_sem, Act.put, hsz, s13, s11, s14]) ?_
    refine h_take (i := 7) (agv BN) rfl (by kernel_rfl) (by kernel_rfl) (by kernel_rfl) (fun _ _ _ h => h) rfl hS1 (fun W hW => by simp [execOp, go_sem, Act.put, hsz, s13, s11, s14]) ?_
    refine h_take (i := 8) (.int .i64 dc) rfl (by kernel_rfl) (by kernel_rfl) (by kernel_rfl) (fun _ _ _ h => h) rfl hS1 (fun W hW => by simp [execOp, go_sem, Act.put, hsz, s13, s11, s14]) ?_
    refine h_take (i := 9) (.int .i64 dq) rfl (by kernel_rfl) (by kernel_rfl) (by kernel_rfl) (fun _ _ _ h => h) rfl hS1 (fun W hW => by simp [execOp, go_sem, Act.put, hsz, s13, s11, s14]) ?_
    refine h_fillv (i := 10) rfl (by kernel_rfl) rfl rfl row_board (by simp [go_sem, Act.put, hsz, s13]) (by simp [go_sem, Act.put, hsz]) hM7.at1 HB2.out HB1.out.len (fun u8 hl8 hc8 => ?_)
    have hM8 := hM7.put1 hc8 hl8
    clear hl8 hc8
    refine ⟨hM8.below, ?_⟩
    refine h_take (i := 11) (.int .i64 dc) rfl (by kernel_rfl) (by kernel_rfl) (by kernel_rfl) (fun _ _ _ h => h) rfl hM8.below (fun W hW => by simp [execOp, go_sem, Act.put, hsz, s13, s11, s14]) ?_
    refine h_take (i := 12) (.int .i64 dq) rfl (by kernel_rfl) (by kernel_rfl) (by kernel_rfl) (fun _ _ _ h => h) rfl hM8.below (fun W hW => by simp [execOp, go_sem, Act.put, hsz, s13, s11, s14]) ?_
    refine wpAnyH_done (by kernel_rfl) ?_ _
    subst ha0
    clear hsz s13 s11 s14 hS0 hS1 hM hM6 hM7 hb
    have x0 := bv_cell hM8.at0 (show (ivs [dc, dq, r])[0]? = some (.int .i64 dc) from rfl)
    have x1 := bv_cell hM8.at0 (show (ivs [dc, dq, r])[1]? = some (.int .i64 dq) from rfl)
    have x2 := bv_cell hM8.at0 (show (ivs [dc, dq, r])[2]? = some (.int .i64 r) from rfl)
    have HM8 : Hid (Mv u4 u8 [(xe, 52, ivs [dc, dq, r]), (xb, 41, BN)] []) := hM8
    clear hM8
    go_simp
    go_wp2_with fail
    go_quiet (fail)
    go_wp2
    go_roundw
    case rel =>
      refine ⟨k + 1, by omega, by go_num, ?_⟩
      rw [HBN.out]
      exact HM8.out.tail.call (below_drewN (Below.refl _ _) _)
    case measure => simp [intOf]; omega
theorem walk (cc ee : Int) (v : Value) (T : List Dd) (wc : (Lit.int .i64 cc).wf = true) (we : (Lit.int .i64 ee).wf = true) (w : World) (hv : Rds 8 w v (T.map ddL)) : Calls Try.prog 7 #[.int .i64 cc, .int .i64 ee, v] w fun r w' => r = .returned (.bool true) ∧ Below w.heap.size w w' := walk0 cc ee v T w hv
end Go.Proofs.Ythjmcopknkemnaa.hostOnce
