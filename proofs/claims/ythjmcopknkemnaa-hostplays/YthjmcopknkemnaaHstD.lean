/- host: what isNoCmd, isNoEvent, isRight and copied answer. -/
import Derived.Test.YthjmcopknkemnaaHstC
import Derived.Test.YthjmcopknkemnaaSltD
import Derived.Shelf.Abstract
namespace Go.Proofs.Ythjmcopknkemnaa.host
open Go Go.RowKit
open Go.Proofs.Ythjmcopknkemnaa
open Go.Proofs.Ythjmcopknkemnaa.slots (Row row_board row_cmd Chg ag fl Wf bsq)
open Go.Proofs.Ythjmcopknkemnaa.ring (Ces Rcs rgV rgW Rg Ce ceV named keep)
set_option linter.unusedVariables false
set_option linter.unusedSimpArgs false
set_option maxRecDepth 100000

abbrev ceL (x : Ce) : List Value := [.int .u64 x.1, .int .i64 x.2.1, .bool x.2.2]
set_option maxHeartbeats 2000000 in
theorem isNoCmd_any (x : Ce) (w : World) (h0 : 0 ≤ x.1) (h1 : x.1 < 18446744073709551616) : Calls Try.prog 59 #[ceV x.1 x.2.1 x.2.2] w fun e w' => e = .returned (.bool (!cwB x.1)) ∧ Below w.heap.size w w' := by
  obtain ⟨xw, xb, xl⟩ := x
  simp only at h0 h1 ⊢
  have HU : Hid (∀ u, Calls Try.prog 11 #[.int .u64 xw] u fun e w' => e = .returned (.tuple #[cmV (upV xw), .int .i64 (upC xw)]) ∧ Below u.heap.size u w') := fun u => unpack_any xw u h0 h1
  have hc : (upC xw != 0) = !cwB xw := by unfold upC; cases cwB xw <;> rfl
  generalize upC xw = k at *
  have HV : Hid (Vs (ivs [(upV xw).1, (upV xw).2.1, (upV xw).2.2.1, (upV xw).2.2.2]) 4) := ivs_vs rfl
  have HL : Hid ((ivs [0, 0, 0, 0]).length = 4) := rfl
  obtain ⟨V, hV⟩ : ∃ V, ivs [(upV xw).1, (upV xw).2.1, (upV xw).2.2.1, (upV xw).2.2.2] = V := ⟨_, rfl⟩
  unfold cmV at HU
  rw [hV] at HU HV
  clear hV
  obtain ⟨w1, hw1, hX1, hb1⟩ := named w (.cells #[.int .u64 xw, .int .i64 xb, .bool xl] 91)
  obtain ⟨⟨hz, x0, x1, x2⟩, _⟩ := ring.box3 hX1
  have HB1 : Hid (Below w.heap.size w w1) := hb1
  have hM := Mv.nil w1
  clear hb1 hX1 h0 h1
  go_enter Try.func59, Try.ntmps59
  go_wp2_with fail
  refine (HU.out _).mono ?_
  rintro r u1 ⟨rfl, hv⟩
  replace hM := hM.call hv
  clear hv x0 x1 x2 hw1
  repeat' (first | (go_big_may; first | (refine v_alloc rfl zer_cmd rfl ?_; intro u zb hN; replace hM := hM.new hN (by decide); clear hN) | (refine v_fill rfl rfl row_cmd rfl rfl hM.at0 HV.out HL.out ?_; intro u hv hc; replace hM := hM.put0 hc hv; clear hv hc)) | go_values | go_skip | go_guarded | go_step | go_upon | (simp only [Int.not_lt, Int.not_le] at *; go_simp))
  go_ret
  exact ⟨rfl, bsq HB1.out hM.below⟩
theorem isNoEvent_any (x : Ce) (w : World) (h0 : 0 ≤ x.1) (h1 : x.1 < 18446744073709551616) : Calls Try.prog 60 #[ceV x.1 x.2.1 x.2.2] w fun e w' => e = .returned (.bool (!ewB x.1)) ∧ Below w.heap.size w w' := by
  obtain ⟨xw, xb, xl⟩ := x
  simp only at h0 h1 ⊢
  obtain ⟨w1, hw1, hX1, hb1⟩ := named w (.cells #[.int .u64 xw, .int .i64 xb, .bool xl] 91)
  obtain ⟨⟨hz, x0, x1, x2⟩, _⟩ := ring.box3 hX1
  have HB1 : Hid (Below w.heap.size w w1) := hb1
  have hc : (xw / 16777216 != 0) = !ewB xw := by
    unfold ewB
    rw [Bool.eq_iff_iff]
    simp only [bne_iff_ne, ne_eq, Bool.not_eq_true', decide_eq_false_iff_not]
    omega
  clear hb1 hX1 h0 h1
  go_enter Try.func60, Try.ntmps60
  go_wp2
  go_ret
  exact ⟨by rw [← hc]; rfl, HB1.out⟩
theorem any_at {L : List Ce} {f : Ce → Bool} {k : Nat} {x : Ce} (h : L[k]? = some x) : (L.drop k).any f = (f x || (L.drop (k + 1)).any f) := by
  have hk := (List.getElem?_eq_some_iff.1 h).1
  have hx := (List.getElem?_eq_some_iff.1 h).2
  rw [List.drop_eq_getElem_cons hk, hx]
  rfl
set_option maxHeartbeats 2000000 in
theorem indexF_any (F : FuncId) (f : Ce → Bool) (v : Value) (L : List Ce) (w : World) (hv : Rcs w v L) (hl : L.length ≤ 64)
    (eg : ∀ args w, (callFunc F args).run Try.prog w = .ok (.enter F args) w)
    (hF : ∀ (x : Ce), x ∈ L → ∀ (u : World), Calls Try.prog F #[ceV x.1 x.2.1 x.2.2] u fun e w' => e = .returned (.bool (f x)) ∧ Below u.heap.size u w') :
    Calls Try.prog 82 #[v, .func (.func F) #[] #[]] w fun e w' => ∃ i : Int, e = .returned (.int .i64 i) ∧ decide (0 ≤ i) = L.any f ∧ Below w.heap.size w w' := by
  obtain ⟨a, c, rfl, hlc, hcm⟩ := hv.form
  obtain ⟨n, hn⟩ : ∃ n, L.length = n := ⟨_, rfl⟩
  have HN : Hid (L.length = n) := hn
  rw [hn] at hv hlc hl ⊢
  have HR : Hid (Rcs w (.slice a n c) L) := hv
  have HF : Hid (∀ (x : Ce), x ∈ L → ∀ (u : World), Calls Try.prog F #[ceV x.1 x.2.1 x.2.2] u fun e w' => e = .returned (.bool (f x)) ∧ Below u.heap.size u w') := hF
  obtain ⟨q, hq⟩ : ∃ q, L.any f = q := ⟨_, rfl⟩
  have HQ : Hid (L.any f = q) := hq
  rw [hq]
  unfold maxLen at hcm
  clear hv hn hF hq
  go_enter Try.func82, Try.ntmps82
  go_wp2
  go_loopw [8] (fun i wr => ∃ (k : Nat), k ≤ n ∧ i = .int .i64 (k : Int) ∧ Below w.heap.size w wr ∧ Hid ((L.drop k).any f = q)) (fun i _ => n - (intOf i).toNat)
  case atStart => exact ⟨0, Nat.zero_le _, rfl, Below.refl _ _, HQ.out⟩
  case round =>
    obtain ⟨k, hk, rfl, hbr, HA⟩ := hrel
    have HBr : Hid (Below w.heap.size w wr) := hbr
    by_cases hlt : ¬ k < n
    · have HQ2 : Hid (false = q) := by
        have h1 := HA.out
        rw [List.drop_eq_nil_of_le (by have := HN.out; omega)] at h1
        exact h1
      clear hbr HA HQ
      go_wp2
      go_ret
      rw [← HQ2.out]
      exact ⟨-1, rfl, rfl, HBr.out⟩
    have hlt : k < n := by omega
    obtain ⟨x, hx⟩ : ∃ x, L[k]? = some x := ⟨_, List.getElem?_eq_getElem (by have := HN.out; omega)⟩
    have HA2 : Hid ((f x || (L.drop (k + 1)).any f) = q) := by have := HA.out; rw [any_at hx] at this; exact this
    obtain ⟨g, off, rfl, hcell⟩ := HR.out.at k x hx
    obtain ⟨c0, c1, c2⟩ := hcell wr hbr
    have HC := HF.out x (List.mem_of_getElem? hx) wr
    obtain ⟨xw, xb, xl⟩ := x
    simp only at c0 c1 c2 HA2 HC
    obtain ⟨b, hb⟩ : ∃ b, f (xw, xb, xl) = b := ⟨_, rfl⟩
    rw [hb] at HC HA2
    have HC2 : Hid (Calls Try.prog F #[ceV xw xb xl] wr fun e w' => e = .returned (.bool b) ∧ Below wr.heap.size wr w') := HC
    clear hcell hx hbr HA HC hb
    cases b with
    | true =>
      have HQ2 : Hid (true = q) := HA2.out
      clear HA2 HQ
      go_wp2_with fail
      refine HC2.out.mono ?_
      rintro e u ⟨rfl, hb⟩
      have HB : Hid (Below w.heap.size w u) := bsq HBr.out hb
      clear hb
      go_wp2
      go_ret
      rw [← HQ2.out]
      exact ⟨(k : Int), rfl, by simp, HB.out⟩
    | false =>
      have HA3 : Hid ((L.drop (k + 1)).any f = q) := HA2.out
      clear HA2
      go_wp2_with fail
      refine HC2.out.mono ?_
      rintro e u ⟨rfl, hb⟩
      have HB : Hid (Below w.heap.size w u) := bsq HBr.out hb
      clear hb
      go_wp2
      go_roundw
      case rel => exact ⟨k + 1, by omega, by go_num, HB.out, HA3.out⟩
      case measure => simp [intOf]; omega
theorem containsF_any (F : FuncId) (f : Ce → Bool) (v : Value) (L : List Ce) (w : World) (hv : Rcs w v L) (hl : L.length ≤ 64)
    (eg : ∀ args w, (callFunc F args).run Try.prog w = .ok (.enter F args) w)
    (hF : ∀ (x : Ce), x ∈ L → ∀ (u : World), Calls Try.prog F #[ceV x.1 x.2.1 x.2.2] u fun e w' => e = .returned (.bool (f x)) ∧ Below u.heap.size u w') :
    Calls Try.prog 58 #[v, .func (.func F) #[] #[]] w fun e w' => e = .returned (.bool (L.any f)) ∧ Below w.heap.size w w' := by
  obtain ⟨a, c, rfl, _⟩ := hv.form
  have HI : Hid (Calls Try.prog 82 #[.slice a L.length c, .func (.func F) #[] #[]] w fun e w' => ∃ i : Int, e = .returned (.int .i64 i) ∧ decide (0 ≤ i) = L.any f ∧ Below w.heap.size w w') := indexF_any F f _ L w hv hl eg hF
  generalize L.any f = q at *
  clear hv hF eg
  go_enter Try.func58, Try.ntmps58
  go_wp2_with fail
  refine HI.out.mono ?_
  rintro e u ⟨i, rfl, hi, hb⟩
  have HB : Hid (Below w.heap.size w u) := hb
  clear hb HI
  go_wp2
  go_ret
  exact ⟨by first | rfl | rw [hi], HB.out⟩
set_option maxHeartbeats 4000000 in
theorem isRight_any (vc ve : Value) (m : Mc) (w : World) (hc : Rcs w vc m.c.C) (he : Rcs w ve m.e.C) (hB : Wf m.B) (hwc : Ws m.c.C) (hwe : Ws m.e.C) :
    Calls Try.prog 36 #[agv (mvl vc ve m)] w fun e w' => e = .returned (.bool (rtB m)) ∧ Below w.heap.size w w' := by
  have hM : Mv w w [] [(false, vc, m.c.C), (false, ve, m.e.C)] := ((Mv.nil w).old he).old hc
  have HV : Hid (Vs (mvl vc ve m) 606) := mvl_vs (rcs_one hc) (rcs_one he) hB
  have E0 : Hid (0 + 6 ≤ (mvl vc ve m).length) := by show _ ≤ _; rw [HV.out.len]; omega
  have E6 : Hid (6 + 6 ≤ (mvl vc ve m).length) := by show _ ≤ _; rw [HV.out.len]; omega
  have E12 : Hid (12 + 594 ≤ (mvl vc ve m).length) := by show _ ≤ _; rw [HV.out.len]; exact Nat.le_refl _
  have C0 : Hid (cv (mvl vc ve m) 0 6 = rgl vc m.c) := cv_c vc ve m
  have C6 : Hid (cv (mvl vc ve m) 6 6 = rgl ve m.e) := cv_e vc ve m
  have C12 : Hid (cv (mvl vc ve m) 12 594 = ivs (fl m.B)) := cv_b vc ve hB
  have Q0 : Hid ((mvl vc ve m)[0]? = some vc) := rfl
  have Q6 : Hid ((mvl vc ve m)[6]? = some ve) := rfl
  have K1 : Hid (∀ u, Rcs u vc m.c.C → Calls Try.prog 57 #[agv (rgl vc m.c)] u fun e w' => e = .returned (.int .i64 (ring.chk m.c)) ∧ Below u.heap.size u w') := fun u h => ring.check_any vc m.c u h
  have K2 : Hid (∀ u, Rcs u ve m.e.C → Calls Try.prog 57 #[agv (rgl ve m.e)] u fun e w' => e = .returned (.int .i64 (ring.chk m.e)) ∧ Below u.heap.size u w') := fun u h => ring.check_any ve m.e u h
  have K3 : Hid (∀ u, Calls Try.prog 53 #[agv (ivs (fl m.B))] u fun e w' => e = .returned (.int .i64 (slots.chE m.B)) ∧ Below u.heap.size u w') := fun u => slots.check_any m.B u hB
  have K4 : Hid (ring.chk m.c = 0 → ∀ u, Rcs u vc m.c.C → Calls Try.prog 58 #[vc, .func (.func 59) #[] #[]] u fun e w' => e = .returned (.bool (!wC m.c.C)) ∧ Below u.heap.size u w') := fun h0 u h => by
    have := containsF_any 59 (fun x => !cwB x.1) vc m.c.C u h (ring.chk_ok.1 h0).n64 (enters_of Try.func59 (by kernel_rfl) rfl) (fun x hx v => isNoCmd_any x v (hwc x hx).1 (hwc x hx).2)
    rw [show m.c.C.any (fun x => !cwB x.1) = !wC m.c.C by unfold wC; rw [List.not_all_eq_any_not]] at this
    exact this
  have K5 : Hid (ring.chk m.e = 0 → ∀ u, Rcs u ve m.e.C → Calls Try.prog 58 #[ve, .func (.func 60) #[] #[]] u fun e w' => e = .returned (.bool (!wE m.e.C)) ∧ Below u.heap.size u w') := fun h0 u h => by
    have := containsF_any 60 (fun x => !ewB x.1) ve m.e.C u h (ring.chk_ok.1 h0).n64 (enters_of Try.func60 (by kernel_rfl) rfl) (fun x hx v => isNoEvent_any x v (hwe x hx).1 (hwe x hx).2)
    rw [show m.e.C.any (fun x => !ewB x.1) = !wE m.e.C by unfold wE; rw [List.not_all_eq_any_not]] at this
    exact this
  have HR : Hid (rtB m = ((ring.chk m.c == 0) && ((ring.chk m.e == 0) && (slots.chk m.B && (wC m.c.C && wE m.e.C))))) := rfl
  have HK : Hid (slots.chE m.B = if slots.chk m.B = true then 0 else 4) := rfl
  generalize rtB m = R at *
  generalize ring.chk m.c = k1 at *
  generalize ring.chk m.e = k2 at *
  generalize slots.chE m.B = k3 at *
  generalize slots.chk m.B = b3 at *
  generalize wC m.c.C = b4 at *
  generalize wE m.e.C = b5 at *
  generalize mvl vc ve m = V at *
  generalize rgl vc m.c = V1 at *
  generalize rgl ve m.e = V2 at *
  generalize ivs (fl m.B) = V3 at *
  clear hwc hwe hB hc he
  by_cases h1 : ¬ k1 = 0
  · have e1 : (k1 != 0) = true := by simpa using h1
    have e1' : (k1 == 0) = false := by simpa using h1
    have HQ : Hid (R = false) := by rw [e1'] at HR; exact HR.out
    rw [HQ.out]
    clear h1 e1' HR
    go_enter Try.func36, Try.ntmps36
    repeat' (first | (go_big_may; first | (refine v_box rfl rfl rfl ?_; intro u zb hN; replace hM := hM.new hN (by decide); clear hN) | (refine v_load rfl rfl row_ring rfl hM.at0 E0.out C0.out ?_)) | go_values | go_skip | go_guarded | go_step | go_upon | (simp only [Int.not_lt, Int.not_le] at *; go_simp))
    refine (K1.out _ (hM.read (b := false) (by simp))).mono ?_
    rintro r u1 ⟨rfl, hv⟩
    replace hM := hM.call hv
    clear hv
    repeat' (first | go_values | go_skip | go_guarded | go_step | go_upon | (simp only [Int.not_lt, Int.not_le] at *; go_simp))
    go_ret
    exact ⟨rfl, hM.below⟩
  have h1 : k1 = 0 := Classical.not_not.1 h1
  subst h1
  by_cases h2 : ¬ k2 = 0
  · have e1 : (k2 != 0) = true := by simpa using h2
    have e1' : (k2 == 0) = false := by simpa using h2
    have HQ : Hid (R = false) := by rw [e1'] at HR; exact HR.out
    rw [HQ.out]
    clear h2 e1' HR
    go_enter Try.func36, Try.ntmps36
    repeat' (first | (go_big_may; first | (refine v_box rfl rfl rfl ?_; intro u zb hN; replace hM := hM.new hN (by decide); clear hN) | (refine v_load rfl rfl row_ring rfl hM.at0 E0.out C0.out ?_)) | go_values | go_skip | go_guarded | go_step | go_upon | (simp only [Int.not_lt, Int.not_le] at *; go_simp))
    refine (K1.out _ (hM.read (b := false) (by simp))).mono ?_
    rintro r u1 ⟨rfl, hv⟩
    replace hM := hM.call hv
    clear hv
    repeat' (first | (go_big_may; first | (refine v_load rfl rfl row_ring rfl hM.at0 E6.out C6.out ?_)) | go_values | go_skip | go_guarded | go_step | go_upon | (simp only [Int.not_lt, Int.not_le] at *; go_simp))
    refine (K2.out _ (hM.read (b := false) (by simp))).mono ?_
    rintro r u2 ⟨rfl, hv⟩
    replace hM := hM.call hv
    clear hv
    repeat' (first | go_values | go_skip | go_guarded | go_step | go_upon | (simp only [Int.not_lt, Int.not_le] at *; go_simp))
    go_ret
    exact ⟨rfl, hM.below⟩
  have h2 : k2 = 0 := Classical.not_not.1 h2
  subst h2
  cases b3
  · have HQ : Hid (R = false) := HR.out
    have HK3 : Hid (k3 = 4) := HK.out
    rw [HK3.out] at K3
    rw [HQ.out]
    clear HR HK
    go_enter Try.func36, Try.ntmps36
    repeat' (first | (go_big_may; first | (refine v_box rfl rfl rfl ?_; intro u zb hN; replace hM := hM.new hN (by decide); clear hN) | (refine v_load rfl rfl row_ring rfl hM.at0 E0.out C0.out ?_)) | go_values | go_skip | go_guarded | go_step | go_upon | (simp only [Int.not_lt, Int.not_le] at *; go_simp))
    refine (K1.out _ (hM.read (b := false) (by simp))).mono ?_
    rintro r u1 ⟨rfl, hv⟩
    replace hM := hM.call hv
    clear hv
    repeat' (first | (go_big_may; first | (refine v_load rfl rfl row_ring rfl hM.at0 E6.out C6.out ?_)) | go_values | go_skip | go_guarded | go_step | go_upon | (simp only [Int.not_lt, Int.not_le] at *; go_simp))
    refine (K2.out _ (hM.read (b := false) (by simp))).mono ?_
    rintro r u2 ⟨rfl, hv⟩
    replace hM := hM.call hv
    clear hv
    repeat' (first | (go_big_may; first | (refine v_load rfl rfl row_board rfl hM.at0 E12.out C12.out ?_)) | go_values | go_skip | go_guarded | go_step | go_upon | (simp only [Int.not_lt, Int.not_le] at *; go_simp))
    refine (K3.out _).mono ?_
    rintro r u3 ⟨rfl, hv⟩
    replace hM := hM.call hv
    clear hv
    repeat' (first | go_values | go_skip | go_guarded | go_step | go_upon | (simp only [Int.not_lt, Int.not_le] at *; go_simp))
    go_ret
    exact ⟨rfl, hM.below⟩
  have HK3 : Hid (k3 = 0) := HK.out
  rw [HK3.out] at K3
  clear HK
  replace K4 : Hid (∀ u, Rcs u vc m.c.C → Calls Try.prog 58 #[vc, .func (.func 59) #[] #[]] u fun e w' => e = .returned (.bool (!b4)) ∧ Below u.heap.size u w') := fun u h => K4.out (by first | rfl | trivial) u h
  replace K5 : Hid (∀ u, Rcs u ve m.e.C → Calls Try.prog 58 #[ve, .func (.func 60) #[] #[]] u fun e w' => e = .returned (.bool (!b5)) ∧ Below u.heap.size u w') := fun u h => K5.out (by first | rfl | trivial) u h
  cases b4
  · have HQ : Hid (R = false) := HR.out
    rw [HQ.out]
    clear HR
    simp only [Bool.not_false] at K4
    go_enter Try.func36, Try.ntmps36
    repeat' (first | (go_big_may; first | (refine v_box rfl rfl rfl ?_; intro u zb hN; replace hM := hM.new hN (by decide); clear hN) | (refine v_load rfl rfl row_ring rfl hM.at0 E0.out C0.out ?_)) | go_values | go_skip | go_guarded | go_step | go_upon | (simp only [Int.not_lt, Int.not_le] at *; go_simp))
    refine (K1.out _ (hM.read (b := false) (by simp))).mono ?_
    rintro r u1 ⟨rfl, hv⟩
    replace hM := hM.call hv
    clear hv
    repeat' (first | (go_big_may; first | (refine v_load rfl rfl row_ring rfl hM.at0 E6.out C6.out ?_)) | go_values | go_skip | go_guarded | go_step | go_upon | (simp only [Int.not_lt, Int.not_le] at *; go_simp))
    refine (K2.out _ (hM.read (b := false) (by simp))).mono ?_
    rintro r u2 ⟨rfl, hv⟩
    replace hM := hM.call hv
    clear hv
    repeat' (first | (go_big_may; first | (refine v_load rfl rfl row_board rfl hM.at0 E12.out C12.out ?_)) | go_values | go_skip | go_guarded | go_step | go_upon | (simp only [Int.not_lt, Int.not_le] at *; go_simp))
    refine (K3.out _).mono ?_
    rintro r u3 ⟨rfl, hv⟩
    replace hM := hM.call hv
    clear hv
    repeat' (first | (go_big_may; first | (refine v_get rfl rfl (.inr rfl) rfl hM.at0 Q0.out ?_)) | go_values | go_skip | go_guarded | go_step | go_upon | (simp only [Int.not_lt, Int.not_le] at *; go_simp))
    refine (K4.out _ (hM.read (b := false) (by simp))).mono ?_
    rintro r u4 ⟨rfl, hv⟩
    replace hM := hM.call hv
    clear hv
    repeat' (first | go_values | go_skip | go_guarded | go_step | go_upon | (simp only [Int.not_lt, Int.not_le] at *; go_simp))
    go_ret
    exact ⟨rfl, hM.below⟩
  have HQ : Hid (R = b5) := by
    have := HR.out
    cases b5
    · exact this
    · exact this
  rw [HQ.out]
  clear HR
  simp only [Bool.not_true] at K4
  have HN : Hid ((!!b5) = b5) := Bool.not_not b5
  go_enter Try.func36, Try.ntmps36
  repeat' (first | (go_big_may; first | (refine v_box rfl rfl rfl ?_; intro u zb hN; replace hM := hM.new hN (by decide); clear hN) | (refine v_load rfl rfl row_ring rfl hM.at0 E0.out C0.out ?_)) | go_values | go_skip | go_guarded | go_step | go_upon | (simp only [Int.not_lt, Int.not_le] at *; go_simp))
  refine (K1.out _ (hM.read (b := false) (by simp))).mono ?_
  rintro r u1 ⟨rfl, hv⟩
  replace hM := hM.call hv
  clear hv
  repeat' (first | (go_big_may; first | (refine v_load rfl rfl row_ring rfl hM.at0 E6.out C6.out ?_)) | go_values | go_skip | go_guarded | go_step | go_upon | (simp only [Int.not_lt, Int.not_le] at *; go_simp))
  refine (K2.out _ (hM.read (b := false) (by simp))).mono ?_
  rintro r u2 ⟨rfl, hv⟩
  replace hM := hM.call hv
  clear hv
  repeat' (first | (go_big_may; first | (refine v_load rfl rfl row_board rfl hM.at0 E12.out C12.out ?_)) | go_values | go_skip | go_guarded | go_step | go_upon | (simp only [Int.not_lt, Int.not_le] at *; go_simp))
  refine (K3.out _).mono ?_
  rintro r u3 ⟨rfl, hv⟩
  replace hM := hM.call hv
  clear hv
  repeat' (first | (go_big_may; first | (refine v_get rfl rfl (.inr rfl) rfl hM.at0 Q0.out ?_)) | go_values | go_skip | go_guarded | go_step | go_upon | (simp only [Int.not_lt, Int.not_le] at *; go_simp))
  refine (K4.out _ (hM.read (b := false) (by simp))).mono ?_
  rintro r u4 ⟨rfl, hv⟩
  replace hM := hM.call hv
  clear hv
  repeat' (first | (go_big_may; first | (refine v_get rfl rfl (.inr rfl) rfl hM.at0 Q6.out ?_)) | go_values | go_skip | go_guarded | go_step | go_upon | (simp only [Int.not_lt, Int.not_le] at *; go_simp))
  refine (K5.out _ (hM.read (b := false) (by simp))).mono ?_
  rintro r u5 ⟨rfl, hv⟩
  replace hM := hM.call hv
  clear hv
  repeat' (first | go_values | go_skip | go_guarded | go_step | go_upon | (simp only [Int.not_lt, Int.not_le] at *; go_simp))
  go_ret
  exact ⟨by first | rfl | (rw [HN.out]), hM.below⟩
set_option maxHeartbeats 4000000 in
theorem copied_any (vc ve : Value) (m : Mc) (w : World) (hc : Rcs w vc m.c.C) (he : Rcs w ve m.e.C) (hB : Wf m.B) (hl1 : m.c.C.length ≤ 5864062014634) (hl2 : m.e.C.length ≤ 5864062014634) :
    Calls Try.prog 35 #[agv (mvl vc ve m)] w fun e w' => ∃ vc' ve', e = .returned (agv (mvl vc' ve' m)) ∧ Tl w vc' ve' m w' := by
  have hM : Mv w w [] [(false, vc, m.c.C), (false, ve, m.e.C)] := ((Mv.nil w).old he).old hc
  have HV : Hid (Vs (mvl vc ve m) 606) := mvl_vs (rcs_one hc) (rcs_one he) hB
  have Q0 : Hid ((mvl vc ve m)[0]? = some vc) := rfl
  have HS : Hid (∀ x y, mvl x y m = ((mvl vc ve m).set 0 x).set 6 y) := fun x y => rfl
  have Q6 : Hid (∀ x, ((mvl vc ve m).set 0 x)[6]? = some ve) := fun x => rfl
  have HC : Hid (∀ u, Rcs u vc m.c.C → Calls Try.prog 56 #[vc] u fun e w' => ∃ v', e = .returned v' ∧ Ces w' u.heap.size v' m.c.C ∧ Below u.heap.size u w') := fun u h => ring.cloneC_any vc m.c.C u h hl1
  have HE : Hid (∀ u, Rcs u ve m.e.C → Calls Try.prog 56 #[ve] u fun e w' => ∃ v', e = .returned v' ∧ Ces w' u.heap.size v' m.e.C ∧ Below u.heap.size u w') := fun u h => ring.cloneC_any ve m.e.C u h hl2
  have HVS : Hid (∀ (u1 u2 : World) x y, Rcs u1 x m.c.C → Rcs u2 y m.e.C → Vs (mvl x y m) 606) := fun u1 u2 x y h1 h2 => mvl_vs (rcs_one h1) (rcs_one h2) hB
  have HZ : Hid (zl.length = 606) := zl_vs.len
  clear hB hl1 hl2 hc he
  go_enter Try.func35, Try.ntmps35
  repeat' (first | (go_big_may; first | (refine v_box rfl rfl rfl ?_; intro u xm hN; replace hM := hM.new hN (by decide); clear hN) | (refine v_alloc rfl zer_mach rfl ?_; intro u xr hN; replace hM := hM.new hN (by decide); clear hN) | (refine v_get rfl rfl (.inr rfl) rfl hM.at1 Q0.out ?_)) | go_values | go_skip | go_guarded | go_step | go_upon | (simp only [Int.not_lt, Int.not_le] at *; go_simp))
  refine (HC.out _ (hM.read (b := false) (by simp))).mono ?_
  rintro r u1 ⟨v1, rfl, hv, hb⟩
  replace hM := hM.tel hv hb
  clear hb hv
  obtain ⟨a1, n1, c1, rfl⟩ : ∃ a n c, v1 = .slice a n c := by obtain ⟨a, c, h, _⟩ := (hM.read (b := true) (x := v1) (C := m.c.C) (by simp)).form; exact ⟨_, _, _, h⟩
  repeat' (first | (go_big_may; first | (refine v_put rfl rfl (.inr rfl) rfl rfl (.inr ⟨_, _, _, rfl⟩) hM.at1 (by rw [HV.out.len]; omega) ?_; intro u hv hc; replace hM := hM.put1 hc hv; clear hv hc) | (refine v_get rfl rfl (.inr rfl) rfl hM.at1 (Q6.out _) ?_)) | go_values | go_skip | go_guarded | go_step | go_upon | (simp only [Int.not_lt, Int.not_le] at *; go_simp))
  refine (HE.out _ (hM.read (b := false) (by simp))).mono ?_
  rintro r u2 ⟨v2, rfl, hv, hb⟩
  replace hM := hM.tel hv hb
  clear hb hv
  obtain ⟨a2, n2, c2, rfl⟩ : ∃ a n c, v2 = .slice a n c := by obtain ⟨a, c, h, _⟩ := (hM.read (b := true) (x := v2) (C := m.e.C) (by simp)).form; exact ⟨_, _, _, h⟩
  have H2 : Hid (Vs (mvl (.slice a1 n1 c1) (.slice a2 n2 c2) m) 606) := HVS.out _ _ _ _ (hM.read (b := true) (x := .slice a1 n1 c1) (C := m.c.C) (by simp)) (hM.read (b := true) (x := .slice a2 n2 c2) (C := m.e.C) (by simp))
  have H3 : Hid (6 < ((mvl vc ve m).set 0 (.slice a1 n1 c1)).length) := by show _ < _; rw [List.length_set, HV.out.len]; omega
  have H4 : Hid (0 + 606 ≤ (((mvl vc ve m).set 0 (.slice a1 n1 c1)).set 6 (.slice a2 n2 c2)).length) := by show _ ≤ _; rw [← HS.out, H2.out.len]; exact Nat.le_refl _
  have H5 : Hid (cv (((mvl vc ve m).set 0 (.slice a1 n1 c1)).set 6 (.slice a2 n2 c2)) 0 606 = mvl (.slice a1 n1 c1) (.slice a2 n2 c2) m) := by show _ = _; rw [← HS.out]; exact cv_all H2.out.len
  clear HS
  repeat' (first | (go_big_may; first | (refine v_put rfl rfl (.inr rfl) rfl rfl (.inr ⟨_, _, _, rfl⟩) hM.at1 H3.out ?_; intro u hv hc; replace hM := hM.put1 hc hv; clear hv hc) | (refine v_load rfl rfl row_mach rfl hM.at1 H4.out H5.out ?_) | (refine v_fill rfl rfl row_mach rfl rfl hM.at0 H2.out HZ.out ?_; intro u hv hc; replace hM := hM.put0 hc hv; clear hv hc)) | go_values | go_skip | go_guarded | go_step | go_upon | (simp only [Int.not_lt, Int.not_le] at *; go_simp))
  refine bodyPost_ret (slots.ret_1 Try.results35 rfl (ld_var row_mach hM.at0 H2.out.len)) rfl ⟨_, _, rfl, hM.mine (by simp), hM.mine (by simp), hM.below⟩
end Go.Proofs.Ythjmcopknkemnaa.host
