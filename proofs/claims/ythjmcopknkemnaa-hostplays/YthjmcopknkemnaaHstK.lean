/- host: what Play answers. -/
import Derived.Test.YthjmcopknkemnaaHstJ
import Derived.Test.YthjmcopknkemnaaSltL
namespace Go.Proofs.Ythjmcopknkemnaa.host
open Go Go.RowKit
open Go.Proofs.Ythjmcopknkemnaa
open Go.Proofs.Ythjmcopknkemnaa.slots (Row row_board row_cmd Chg ag fl Wf bsq balloc bx_lt)
open Go.Proofs.Ythjmcopknkemnaa.ring (Ces Rcs rgV rgW Rg Ce ceV named keep)
set_option linter.unusedVariables false
set_option linter.unusedSimpArgs false
set_option maxRecDepth 100000

/-- a deed's numbers -/
def ddL (d : Dd) : List Int := [d.1, d.2.1.1, d.2.1.2.1, d.2.1.2.2.1, d.2.1.2.2.2, d.2.2.1, d.2.2.2.1, d.2.2.2.2]
def evL (x : Ev) : List Int := [x.1, x.2.1, x.2.2]
def one1 (x : Int) : List Int := [x]
theorem row_deed : Row 73 8 := ⟨⟨_, Try.underlying73, rfl, by kernel_rfl⟩⟩
theorem zer_deed : Zer 73 (ivs [0, 0, 0, 0, 0, 0, 0, 0]) := ⟨by kernel_rfl⟩
theorem ret_c3 {fn : Func} {p i j k : Tmp} {t : TypeId} {tmps : Array Value} {w : World} {B : Nat} {v v1 v2 v3 : Value} (h : fn.results = #[.cell p t, .tmp i, .tmp j, .tmp k]) (hp : tmps.getD p undef = .pointer (some ⟨B, 0, none⟩)) (hl : (loadVar t ⟨B, 0, none⟩).run Try.prog w = .ok v w)
    (h1 : tmps.getD i undef = v1) (h2 : tmps.getD j undef = v2) (h3 : tmps.getD k undef = v3) : (results fn tmps).run Try.prog w = .ok (.tuple #[v, v1, v2, v3]) w := by
  have hp' : tmps[p]?.getD undef = .pointer (some ⟨B, 0, none⟩) := by simpa using hp
  have h1' : tmps[i]?.getD undef = v1 := by simpa using h1
  have h2' : tmps[j]?.getD undef = v2 := by simpa using h2
  have h3' : tmps[k]?.getD undef = v3 := by simpa using h3
  simp [results, h, hp', asAddr, hl, h1', h2', h3']
/-- Play -/
def ply (c e : Int) (T : List Dd) : Ps := pls (c.toNat - 1) (e.toNat - 1) ps0 T
def plC (c e : Int) (T : List Dd) : Int := if nmB c e = false then 1 else if 200 < T.length then 2 else 0
def plM (c e : Int) (T : List Dd) : Mc := if plC c e T = 0 then mcs (c.toNat - 1) (e.toNat - 1) (ply c e T) else zM
def plE (c e : Int) (T : List Dd) : List Ev := if plC c e T = 0 then rpd (ply c e T) else []
def plX (c e : Int) (T : List Dd) : List Int := if plC c e T = 0 then plt (c.toNat - 1) (e.toNat - 1) ps0 T else []
/-- where Play is in its rounds -/
structure Pli (w wr : World) (xm xr : Nat) (p q : Nat) (T : List Dd) (k : Nat) (gv tv : Value) (s : Ps) (old : List Int) : Prop where
  mo : ∃ vc ve, Mo w wr [(xm, 43, mvl vc ve (mcs p q s)), (xr, 43, zl)] [(true, vc, (mcs p q s).c.C), (true, ve, (mcs p q s).e.C)] [(52, 3, gv, (rpd s).map evL), (25, 1, tv, old.map one1)]
  iv : Iv p q s
  e1 : pls p q s (T.drop k) = pls p q ps0 T
  e2 : old ++ plt p q s (T.drop k) = plt p q ps0 T
  e3 : old.length ≤ k ∧ s.g ≤ k
theorem Iv.inn {w : World} {vc ve : Value} {p q : Nat} {s : Ps} (h : Iv p q s) (hc : Rcs w vc (mcs p q s).c.C) (he : Rcs w ve (mcs p q s).e.C) : In w vc ve (mcs p q s) := Fit.inn ⟨h.rt, h.w, h.wc, h.we⟩ hc he
theorem rpd_len (s : Ps) : (rpd s).length ≤ s.g := by unfold rpd; simp; omega
theorem wk_g {p q : Nat} : ∀ (n : Nat) (s : Ps), (wkS p q n s).g = s.g
  | 0, s => rfl
  | n + 1, s => by
    unfold wkS
    split
    · rw [wk_g n (wsV p s)]; rfl
    · rfl
theorem wr_g {p q : Nat} (s : Ps) (n : Int) : (wrS p q s n).g = s.g := by unfold wrS; split; exact wk_g _ _; rfl
theorem sb_g {p : Nat} (s : Ps) (x : Cm) : (sbS p s x).g = s.g := by unfold sbS; split <;> rfl
theorem rs_g (s : Ps) : (rsV s).g ≤ s.g + 1 := by unfold rsV; split <;> simp
set_option maxHeartbeats 16000000 in
theorem play_any (c e : Int) (v : Value) (T : List Dd) (w : World) (hv : Rds 8 w v (T.map ddL)) : Calls Try.prog 20 #[.int .i64 c, .int .i64 e, v] w fun r w' => ∃ vc ve gv tv, r = .returned (.tuple #[agv (mvl vc ve (plM c e T)), gv, tv, .int .i64 (plC c e T)]) ∧ Tl w vc ve (plM c e T) w' ∧ Rds 3 w' gv ((plE c e T).map evL) ∧ Rds 1 w' tv ((plX c e T).map one1) := by
  obtain ⟨a, cc, rfl, hc1, hc2⟩ := hv.form
  rw [List.length_map] at hc1 hv ⊢
  obtain ⟨n, hn⟩ : ∃ n, T.length = n := ⟨_, rfl⟩
  have HTn : Hid (T.length = n) := hn
  have HR : Hid (Rds 8 w (.slice a T.length cc) (T.map ddL)) := hv
  rw [hn] at HR hc1 ⊢
  have hmx : n ≤ 9223372036854775807 := by unfold maxLen at hc2; omega
  have HZ : Hid (zl.length = 606) := zl_vs.len
  have HZV : Hid (Vs zl 606) := zl_vs
  have HZL : Hid (0 + 606 ≤ zl.length) := by show _ ≤ _; rw [zl_vs.len]; exact Nat.le_refl _
  have HNW : Hid (∀ u, Calls Try.prog 22 #[.int .i64 c, .int .i64 e] u fun r w' => ∃ vc ve, r = .returned (.tuple #[agv (mvl vc ve (nmV c e)), .int .i64 (nmC c e)]) ∧ Tl u vc ve (nmV c e) w') := new_any c e
  have hb0 := bld_m0
  have hM := Mo.nil w
  clear hv hn
  cases hb : nmB c e
  · have HQ : Hid (plC c e T = 1 ∧ plM c e T = zM ∧ plE c e T = [] ∧ plX c e T = []) := by
      have : plC c e T = 1 := by unfold plC; rw [if_pos hb]
      unfold plM plE plX
      rw [this]
      exact ⟨rfl, rfl, rfl, rfl⟩
    obtain ⟨q1, q2, q3, q4⟩ := HQ.out
    rw [q1, q2, q3, q4]
    have k1 : nmV c e = zM := by unfold nmV; rw [hb]; rfl
    have k2 : nmC c e = 1 := by unfold nmC; rw [hb]; rfl
    rw [k1, k2] at HNW
    clear hb HQ q1 q2 q3 q4 k1 k2
    go_enter Try.func20, Try.ntmps20
    repeat' (first | (go_big_may; first | (refine v_alloc rfl zer_mach rfl ?_; intro u xr hN; replace hM := hM.new hN (by decide); clear hN)) | go_values | go_skip | go_guarded | go_step | go_upon | (simp only [Int.not_lt, Int.not_le] at *; go_simp))
    refine (HNW.out _).mono ?_
    rintro r u1 ⟨v1, v2, rfl, ht⟩
    replace hM := hM.call ht.below
    have H3 : Hid (Vs (mvl v1 v2 zM) 606) := mvl_vs (rcs_one ht.c.rcs) (rcs_one ht.e.rcs) slots.zB_wf
    clear ht
    repeat' (first | (go_big_may; first | (refine v_alloc rfl zer_mach rfl ?_; intro u xm hN; replace hM := hM.new hN (by decide); clear hN) | (refine v_fill rfl rfl row_mach rfl rfl hM.at0 H3.out HZ.out ?_; intro u hv hc; replace hM := hM.put0 hc hv; clear hv hc) | (refine v_build rfl rfl hb0 (by simp [Act.eval, Act.put]) ?_) | (refine v_fill rfl rfl row_mach rfl rfl hM.at1 HZV.out HZ.out ?_; intro u hv hc; replace hM := hM.put1 hc hv; clear hv hc)) | go_values | go_skip | go_guarded | go_step | go_upon | (simp only [Int.not_lt, Int.not_le] at *; go_simp))
    exact bodyPost_ret (ret_c3 Try.results20 rfl (ld_var row_mach hM.at1 HZ.out) rfl rfl rfl) rfl ⟨nilS, nilS, _, _, rfl, ⟨Ces.nil _ _, Ces.nil _ _, hM.below⟩, Rds.nil _ _, Rds.nil _ _⟩
  have k2 : nmC c e = 0 := by unfold nmC; rw [hb]; rfl
  obtain ⟨p, hp⟩ : ∃ p, c.toNat - 1 = p := ⟨_, rfl⟩
  obtain ⟨q, hq⟩ : ∃ q, e.toNat - 1 = q := ⟨_, rfl⟩
  have k1 : nmV c e = mcs p q ps0 := by unfold nmV; rw [hb, if_pos rfl, hp, hq]
  have hb2 := hb
  unfold nmB at hb2
  rw [Bool.and_eq_true, ring.cn_iff, ring.cn_iff] at hb2
  have HI0 : Hid (Iv p q ps0) := Iv.zero (by omega) (by omega) (by omega) (by omega)
  rw [k1, k2] at HNW
  by_cases hlong : 200 < n
  · have HQ : Hid (plC c e T = 2 ∧ plM c e T = zM ∧ plE c e T = [] ∧ plX c e T = []) := by
      have : plC c e T = 2 := by unfold plC; rw [hb, if_neg (by decide), if_pos (by have := HTn.out; omega)]
      unfold plM plE plX
      rw [this]
      exact ⟨rfl, rfl, rfl, rfl⟩
    obtain ⟨q1, q2, q3, q4⟩ := HQ.out
    rw [q1, q2, q3, q4]
    clear hb HQ q1 q2 q3 q4 k1 k2 hb2 hp hq
    go_enter Try.func20, Try.ntmps20
    repeat' (first | (go_big_may; first | (refine v_alloc rfl zer_mach rfl ?_; intro u xr hN; replace hM := hM.new hN (by decide); clear hN)) | go_values | go_skip | go_guarded | go_step | go_upon | (simp only [Int.not_lt, Int.not_le] at *; go_simp))
    refine (HNW.out _).mono ?_
    rintro r u1 ⟨v1, v2, rfl, ht⟩
    replace hM := hM.call ht.below
    have H3 : Hid (Vs (mvl v1 v2 (mcs p q ps0)) 606) := mvl_vs (rcs_one ht.c.rcs) (rcs_one ht.e.rcs) slots.zB_wf
    clear ht
    repeat' (first | (go_big_may; first | (refine v_alloc rfl zer_mach rfl ?_; intro u xm hN; replace hM := hM.new hN (by decide); clear hN) | (refine v_fill rfl rfl row_mach rfl rfl hM.at0 H3.out HZ.out ?_; intro u hv hc; replace hM := hM.put0 hc hv; clear hv hc) | (refine v_build rfl rfl hb0 (by simp [Act.eval, Act.put]) ?_) | (refine v_fill rfl rfl row_mach rfl rfl hM.at1 HZV.out HZ.out ?_; intro u hv hc; replace hM := hM.put1 hc hv; clear hv hc)) | go_values | go_skip | go_guarded | go_step | go_upon | (simp only [Int.not_lt, Int.not_le] at *; go_simp))
    exact bodyPost_ret (ret_c3 Try.results20 rfl (ld_var row_mach hM.at1 HZ.out) rfl rfl rfl) rfl ⟨nilS, nilS, _, _, rfl, ⟨Ces.nil _ _, Ces.nil _ _, hM.below⟩, Rds.nil _ _, Rds.nil _ _⟩
  have hshort : n ≤ 200 := by omega
  have HQ : Hid (plC c e T = 0 ∧ plM c e T = mcs p q (pls p q ps0 T) ∧ plE c e T = rpd (pls p q ps0 T) ∧ plX c e T = plt p q ps0 T) := by
    have : plC c e T = 0 := by unfold plC; rw [hb, if_neg (by decide), if_neg (by have := HTn.out; omega)]
    unfold plM plE plX ply
    rw [this, hp, hq]
    exact ⟨rfl, rfl, rfl, rfl⟩
  obtain ⟨q1, q2, q3, q4⟩ := HQ.out
  rw [q1, q2, q3, q4]
  have HSM : Hid (∀ (s : Ps) vc ve (x : Cm) u, Iv p q s → Rcs u vc (mcs p q s).c.C → Rcs u ve (mcs p q s).e.C → Calls Try.prog 13 #[agv (mvl vc ve (mcs p q s)), cmV x] u fun e w' => ∃ vc' ve', e = .returned (.tuple #[agv (mvl vc' ve' (mcs p q (sbS p s x))), .int .i64 (sbT p s x)]) ∧ Tl u vc' ve' (mcs p q (sbS p s x)) w') := fun s vc ve x u hi h1 h2 => by
    have := submit_any vc ve (mcs p q s) x u (hi.inn h1 h2)
    rw [(hi.sb x).1, (hi.sb x).2.1] at this
    exact this
  have HWK : Hid (∀ (s : Ps) vc ve (n : Int) u, Iv p q s → Rcs u vc (mcs p q s).c.C → Rcs u ve (mcs p q s).e.C → Calls Try.prog 16 #[agv (mvl vc ve (mcs p q s)), .int .i64 n] u fun e w' => ∃ vc' ve' k, e = .returned (.tuple #[agv (mvl vc' ve' (mcs p q (wrS p q s n))), .int .i64 k]) ∧ Tl u vc' ve' (mcs p q (wrS p q s n)) w') := fun s vc ve n u hi h1 h2 => by
    have := work_any vc ve (mcs p q s) n u (hi.inn h1 h2)
    rw [(hi.wr n).1] at this
    refine this.mono ?_
    rintro e w' ⟨x, y, h1, h2⟩
    exact ⟨x, y, _, h1, h2⟩
  have HRP : Hid (∀ (s : Ps) vc ve u, Iv p q s → Rcs u vc (mcs p q s).c.C → Rcs u ve (mcs p q s).e.C → Calls Try.prog 18 #[agv (mvl vc ve (mcs p q s))] u fun e w' => ∃ vc' ve' x, e = .returned (.tuple #[agv (mvl vc' ve' (mcs p q (rsV s))), evV x, .bool (rsB s)]) ∧ Tl u vc' ve' (mcs p q (rsV s)) w' ∧ (rsB s = true → x = rsE s)) := fun s vc ve u hi h1 h2 => by
    have := reap_any vc ve (mcs p q s) u (hi.inn h1 h2)
    obtain ⟨r1, r2, r3, r4⟩ := hi.rp
    rw [r1, r2] at this
    refine this.mono ?_
    rintro e w' ⟨x, y, h1, h2⟩
    refine ⟨x, y, _, h1, h2, fun hb => ?_⟩
    unfold rpX
    rw [r2, if_pos hb]
    exact r3 hb
  have HHL : Hid (∀ (B : slots.Bd) (n e : Int) u, Wf B → Calls Try.prog 48 #[agv (ivs (fl B)), .int .i64 n, .int .i64 e] u fun r w' => r = .returned (agv (ivs (fl (slots.hlt B n e)))) ∧ Below u.heap.size u w') := fun B n e u hB => slots.halt_any B n e u hB
  clear hb HQ q1 q2 q3 q4 k1 k2 hb2 hp hq hlong
  go_enter Try.func20, Try.ntmps20
  repeat' (first | (go_big_may; first | (refine v_alloc rfl zer_mach rfl ?_; intro u xr hN; replace hM := hM.new hN (by decide); clear hN)) | go_values | go_skip | go_guarded | go_step | go_upon | (simp only [Int.not_lt, Int.not_le] at *; go_simp))
  refine (HNW.out _).mono ?_
  rintro r u1 ⟨v1, v2, rfl, ht⟩
  replace hM := ((hM.call ht.below).add (b := true) (ht.e.mono hM.below.size)).add (b := true) (ht.c.mono hM.below.size)
  have H3 : Hid (Vs (mvl v1 v2 (mcs p q ps0)) 606) := mvl_vs (rcs_one ht.c.rcs) (rcs_one ht.e.rcs) slots.zB_wf
  clear ht
  repeat' (first | (go_big_may; first | (refine v_alloc rfl zer_mach rfl ?_; intro u xm hN; replace hM := hM.new hN (by decide); clear hN) | (refine v_fill rfl rfl row_mach rfl rfl hM.at0 H3.out HZ.out ?_; intro u hv hc; replace hM := hM.put0 hc hv; clear hv hc)) | go_values | go_skip | go_guarded | go_step | go_upon | (simp only [Int.not_lt, Int.not_le] at *; go_simp))
  replace hM := (hM.row 25 1 (by decide)).row 52 3 (by decide)
  rename World => u2
  have HP0 : Hid (Pli w u2 xm xr p q T 0 (.slice none 0 0) (.slice none 0 0) ps0 []) := ⟨⟨v1, v2, hM⟩, HI0.out, rfl, rfl, by simp [ps0]⟩
  clear hM H3
  go_loopw [11, 12, 13, 35] (fun cd gv tv i wr => ∃ k : Nat, k ≤ n ∧ i = .int .i64 (k : Int) ∧ Hid (∃ s old, Pli w wr xm xr p q T k gv tv s old)) (fun _ _ _ i _ => n - (intOf i).toNat)
  case atStart => exact ⟨0, Nat.zero_le _, rfl, ps0, [], HP0.out⟩
  case round =>
    obtain ⟨k, hk, rfl, HA⟩ := hrel
    obtain ⟨s, old, hP⟩ := HA.out
    obtain ⟨⟨vc, ve, hM⟩, hI, he1, he2, he3⟩ := hP
    have HI : Hid (Iv p q s) := hI
    have H4 : Hid (Vs (mvl vc ve (mcs p q s)) 606) := mvl_vs (rcs_one (hM.read (b := true) (x := vc) (C := (mcs p q s).c.C) (by simp))) (rcs_one (hM.read (b := true) (x := ve) (C := (mcs p q s).e.C) (by simp))) hI.w
    have HL4 : Hid (0 + 606 ≤ (mvl vc ve (mcs p q s)).length) := by show _ ≤ _; rw [H4.out.len]; exact Nat.le_refl _
    have HA4 : Hid (cv (mvl vc ve (mcs p q s)) 0 606 = mvl vc ve (mcs p q s)) := cv_all H4.out.len
    have HL3 : Hid ((old.map one1).length ≤ 100000 ∧ ((rpd s).map evL).length ≤ 100000) := ⟨by rw [List.length_map]; omega, by have := rpd_len s; rw [List.length_map]; omega⟩
    by_cases hlt : ¬ k < n
    · have HX : Hid (s = pls p q ps0 T ∧ old = plt p q ps0 T) := by
        rw [List.drop_eq_nil_of_le (by have := HTn.out; omega)] at he1 he2
        exact ⟨he1, by rw [← he2]; simp [plt]⟩
      clear hI he1 he2 he3 HP0 HA
      repeat' (first | (go_big_may; first | (refine v_load rfl rfl row_mach rfl hM.at0 HL4.out HA4.out ?_) | (refine v_fill rfl rfl row_mach rfl rfl hM.at1 H4.out HZ.out ?_; intro u hv hc; replace hM := hM.put1 hc hv; clear hv hc)) | go_values | go_skip | go_guarded | go_step | go_upon | (simp only [Int.not_lt, Int.not_le] at *; go_simp))
      refine bodyPost_ret (ret_c3 Try.results20 rfl (ld_var row_mach hM.at1 H4.out.len) rfl rfl rfl) rfl ⟨vc, ve, u12, u13, ?_, ?_, ?_, ?_⟩
      · rw [← HX.out.1]; rfl
      · rw [← HX.out.1]; exact ⟨hM.mine (by simp), hM.mine (by simp), hM.below⟩
      · rw [← HX.out.1]; exact (hM.ow (52, 3, u12, (rpd s).map evL) (by simp)).rds
      · rw [← HX.out.2]; exact (hM.ow (25, 1, u13, old.map one1) (by simp)).rds
    have hlt : k < n := by omega
    obtain ⟨x, hx⟩ : ∃ x, T[k]? = some x := ⟨T[k]'(by have := HTn.out; omega), List.getElem?_eq_getElem (by have := HTn.out; omega)⟩
    obtain ⟨g, off, rfl, hrg⟩ := HR.out.at k (ddL x) (by rw [List.getElem?_map, hx]; rfl)
    rw [pls_at hx] at he1
    rw [plt_at hx] at he2
    have HE1 : Hid (pls p q (stp p q s x) (T.drop (k + 1)) = pls p q ps0 T) := he1
    have HE2 : Hid (old ++ (tld p s x ++ plt p q (stp p q s x) (T.drop (k + 1))) = plt p q ps0 T) := he2
    have HE3 : Hid (old.length ≤ k ∧ s.g ≤ k) := he3
    have HRG : Hid (wr.rangeAt g (off + k * 8) (ivs (ddL x))) := hrg wr hM.below
    have HIS : Hid (Iv p q (stp p q s x)) := hI.stp x
    have HDL : Hid ((ivs (ddL x)).length = 8) := rfl
    have HDV : Hid (Vs (ivs (ddL x)) 8) := ivs_vs rfl
    have HD0 : Hid ((ivs [0, 0, 0, 0, 0, 0, 0, 0]).length = 8) := rfl
    have Q0 : Hid ((ivs (ddL x))[0]? = some (.int .i64 x.1)) := rfl
    have Q5 : Hid ((ivs (ddL x))[5]? = some (.int .i64 x.2.2.1)) := rfl
    have Q6 : Hid ((ivs (ddL x))[6]? = some (.int .i64 x.2.2.2.1)) := rfl
    have Q7 : Hid ((ivs (ddL x))[7]? = some (.int .i64 x.2.2.2.2)) := rfl
    have HLC : Hid (1 + 4 ≤ (ivs (ddL x)).length) := by show 1 + 4 ≤ 8; omega
    have HAC : Hid (cv (ivs (ddL x)) 1 4 = ivs [x.2.1.1, x.2.1.2.1, x.2.1.2.2.1, x.2.1.2.2.2]) := rfl
    have HS : Hid (stp p q s x = if x.1 = 1 then sbS p s x.2.1 else if x.1 = 2 then wrS p q s x.2.2.1 else if x.1 = 3 then rsV s else if x.1 = 4 then hlS s x.2.2.2.1 x.2.2.2.2 else s) := rfl
    have HT : Hid (tld p s x = if x.1 = 1 then [sbT p s x.2.1] else []) := rfl
    clear he1 he2 he3 hx hrg hI HP0 HA
    generalize hdd : ivs (ddL x) = DD at *
    clear hdd
    obtain ⟨kd, cm, dn', ds, de⟩ := x
    simp only at Q0 Q5 Q6 Q7 HAC HS HT
    by_cases c1 : kd = 1
    · subst c1
      have e1 : ((1 : Int) == 1) = true := rfl
      have HS1 : Hid (stp p q s (1, cm, dn', ds, de) = sbS p s cm) := HS.out
      have HT1 : Hid (tld p s (1, cm, dn', ds, de) = [sbT p s cm]) := HT.out
      have HC : Hid (∀ vc ve u, Rcs u vc (mcs p q s).c.C → Rcs u ve (mcs p q s).e.C → Calls Try.prog 13 #[agv (mvl vc ve (mcs p q s)), agv (ivs [cm.1, cm.2.1, cm.2.2.1, cm.2.2.2])] u fun e w' => ∃ vc' ve', e = .returned (.tuple #[agv (mvl vc' ve' (mcs p q (sbS p s cm))), .int .i64 (sbT p s cm)]) ∧ Tl u vc' ve' (mcs p q (sbS p s cm)) w') := fun vc ve u h1 h2 => HSM.out s vc ve cm u HI.out h1 h2
      have HRD : Hid (rpd (sbS p s cm) = rpd s) := rpd_sb p s cm
      have HG1 : Hid ((sbS p s cm).g = s.g) := sb_g s cm
      have HWB : Hid (Wf (mcs p q (sbS p s cm)).B) := by have := HIS.out.w; rw [HS1.out] at this; exact this
      generalize hn : sbS p s cm = S' at *
      generalize sbT p s cm = tx at *
      clear hn HS HT
      generalize ivs [cm.1, cm.2.1, cm.2.2.1, cm.2.2.2] = CM at *
      have HOV : Hid ((Value.int .i64 tx).cells = (ivs [tx]).toArray) := rfl
      have HOL : Hid ((ivs [tx]).length = 1) := rfl
      repeat' (first | (go_big_may; first | (refine v_ldR rfl rfl row_deed rfl HRG.out HDL.out ?_) | (refine v_alloc rfl zer_deed rfl ?_; intro u xd hN; replace hM := hM.new hN (by decide); clear hN) | (refine v_fill rfl rfl row_deed rfl rfl hM.at0 HDV.out HD0.out ?_; intro u hv hc; replace hM := hM.put0 hc hv; clear hv hc) | (refine v_get rfl rfl (.inl rfl) rfl hM.at0 Q0.out ?_) | (refine v_load rfl rfl row_mach rfl hM.at1 HL4.out HA4.out ?_) | (refine v_load rfl rfl row_cmd rfl hM.at0 HLC.out HAC.out ?_)) | go_values | go_skip | go_guarded | go_step | go_upon | (simp only [Int.not_lt, Int.not_le] at *; go_simp))
      refine (HC.out vc ve _ (hM.read (b := true) (by simp)) (hM.read (b := true) (by simp))).mono ?_
      rintro r u3 ⟨vc2, ve2, rfl, ht⟩
      have H5 : Hid (Vs (mvl vc2 ve2 (mcs p q S')) 606) := mvl_vs (rcs_one ht.c.rcs) (rcs_one ht.e.rcs) HWB.out
      replace hM := ((hM.call ht.below).add (b := true) (ht.e.mono hM.below.size)).add (b := true) (ht.c.mono hM.below.size)
      clear ht
      repeat' (first | (go_big_may; first | (refine v_fill rfl rfl row_mach rfl rfl hM.at1 H5.out H4.out.len ?_; intro u hv hc; replace hM := hM.put1 hc hv; clear hv hc) | (refine v_bs rfl rfl el_errno rfl HOV.out HOL.out ?_; intro u4 g4 hb4 hc4; replace hM := hM.call hb4; clear hb4) | (refine v_appO rfl rfl el_errno [(52, 3, u12, (rpd s).map evL)] rfl rfl hM hc4 rfl HL3.out.1 ?_; intro u5 tv2 hM2; replace hM := hM2; clear hM2 hc4)) | go_values | go_skip | go_guarded | go_step | go_upon | (simp only [Int.not_lt, Int.not_le] at *; go_simp))
      go_roundw
      case rel =>
        refine ⟨k + 1, by omega, by go_num, S', old ++ [tx], ⟨vc2, ve2, ?_⟩, by rw [← HS1.out]; exact HIS.out, by rw [← HS1.out]; exact HE1.out, ?_, ?_⟩
        · rw [HRD.out, List.map_append]
          exact hM.sub (.cons _ (List.Sublist.refl _)) (by simp)
        · have := HE2.out
          rw [HT1.out, HS1.out] at this
          rw [List.append_assoc]
          exact this
        · have := HE3.out
          rw [HG1.out, List.length_append, List.length_singleton]
          omega
      case measure => simp [intOf]; omega
    have f1 : (kd == 1) = false := by simpa using c1
    rw [if_neg c1] at HS HT
    by_cases c2 : kd = 2
    · subst c2
      have HS1 : Hid (stp p q s (2, cm, dn', ds, de) = wrS p q s dn') := HS.out
      have HT1 : Hid (tld p s (2, cm, dn', ds, de) = []) := HT.out
      have HC : Hid (∀ vc ve u, Rcs u vc (mcs p q s).c.C → Rcs u ve (mcs p q s).e.C → Calls Try.prog 16 #[agv (mvl vc ve (mcs p q s)), .int .i64 dn'] u fun e w' => ∃ vc' ve' k, e = .returned (.tuple #[agv (mvl vc' ve' (mcs p q (wrS p q s dn'))), .int .i64 k]) ∧ Tl u vc' ve' (mcs p q (wrS p q s dn')) w') := fun vc ve u h1 h2 => HWK.out s vc ve dn' u HI.out h1 h2
      have HRD : Hid (rpd (wrS p q s dn') = rpd s) := rpd_wr HI.out dn'
      have HG1 : Hid ((wrS p q s dn').g = s.g) := wr_g s dn'
      have HWB : Hid (Wf (mcs p q (wrS p q s dn')).B) := by have := HIS.out.w; rw [HS1.out] at this; exact this
      generalize hn : wrS p q s dn' = S' at *
      clear hn HS HT c1
      repeat' (first | (go_big_may; first | (refine v_ldR rfl rfl row_deed rfl HRG.out HDL.out ?_) | (refine v_alloc rfl zer_deed rfl ?_; intro u xd hN; replace hM := hM.new hN (by decide); clear hN) | (refine v_fill rfl rfl row_deed rfl rfl hM.at0 HDV.out HD0.out ?_; intro u hv hc; replace hM := hM.put0 hc hv; clear hv hc) | (refine v_get rfl rfl (.inl rfl) rfl hM.at0 Q0.out ?_) | (refine v_load rfl rfl row_mach rfl hM.at1 HL4.out HA4.out ?_) | (refine v_get rfl rfl (.inl rfl) rfl hM.at0 Q5.out ?_)) | go_values | go_skip | go_guarded | go_step | go_upon | (simp only [Int.not_lt, Int.not_le] at *; go_simp))
      refine (HC.out vc ve _ (hM.read (b := true) (by simp)) (hM.read (b := true) (by simp))).mono ?_
      rintro r u3 ⟨vc2, ve2, kk, rfl, ht⟩
      have H5 : Hid (Vs (mvl vc2 ve2 (mcs p q S')) 606) := mvl_vs (rcs_one ht.c.rcs) (rcs_one ht.e.rcs) HWB.out
      replace hM := ((hM.call ht.below).add (b := true) (ht.e.mono hM.below.size)).add (b := true) (ht.c.mono hM.below.size)
      clear ht
      repeat' (first | (go_big_may; first | (refine v_fill rfl rfl row_mach rfl rfl hM.at1 H5.out H4.out.len ?_; intro u hv hc; replace hM := hM.put1 hc hv; clear hv hc)) | go_values | go_skip | go_guarded | go_step | go_upon | (simp only [Int.not_lt, Int.not_le] at *; go_simp))
      go_roundw
      case rel =>
        refine ⟨k + 1, by omega, by go_num, S', old, ⟨vc2, ve2, ?_⟩, by rw [← HS1.out]; exact HIS.out, by rw [← HS1.out]; exact HE1.out, ?_, ?_⟩
        · rw [HRD.out]
          exact hM.sub (.cons _ (List.Sublist.refl _)) (by simp)
        · have := HE2.out
          rw [HT1.out, HS1.out] at this
          exact this
        · have := HE3.out
          rw [HG1.out]
          omega
      case measure => simp [intOf]; omega
    have f2 : (kd == 2) = false := by simpa using c2
    rw [if_neg c2] at HS
    by_cases c3 : kd = 3
    · subst c3
      have HS1 : Hid (stp p q s (3, cm, dn', ds, de) = rsV s) := HS.out
      have HT1 : Hid (tld p s (3, cm, dn', ds, de) = []) := HT.out
      have HC : Hid (∀ vc ve u, Rcs u vc (mcs p q s).c.C → Rcs u ve (mcs p q s).e.C → Calls Try.prog 18 #[agv (mvl vc ve (mcs p q s))] u fun e w' => ∃ vc' ve' x, e = .returned (.tuple #[agv (mvl vc' ve' (mcs p q (rsV s))), agv (ivs [x.1, x.2.1, x.2.2]), .bool (rsB s)]) ∧ Tl u vc' ve' (mcs p q (rsV s)) w' ∧ (rsB s = true → x = rsE s)) := fun vc ve u h1 h2 => HRP.out s vc ve u HI.out h1 h2
      have HRD : Hid (rsB s = true → rpd (rsV s) = rpd s ++ [rsE s]) := fun h => rpd_rs h
      have HRN : Hid (rsB s = false → rsV s = s) := fun h => rpd_no h
      have HG1 : Hid ((rsV s).g ≤ s.g + 1) := rs_g s
      have HWB : Hid (Wf (mcs p q (rsV s)).B) := by have := HIS.out.w; rw [HS1.out] at this; exact this
      have HZE : Hid ((ivs [0, 0, 0]).length = 3) := rfl
      clear HS HT c1 c2
      cases hrb : rsB s
      · rw [hrb] at HC HRD HRN
        have HRN2 : Hid (rsV s = s) := HRN.out rfl
        rw [HRN2.out] at HC HS1 HWB HG1
        clear HRD HRN
        repeat' (first | (go_big_may; first | (refine v_ldR rfl rfl row_deed rfl HRG.out HDL.out ?_) | (refine v_alloc rfl zer_deed rfl ?_; intro u xd hN; replace hM := hM.new hN (by decide); clear hN) | (refine v_fill rfl rfl row_deed rfl rfl hM.at0 HDV.out HD0.out ?_; intro u hv hc; replace hM := hM.put0 hc hv; clear hv hc) | (refine v_get rfl rfl (.inl rfl) rfl hM.at0 Q0.out ?_) | (refine v_load rfl rfl row_mach rfl hM.at1 HL4.out HA4.out ?_)) | go_values | go_skip | go_guarded | go_step | go_upon | (simp only [Int.not_lt, Int.not_le] at *; go_simp))
        refine (HC.out vc ve _ (hM.read (b := true) (by simp)) (hM.read (b := true) (by simp))).mono ?_
        rintro r u3 ⟨vc2, ve2, ev, rfl, ht, hev⟩
        clear hev
        have H5 : Hid (Vs (mvl vc2 ve2 (mcs p q s)) 606) := mvl_vs (rcs_one ht.c.rcs) (rcs_one ht.e.rcs) HWB.out
        have HL5 : Hid (0 + 606 ≤ (mvl vc2 ve2 (mcs p q s)).length) := by show _ ≤ _; rw [H5.out.len]; exact Nat.le_refl _
        have HA5 : Hid (cv (mvl vc2 ve2 (mcs p q s)) 0 606 = mvl vc2 ve2 (mcs p q s)) := cv_all H5.out.len
        replace hM := ((hM.call ht.below).add (b := true) (ht.e.mono hM.below.size)).add (b := true) (ht.c.mono hM.below.size)
        clear ht
        obtain ⟨ea, eb, ec⟩ := ev
        have HEVS : Hid (Vs (ivs [ea, eb, ec]) 3) := ivs_vs rfl
        have HEVL : Hid (0 + 3 ≤ (ivs [ea, eb, ec]).length) := Nat.le_refl _
        have HEVA : Hid (cv (ivs [ea, eb, ec]) 0 3 = ivs [ea, eb, ec]) := rfl
        have HEVC : Hid ((agv (ivs [ea, eb, ec])).cells = (ivs [ea, eb, ec]).toArray) := rfl
        repeat' (first | (go_big_may; first | (refine v_alloc rfl zer_mach rfl ?_; intro u xn hN; replace hM := hM.new hN (by decide); clear hN) | (refine v_alloc rfl zer_event rfl ?_; intro u xw hN; replace hM := hM.new hN (by decide); clear hN) | (refine v_fill rfl rfl row_mach rfl rfl hM.at1 H5.out HZ.out ?_; intro u hv hc; replace hM := hM.put1 hc hv; clear hv hc) | (refine v_fill rfl rfl row_event rfl rfl hM.at0 HEVS.out HZE.out ?_; intro u hv hc; replace hM := hM.put0 hc hv; clear hv hc) | (refine v_load rfl rfl row_mach rfl hM.at1 HL5.out HA5.out ?_) | (refine v_fill rfl rfl row_mach rfl rfl hM.at3 H5.out H4.out.len ?_; intro u hv hc; replace hM := hM.put3 hc hv; clear hv hc)) | go_values | go_skip | go_guarded | go_step | go_upon | (simp only [Int.not_lt, Int.not_le] at *; go_simp))
        go_roundw
        case rel =>
          refine ⟨k + 1, by omega, by go_num, s, old, ⟨vc2, ve2, ?_⟩, by rw [← HS1.out]; exact HIS.out, by rw [← HS1.out]; exact HE1.out, ?_, ?_⟩
          · exact hM.sub (.cons _ (.cons _ (.cons _ (List.Sublist.refl _)))) (by simp)
          · have := HE2.out
            rw [HT1.out, HS1.out] at this
            exact this
          · have := HE3.out
            have := HG1.out
            omega
        case measure => simp [intOf]; omega
      · rw [hrb] at HC HRD HRN
        have HRD2 : Hid (rpd (rsV s) = rpd s ++ [rsE s]) := HRD.out rfl
        generalize hn : rsV s = S' at *
        clear hn HRD HRN
        repeat' (first | (go_big_may; first | (refine v_ldR rfl rfl row_deed rfl HRG.out HDL.out ?_) | (refine v_alloc rfl zer_deed rfl ?_; intro u xd hN; replace hM := hM.new hN (by decide); clear hN) | (refine v_fill rfl rfl row_deed rfl rfl hM.at0 HDV.out HD0.out ?_; intro u hv hc; replace hM := hM.put0 hc hv; clear hv hc) | (refine v_get rfl rfl (.inl rfl) rfl hM.at0 Q0.out ?_) | (refine v_load rfl rfl row_mach rfl hM.at1 HL4.out HA4.out ?_)) | go_values | go_skip | go_guarded | go_step | go_upon | (simp only [Int.not_lt, Int.not_le] at *; go_simp))
        refine (HC.out vc ve _ (hM.read (b := true) (by simp)) (hM.read (b := true) (by simp))).mono ?_
        rintro r u3 ⟨vc2, ve2, ev, rfl, ht, hev⟩
        have HEV : Hid (ev = rsE s) := hev (by first | rfl | trivial)
        clear hev
        have H5 : Hid (Vs (mvl vc2 ve2 (mcs p q S')) 606) := mvl_vs (rcs_one ht.c.rcs) (rcs_one ht.e.rcs) HWB.out
        have HL5 : Hid (0 + 606 ≤ (mvl vc2 ve2 (mcs p q S')).length) := by show _ ≤ _; rw [H5.out.len]; exact Nat.le_refl _
        have HA5 : Hid (cv (mvl vc2 ve2 (mcs p q S')) 0 606 = mvl vc2 ve2 (mcs p q S')) := cv_all H5.out.len
        replace hM := ((hM.call ht.below).add (b := true) (ht.e.mono hM.below.size)).add (b := true) (ht.c.mono hM.below.size)
        clear ht
        obtain ⟨ea, eb, ec⟩ := ev
        have HEVS : Hid (Vs (ivs [ea, eb, ec]) 3) := ivs_vs rfl
        have HEVL : Hid (0 + 3 ≤ (ivs [ea, eb, ec]).length) := Nat.le_refl _
        have HEVA : Hid (cv (ivs [ea, eb, ec]) 0 3 = ivs [ea, eb, ec]) := rfl
        have HEVC : Hid ((agv (ivs [ea, eb, ec])).cells = (ivs [ea, eb, ec]).toArray) := rfl
        repeat' (first | (go_big_may; first | (refine v_alloc rfl zer_mach rfl ?_; intro u xn hN; replace hM := hM.new hN (by decide); clear hN) | (refine v_alloc rfl zer_event rfl ?_; intro u xw hN; replace hM := hM.new hN (by decide); clear hN) | (refine v_fill rfl rfl row_mach rfl rfl hM.at1 H5.out HZ.out ?_; intro u hv hc; replace hM := hM.put1 hc hv; clear hv hc) | (refine v_fill rfl rfl row_event rfl rfl hM.at0 HEVS.out HZE.out ?_; intro u hv hc; replace hM := hM.put0 hc hv; clear hv hc) | (refine v_load rfl rfl row_mach rfl hM.at1 HL5.out HA5.out ?_) | (refine v_fill rfl rfl row_mach rfl rfl hM.at3 H5.out H4.out.len ?_; intro u hv hc; replace hM := hM.put3 hc hv; clear hv hc) | (refine v_load rfl rfl row_event rfl hM.at0 HEVL.out HEVA.out ?_) | (refine v_bs rfl rfl el_event rfl HEVC.out HEVS.out.len ?_; intro u4 g4 hb4 hc4; replace hM := hM.call hb4; clear hb4) | (refine v_appO rfl rfl el_event [] rfl rfl hM hc4 rfl HL3.out.2 ?_; intro u5 gv2 hM2; replace hM := hM2; clear hM2 hc4)) | go_values | go_skip | go_guarded | go_step | go_upon | (simp only [Int.not_lt, Int.not_le] at *; go_simp))
        go_roundw
        case rel =>
          refine ⟨k + 1, by omega, by go_num, S', old, ⟨vc2, ve2, ?_⟩, by rw [← HS1.out]; exact HIS.out, by rw [← HS1.out]; exact HE1.out, ?_, ?_⟩
          · rw [HRD2.out, List.map_append, ← HEV.out]
            exact hM.sub (.cons _ (.cons _ (.cons _ (List.Sublist.refl _)))) (by simp)
          · have := HE2.out
            rw [HT1.out, HS1.out] at this
            exact this
          · have := HE3.out
            have := HG1.out
            omega
        case measure => simp [intOf]; omega
    have f3 : (kd == 3) = false := by simpa using c3
    rw [if_neg c3] at HS
    by_cases c4 : kd = 4
    · subst c4
      have HS1 : Hid (stp p q s (4, cm, dn', ds, de) = hlS s ds de) := HS.out
      have HT1 : Hid (tld p s (4, cm, dn', ds, de) = []) := HT.out
      have HC : Hid (∀ u, Calls Try.prog 48 #[agv (ivs (fl (mcs p q s).B)), .int .i64 ds, .int .i64 de] u fun r w' => r = .returned (agv (ivs (fl (mcs p q (hlS s ds de)).B))) ∧ Below u.heap.size u w') := fun u => HHL.out _ ds de u HI.out.w
      have HWB : Hid (Wf (mcs p q (hlS s ds de)).B) := by have := HIS.out.w; rw [HS1.out] at this; exact this
      have HLB : Hid (12 + 594 ≤ (mvl vc ve (mcs p q s)).length) := by show _ ≤ _; rw [H4.out.len]; exact Nat.le_refl _
      have HAB : Hid (cv (mvl vc ve (mcs p q s)) 12 594 = ivs (fl (mcs p q s).B)) := cv_b _ _ HI.out.w
      have HPB : Hid (ptv (mvl vc ve (mcs p q s)) 12 (ivs (fl (mcs p q (hlS s ds de)).B)) = mvl vc ve (mcs p q (hlS s ds de))) := ptv_b _ _ _ HI.out.w HWB.out
      have HVB : Hid (Vs (ivs (fl (mcs p q (hlS s ds de)).B)) 594) := ivs_vs HWB.out.length
      clear HS HT c1 c2 c3
      repeat' (first | (go_big_may; first | (refine v_ldR rfl rfl row_deed rfl HRG.out HDL.out ?_) | (refine v_alloc rfl zer_deed rfl ?_; intro u xd hN; replace hM := hM.new hN (by decide); clear hN) | (refine v_fill rfl rfl row_deed rfl rfl hM.at0 HDV.out HD0.out ?_; intro u hv hc; replace hM := hM.put0 hc hv; clear hv hc) | (refine v_get rfl rfl (.inl rfl) rfl hM.at0 Q0.out ?_) | (refine v_load rfl rfl row_board rfl hM.at1 HLB.out HAB.out ?_) | (refine v_get rfl rfl (.inl rfl) rfl hM.at0 Q6.out ?_) | (refine v_get rfl rfl (.inl rfl) rfl hM.at0 Q7.out ?_)) | go_values | go_skip | go_guarded | go_step | go_upon | (simp only [Int.not_lt, Int.not_le] at *; go_simp))
      refine (HC.out _).mono ?_
      rintro r u3 ⟨rfl, hv⟩
      replace hM := hM.call hv
      clear hv
      repeat' (first | (go_big_may; first | (refine v_store rfl rfl row_board rfl rfl hM.at1 HVB.out HLB.out HPB.out ?_; intro u hv hc; replace hM := hM.put1 hc hv; clear hv hc)) | go_values | go_skip | go_guarded | go_step | go_upon | (simp only [Int.not_lt, Int.not_le] at *; go_simp))
      go_roundw
      case rel =>
        refine ⟨k + 1, by omega, by go_num, hlS s ds de, old, ⟨vc, ve, ?_⟩, by rw [← HS1.out]; exact HIS.out, by rw [← HS1.out]; exact HE1.out, ?_, ?_⟩
        · exact hM.sub (.cons _ (List.Sublist.refl _)) (by simp [hlS, mcs])
        · have := HE2.out
          rw [HT1.out, HS1.out] at this
          exact this
        · have := HE3.out
          exact ⟨by omega, by show s.g ≤ _; omega⟩
      case measure => simp [intOf]; omega
    have f4 : (kd == 4) = false := by simpa using c4
    rw [if_neg c4] at HS
    have HS1 : Hid (stp p q s (kd, cm, dn', ds, de) = s) := HS.out
    have HT1 : Hid (tld p s (kd, cm, dn', ds, de) = []) := HT.out
    clear HS HT c1 c2 c3 c4
    repeat' (first | (go_big_may; first | (refine v_ldR rfl rfl row_deed rfl HRG.out HDL.out ?_) | (refine v_alloc rfl zer_deed rfl ?_; intro u xd hN; replace hM := hM.new hN (by decide); clear hN) | (refine v_fill rfl rfl row_deed rfl rfl hM.at0 HDV.out HD0.out ?_; intro u hv hc; replace hM := hM.put0 hc hv; clear hv hc) | (refine v_get rfl rfl (.inl rfl) rfl hM.at0 Q0.out ?_)) | go_values | go_skip | go_guarded | go_step | go_upon | (simp only [Int.not_lt, Int.not_le] at *; go_simp))
    go_roundw
    case rel =>
      refine ⟨k + 1, by omega, by go_num, s, old, ⟨vc, ve, ?_⟩, HI.out, by have := HE1.out; rw [HS1.out] at this; exact this, ?_, ?_⟩
      · exact hM.sub (.cons _ (List.Sublist.refl _)) (by simp)
      · have := HE2.out
        rw [HT1.out, HS1.out] at this
        exact this
      · have := HE3.out
        omega
    case measure => simp [intOf]; omega
end Go.Proofs.Ythjmcopknkemnaa.host
