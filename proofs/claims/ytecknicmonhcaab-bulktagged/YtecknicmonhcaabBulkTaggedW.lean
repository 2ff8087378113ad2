/- BulkTagged: the walk. -/
import Derived.Test.YtecknicmonhcaabBulZ
import Derived.Test.YtecknicmonhcaabBulW
namespace Go.Proofs.Ytecknicmonhcaab.bulkTagged
open Go Go.RowKit Go.PlainAid Go.Proofs.Ytecknicmonhcaab.lane Go.Proofs.Ytecknicmonhcaab.pipe Go.Proofs.Ytecknicmonhcaab.strike Go.Proofs.Ytecknicmonhcaab.bulk
set_option linter.unusedVariables false
set_option linter.unusedSimpArgs false
set_option maxRecDepth 100000

/-- what a status tells -/
theorem tg {d : scsi.Dk} {y : Wp} {t : ByteArray} (hy : wk y = true) (h0 : tkE d (wrT y) t = 0) :
    sk (svS d (wrT y) t) = true ∧ (svS d (wrT y) t).tag = y.tag ∧ 0 ≤ (svS d (wrT y) t).res ∧ (svS d (wrT y) t).res ≤ y.len ∧ ((svA d (wrT y) t).size : Int) ≤ y.len - (svS d (wrT y) t).res ∧
    ((svA d (wrT y) t).size = 0 ∨ (y.inn = true ∧ (svS d (wrT y) t).code = 0)) ∧ y.len ≤ 4294967295 := by
  obtain ⟨r1, r2⟩ := rd_ok hy
  obtain ⟨k1, k2, k3, k4, k5, k6, k7⟩ := tk_ok h0
  obtain ⟨f1, f2, f3, f4, f5, f6, f7⟩ := sv_facts (x := rdW (wrT y)) k1 k4
  have hn : ¬ tkE d (wrT y) t ≠ 0 := fun q => q h0
  have hs := (sv_status h0).1
  have hA : svA d (wrT y) t = if (svV d (rdW (wrT y))).code = 2 then ⟨#[]⟩ else scsi.doT d (rdW (wrT y)).cmd (gvS d (wrT y) t) := if_neg hn
  have hC : (svS d (wrT y) t).code = svC d (wrT y) t := rfl
  have hR : (svS d (wrT y) t).res = (svV d (rdW (wrT y))).res := rfl
  have hT : (svS d (wrT y) t).tag = (rdW (wrT y)).tag := rfl
  have hB : ((svA d (wrT y) t).size : Int) ≤ (svV d (rdW (wrT y))).moved ∧ ((svA d (wrT y) t).size = 0 ∨ (y.inn = true ∧ (svS d (wrT y) t).code = 0)) := by
    rw [hA, hC]
    by_cases h2 : (svV d (rdW (wrT y))).code = 2
    · rw [if_pos h2]; exact ⟨f2, .inl rfl⟩
    · rw [if_neg h2]
      by_cases h3 : scsi.doC d (rdW (wrT y)).cmd (gvS d (wrT y) t) = 0
      · obtain ⟨a1, a2⟩ := sv_ans (g := gvS d (wrT y) t) k1 k4 h2 h3
        refine ⟨a2, ?_⟩
        by_cases hd : (hsV (rdW (wrT y))).dir = 1
        · right
          rw [r2] at hd
          refine ⟨?_, ?_⟩
          · rw [hs_dir] at hd
            cases hi : y.inn
            · rw [hi] at hd
              split at hd
              · cases hd
              · exact absurd hd (by decide)
            · rfl
          · unfold svC
            rw [if_neg h2, if_neg (fun q => q h3)]
        · exact .inl (a1 hd)
      · rw [(scsi.do_none h3).1]
        exact ⟨f2, .inl rfl⟩
  rw [hR, hT]
  have hR2 : (svV d (rdW (wrT y))).res = (rdW (wrT y)).len - (svV d (rdW (wrT y))).moved := f4
  obtain ⟨b1, b2⟩ := hB
  generalize svA d (wrT y) t = A at *
  generalize svS d (wrT y) t = Z at *
  generalize svV d (rdW (wrT y)) = V at *
  generalize rdW (wrT y) = x at *
  subst r2
  exact ⟨hs, rfl, by omega, by omega, by omega, b2, f7.2⟩
set_option maxHeartbeats 16000000 in
theorem walk (x0 : Value) (l0 : List ByteArray) (s0 : Int) (y : Wp) (t : ByteArray) (ht : t.size ≤ maxLen) (w : World) (hp : Rts w x0 l0) (hk : l0.length * 16 ≤ reachBytes) (hx : y.cmd.size ≤ maxLen) :
    Calls Try.prog 3 #[ag (dkl x0 s0), ag (wpl y), .string t] w fun e w' => e = .returned (.bool true) ∧ Below w.heap.size w w' := by
  have HL : Hid (∀ u, Calls Try.prog 5 #[] u fun e w' => e = .returned (.bool true) ∧ Below u.heap.size u w') := fun u => lives_any u
  have H1 : Hid (∀ u, Calls Try.prog 4 #[ag (wpl y)] u fun e w' => e = .returned (.tuple #[.string (wrT y), .int .i64 (wrC y)]) ∧ Below u.heap.size u w') := fun u => writeWrap_any y hx u
  have hC0 := rtp hp
  have hM := Mm.nil w
  cases hy : wk y
  case false =>
    have e1 : wrC y = 1 := if_neg (by rw [hy]; simp)
    rw [e1] at H1
    generalize wrT y = s at *
    clear e1 hy hx ht hk hp hC0
    go_enter Try.func3, Try.ntmps3
    repeat' (first | (go_big_may; first | (refine v_box rfl rfl rfl ?_; intro u zd hN; replace hM := Mm.new (L := []) hM hN; clear hN) | (refine v_box rfl rfl rfl ?_; intro u zw hN; replace hM := hM.new hN; clear hN) | (refine v_load rfl rfl row_wrap rfl hM.at0 (Nat.le_refl _) (cut_all rfl) ?_)) | go_values | go_skip | go_guarded | go_step | go_upon | (simp only [Int.not_lt, Int.not_le] at *; go_simp))
    refine (H1.out _).mono ?_
    rintro e u1 ⟨rfl, hb⟩
    replace hM := hM.call hb
    clear hb H1
    repeat' (first | go_values | go_skip | go_guarded | go_step | go_upon | (simp only [Int.not_lt, Int.not_le] at *; go_simp))
    refine (HL.out _).mono ?_
    rintro e u1 ⟨rfl, hb⟩
    replace hM := hM.call hb
    clear hb
    repeat' (first | go_values | go_skip | go_guarded | go_step | go_upon | (simp only [Int.not_lt, Int.not_le] at *; go_simp))
    refine (HL.out _).mono ?_
    rintro e u1 ⟨rfl, hb⟩
    replace hM := hM.call hb
    clear hb HL
    repeat' (first | go_values | go_skip | go_guarded | go_step | go_upon | (simp only [Int.not_lt, Int.not_le] at *; go_simp))
    go_ret
    exact ⟨rfl, hM.below⟩
  have e1 : wrC y = 0 := if_pos hy
  rw [e1] at H1
  have hsz : (wrT y).size ≤ maxLen := by rw [wr_size hy]; decide
  obtain ⟨A, hA⟩ : ∃ A, svA ⟨l0, s0⟩ (wrT y) t = A := ⟨_, rfl⟩
  obtain ⟨T, hT⟩ : ∃ T, svT ⟨l0, s0⟩ (wrT y) t = T := ⟨_, rfl⟩
  obtain ⟨C, hC⟩ : ∃ C, tkE ⟨l0, s0⟩ (wrT y) t = C := ⟨_, rfl⟩
  obtain ⟨N, hN⟩ : ∃ N, (svD ⟨l0, s0⟩ (wrT y) t).b = N := ⟨_, rfl⟩
  obtain ⟨S, hS⟩ : ∃ S, (svD ⟨l0, s0⟩ (wrT y) t).s = S := ⟨_, rfl⟩
  have H2 : Hid (∀ u, Rts u x0 l0 → Calls Try.prog 6 #[ag (dkl x0 s0), .string (wrT y), .string t] u fun e w' => ∃ a cp, e = .returned (.tuple #[ag (dkl (.slice a N.length cp) S), .string A, .string T, .int .i64 C]) ∧ Rts w' (.slice a N.length cp) N ∧ Below u.heap.size u w') := fun u hu => by
    refine (serve_any x0 ⟨l0, s0⟩ (wrT y) t u hu (by unfold reachBytes at hk; show l0.length ≤ _; omega) hsz ht).mono ?_
    rintro e w' ⟨v', rfl, hr, hb⟩
    rw [hN] at hr
    obtain ⟨a, cp, rfl, _, _⟩ := hr.form
    exact ⟨a, cp, by rw [hA, hT, hC, hS], hr.rts, hb⟩
  by_cases h0 : C ≠ 0
  · have hN1 : N = l0 := by rw [← hN]; unfold svD; rw [if_pos (by rw [hC]; exact h0)]
    have hS1 : S = s0 := by rw [← hS]; unfold svD; rw [if_pos (by rw [hC]; exact h0)]
    have hA1 : A = ⟨#[]⟩ := by rw [← hA]; unfold svA; rw [if_pos (by rw [hC]; exact h0)]
    have hT1 : T = ⟨#[]⟩ := by rw [← hT]; unfold svT; rw [if_pos (by rw [hC]; exact h0)]
    subst hN1 hS1 hA1 hT1
    have H3 : Hid (∀ v1 v2 u, Rts u v1 N → Rts u v2 N → Calls Try.prog 7 #[ag (dkl v1 S), ag (dkl v2 S)] u fun e w' => e = .returned (.bool true) ∧ Below u.heap.size u w') := fun v1 v2 u a b => by
      have := scsi.same_any v1 v2 N N S S u a b
      rw [decide_eq_true rfl, decide_eq_true rfl] at this
      exact this
    have e2 : (C != 0) = true := by simp [h0]
    generalize wrT y = s at *
    clear e1 hy hx ht hk hp hA hT hC hN hS h0 hsz
    generalize hnn : N.length = nn at *
    clear hnn
    go_enter Try.func3, Try.ntmps3
    repeat' (first | (go_big_may; first | (refine v_box rfl rfl rfl ?_; intro u zd hN; replace hM := Mm.new (L := []) hM hN; clear hN) | (refine v_box rfl rfl rfl ?_; intro u zw hN; replace hM := hM.new hN; clear hN) | (refine v_load rfl rfl row_wrap rfl hM.at0 (Nat.le_refl _) (cut_all rfl) ?_)) | go_values | go_skip | go_guarded | go_step | go_upon | (simp only [Int.not_lt, Int.not_le] at *; go_simp))
    refine (H1.out _).mono ?_
    rintro e u1 ⟨rfl, hb⟩
    replace hM := hM.call hb
    clear hb H1
    repeat' (first | go_values | go_skip | go_guarded | go_step | go_upon | (simp only [Int.not_lt, Int.not_le] at *; go_simp))
    refine (HL.out _).mono ?_
    rintro e u1 ⟨rfl, hb⟩
    replace hM := hM.call hb
    clear hb
    repeat' (first | (go_big_may; first | (refine v_load rfl rfl row_disk rfl hM.at1 (Nat.le_refl _) (cut_all rfl) ?_)) | go_values | go_skip | go_guarded | go_step | go_upon | (simp only [Int.not_lt, Int.not_le] at *; go_simp))
    refine (H2.out _ (hC0.call hM.below).out).mono ?_
    rintro e u1 ⟨xa, xc, rfl, hr, hb⟩
    replace hM := hM.call hb
    have hR := rtp hr
    clear hb hr H2
    repeat' (first | (go_big_may; first | (refine v_alloc rfl zer_disk rfl ?_; intro u za hN; replace hR := hR.call hN.below; replace hM := hM.new hN; clear hN) | (refine v_fill rfl rfl row_disk rfl rfl hM.at0 (dkl_vs (v := .slice xa nn xc) S rfl) rfl ?_; intro u hv hc; replace hR := rtp (rtz_chg hR.out hM.at0 (fun x q => by cases q) hc); replace hM := hM.put0 hc hv; clear hv hc) | (refine v_load rfl rfl row_disk rfl hM.at0 (Nat.le_refl _) (cut_all rfl) ?_) | (refine v_load rfl rfl row_disk rfl hM.at2 (Nat.le_refl _) (cut_all rfl) ?_)) | go_values | go_skip | go_guarded | go_step | go_upon | (simp only [Int.not_lt, Int.not_le] at *; go_simp))
    refine (H3.out _ _ _ hR.out (hC0.call hM.below).out).mono ?_
    rintro e u3 ⟨rfl, hb⟩
    replace hM := hM.call hb
    clear hb H3 hR hC0
    repeat' (first | go_values | go_skip | go_guarded | go_step | go_upon | (simp only [Int.not_lt, Int.not_le] at *; go_simp))
    go_ret
    exact ⟨rfl, hM.below⟩
  have h0 : C = 0 := Classical.not_not.1 h0
  subst h0
  obtain ⟨g1, g2, g3, g4, g5, g6, g7⟩ := tg hy hC
  have hT2 : T = stT (svS ⟨l0, s0⟩ (wrT y) t) := by rw [← hT]; unfold svT; rw [if_neg (by rw [hC]; exact fun q => q rfl)]
  rw [hA] at g5 g6
  obtain ⟨Z, hZ⟩ : ∃ Z, svS ⟨l0, s0⟩ (wrT y) t = Z := ⟨_, rfl⟩
  rw [hZ] at g1 g2 g3 g4 g5 g6 hT2
  have H3 : Hid (∀ u, Calls Try.prog 8 #[.string T] u fun e w' => e = .returned (.tuple #[ag (spl Z), .int .i64 0]) ∧ Below u.heap.size u w') := fun u => by
    have := readStatus_any T (by rw [hT2, st_size g1]; decide) u
    rw [hT2, (rs_ok g1).1, (rs_ok g1).2, ← hT2] at this
    exact this
  generalize wrT y = s at *
  clear e1 hx ht hk hp hA hT hC hN hS hsz hT2 g1 hZ
  obtain ⟨tag, len, inn, unit, cmd⟩ := y
  obtain ⟨ztag, res, code⟩ := Z
  simp only at g2 g3 g4 g5 g6 g7
  subst g2
  obtain ⟨n, hn⟩ : ∃ n, A.size = n := ⟨_, rfl⟩
  obtain ⟨D, hD⟩ : ∃ D, len - res = D := ⟨_, rfl⟩
  have t0 : IntKind.i64.wrap (len - res) = D := by rw [IntKind.wrap_i64]; omega
  have t1 : decide (res ≤ len) = true := decide_eq_true g4
  have t2 : (n : Int) ≤ D := by omega
  clear hy
  by_cases h6 : A.size = 0
  · have hA0 : A = ⟨#[]⟩ := size_nil h6
    have t5 : (A.toList == []) = true := by rw [hA0, nil_list]; rfl
    clear g6 h6 hA0
    generalize hnn : N.length = nn at *
    clear hnn
    go_enter Try.func3, Try.ntmps3
    repeat' (first | (go_big_may; first | (refine v_box rfl rfl rfl ?_; intro u zd hN; replace hM := Mm.new (L := []) hM hN; clear hN) | (refine v_box rfl rfl rfl ?_; intro u zw hN; replace hM := hM.new hN; clear hN) | (refine v_load rfl rfl row_wrap rfl hM.at0 (Nat.le_refl _) (cut_all rfl) ?_)) | go_values | go_skip | go_guarded | go_step | go_upon | (simp only [Int.not_lt, Int.not_le] at *; go_simp))
    refine (H1.out _).mono ?_
    rintro e u1 ⟨rfl, hb⟩
    replace hM := hM.call hb
    clear hb H1
    repeat' (first | go_values | go_skip | go_guarded | go_step | go_upon | (simp only [Int.not_lt, Int.not_le] at *; go_simp))
    refine (HL.out _).mono ?_
    rintro e u1 ⟨rfl, hb⟩
    replace hM := hM.call hb
    clear hb HL
    repeat' (first | (go_big_may; first | (refine v_load rfl rfl row_disk rfl hM.at1 (Nat.le_refl _) (cut_all rfl) ?_)) | go_values | go_skip | go_guarded | go_step | go_upon | (simp only [Int.not_lt, Int.not_le] at *; go_simp))
    refine (H2.out _ (hC0.call hM.below).out).mono ?_
    rintro e u1 ⟨xa, xc, rfl, hr, hb⟩
    replace hM := hM.call hb
    clear hb hr H2
    repeat' (first | (go_big_may; first | (refine v_alloc rfl zer_disk rfl ?_; intro u za hN; replace hM := hM.new hN; clear hN) | (refine v_fill rfl rfl row_disk rfl rfl hM.at0 (dkl_vs (v := .slice xa nn xc) S rfl) rfl ?_; intro u hv hc; replace hM := hM.put0 hc hv; clear hv hc)) | go_values | go_skip | go_guarded | go_step | go_upon | (simp only [Int.not_lt, Int.not_le] at *; go_simp))
    refine (H3.out _).mono ?_
    rintro e u3 ⟨rfl, hb⟩
    replace hM := hM.call hb
    clear hb H3 hC0
    go_upto_region 8 with (first | (refine v_alloc rfl zer_status rfl ?_; intro u zs hN; replace hM := hM.new hN; clear hN) | (refine v_fill rfl rfl row_status rfl rfl hM.at0 (spl_vs ⟨ztag, res, code⟩) rfl ?_; intro u hv hc; replace hM := hM.put0 hc hv; clear hv hc))
    -- PLAIN true
    refine reg.wp_abs (fun a0 => a0.tmps.size = 92 ∧ a0.defers = [] ∧ a0.tmps[4]? = some (.pointer (some ⟨zw, 0, none⟩)) ∧ a0.tmps[10]? = some (.string A) ∧ a0.tmps[12]? = some (.pointer (some ⟨zs, 0, none⟩)) ∧ a0.tmps[13]? = some (.int .i64 0)) ⟨rfl, rfl, rfl, rfl, rfl, rfl⟩ ?_
    rintro a0 ⟨fz, fd, f4, f10, f12, f13⟩ ha0
    clear ha0
    go_step
    try simp only [List.append_eq, List.cons_append, List.nil_append]
    refine p_val (v := .int .i64 0) rfl rfl (by simp only [execOp, ev_con, ev_of f13]; simp [go_sem]) (by rw [fz]; decide) ?_
    intro b1 hk hv hz hf
    replace fz := hz.trans fz
    replace fd := hf.trans fd
    replace f4 := (hk 4 (by decide)).trans f4
    replace f10 := (hk 10 (by decide)).trans f10
    replace f12 := (hk 12 (by decide)).trans f12
    clear f13
    have f53 := hv
    clear hk hv hz hf
    refine p_val (v := .bool true) rfl rfl (by simp only [execOp, ev_con, ev_of f53]; simp [go_sem]) (by rw [fz]; decide) ?_
    intro b2 hk hv hz hf
    replace fz := hz.trans fz
    replace fd := hf.trans fd
    replace f4 := (hk 4 (by decide)).trans f4
    replace f10 := (hk 10 (by decide)).trans f10
    replace f12 := (hk 12 (by decide)).trans f12
    clear f53
    have f54 := hv
    clear hk hv hz hf
    refine p_val (v := .bool true) rfl rfl (by simp only [execOp, ev_con, ev_of f54]; simp [go_sem]) (by rw [fz]; decide) ?_
    intro b3 hk hv hz hf
    replace fz := hz.trans fz
    replace fd := hf.trans fd
    replace f4 := (hk 4 (by decide)).trans f4
    replace f10 := (hk 10 (by decide)).trans f10
    replace f12 := (hk 12 (by decide)).trans f12
    clear f54
    have f55 := hv
    clear hk hv hz hf
    refine p_val (v := .pointer (some ⟨zs, 0, none⟩)) ((wt_of rfl (by kernel_rfl) _ f55).trans rfl) rfl (x_fld (r := 0) rfl f12 (fun w => by kernel_rfl)) (by rw [fz]; decide) ?_
    intro b4 hk hv hz hf
    replace fz := hz.trans fz
    replace fd := hf.trans fd
    replace f4 := (hk 4 (by decide)).trans f4
    replace f10 := (hk 10 (by decide)).trans f10
    replace f12 := (hk 12 (by decide)).trans f12
    replace f55 := (hk 55 (by decide)).trans f55
    have f56 := hv
    clear hk hv hz hf
    refine p_val (v := .int .i64 ztag) ((wt_of rfl (by kernel_rfl) _ f55).trans rfl) rfl (p_get (v := .int .i64 ztag) rfl f56 hM.at0 rfl) (by rw [fz]; decide) ?_
    intro b5 hk hv hz hf
    replace fz := hz.trans fz
    replace fd := hf.trans fd
    replace f4 := (hk 4 (by decide)).trans f4
    replace f10 := (hk 10 (by decide)).trans f10
    replace f12 := (hk 12 (by decide)).trans f12
    replace f55 := (hk 55 (by decide)).trans f55
    clear f56
    have f57 := hv
    clear hk hv hz hf
    refine p_val (v := .pointer (some ⟨zw, 0, none⟩)) ((wt_of rfl (by kernel_rfl) _ f55).trans rfl) rfl (x_fld (r := 0) rfl f4 (fun w => by kernel_rfl)) (by rw [fz]; decide) ?_
    intro b6 hk hv hz hf
    replace fz := hz.trans fz
    replace fd := hf.trans fd
    replace f4 := (hk 4 (by decide)).trans f4
    replace f10 := (hk 10 (by decide)).trans f10
    replace f12 := (hk 12 (by decide)).trans f12
    replace f55 := (hk 55 (by decide)).trans f55
    replace f57 := (hk 57 (by decide)).trans f57
    have f58 := hv
    clear hk hv hz hf
    refine p_val (v := .int .i64 ztag) ((wt_of rfl (by kernel_rfl) _ f55).trans rfl) rfl (p_get (v := .int .i64 ztag) rfl f58 hM.at2 rfl) (by rw [fz]; decide) ?_
    intro b7 hk hv hz hf
    replace fz := hz.trans fz
    replace fd := hf.trans fd
    replace f4 := (hk 4 (by decide)).trans f4
    replace f10 := (hk 10 (by decide)).trans f10
    replace f12 := (hk 12 (by decide)).trans f12
    replace f55 := (hk 55 (by decide)).trans f55
    replace f57 := (hk 57 (by decide)).trans f57
    clear f58
    have f59 := hv
    clear hk hv hz hf
    refine p_val (v := .bool true) ((wt_of rfl (by kernel_rfl) _ f55).trans rfl) rfl (by simp only [execOp, ev_con, ev_of f57, ev_of f59]; simp [go_sem]) (by rw [fz]; decide) ?_
    intro b8 hk hv hz hf
    replace fz := hz.trans fz
    replace fd := hf.trans fd
    replace f4 := (hk 4 (by decide)).trans f4
    replace f10 := (hk 10 (by decide)).trans f10
    replace f12 := (hk 12 (by decide)).trans f12
    replace f55 := (hk 55 (by decide)).trans f55
    clear f57 f59
    have f60 := hv
    clear hk hv hz hf
    refine p_val (v := .bool true) rfl rfl (by simp only [execOp, ev_con, ev_of f55, ev_of f60]; simp [go_sem]) (by rw [fz]; decide) ?_
    intro b9 hk hv hz hf
    replace fz := hz.trans fz
    replace fd := hf.trans fd
    replace f4 := (hk 4 (by decide)).trans f4
    replace f10 := (hk 10 (by decide)).trans f10
    replace f12 := (hk 12 (by decide)).trans f12
    clear f55 f60
    have f61 := hv
    clear hk hv hz hf
    refine p_val (v := .bool true) rfl rfl (by simp only [execOp, ev_con, ev_of f61]; simp [go_sem]) (by rw [fz]; decide) ?_
    intro b10 hk hv hz hf
    replace fz := hz.trans fz
    replace fd := hf.trans fd
    replace f4 := (hk 4 (by decide)).trans f4
    replace f10 := (hk 10 (by decide)).trans f10
    replace f12 := (hk 12 (by decide)).trans f12
    clear f61
    have f62 := hv
    clear hk hv hz hf
    refine p_val (v := .pointer (some ⟨zs, 1, none⟩)) ((wt_of rfl (by kernel_rfl) _ f62).trans rfl) rfl (x_fld (r := 1) rfl f12 (fun w => by kernel_rfl)) (by rw [fz]; decide) ?_
    intro b11 hk hv hz hf
    replace fz := hz.trans fz
    replace fd := hf.trans fd
    replace f4 := (hk 4 (by decide)).trans f4
    replace f10 := (hk 10 (by decide)).trans f10
    replace f12 := (hk 12 (by decide)).trans f12
    replace f62 := (hk 62 (by decide)).trans f62
    have f63 := hv
    clear hk hv hz hf
    refine p_val (v := .int .i64 res) ((wt_of rfl (by kernel_rfl) _ f62).trans rfl) rfl (p_get (v := .int .i64 res) rfl f63 hM.at0 rfl) (by rw [fz]; decide) ?_
    intro b12 hk hv hz hf
    replace fz := hz.trans fz
    replace fd := hf.trans fd
    replace f4 := (hk 4 (by decide)).trans f4
    replace f10 := (hk 10 (by decide)).trans f10
    replace f12 := (hk 12 (by decide)).trans f12
    replace f62 := (hk 62 (by decide)).trans f62
    clear f63
    have f64 := hv
    clear hk hv hz hf
    refine p_val (v := .pointer (some ⟨zw, 1, none⟩)) ((wt_of rfl (by kernel_rfl) _ f62).trans rfl) rfl (x_fld (r := 1) rfl f4 (fun w => by kernel_rfl)) (by rw [fz]; decide) ?_
    intro b13 hk hv hz hf
    replace fz := hz.trans fz
    replace fd := hf.trans fd
    replace f4 := (hk 4 (by decide)).trans f4
    replace f10 := (hk 10 (by decide)).trans f10
    replace f12 := (hk 12 (by decide)).trans f12
    replace f62 := (hk 62 (by decide)).trans f62
    replace f64 := (hk 64 (by decide)).trans f64
    have f65 := hv
    clear hk hv hz hf
    refine p_val (v := .int .i64 len) ((wt_of rfl (by kernel_rfl) _ f62).trans rfl) rfl (p_get (v := .int .i64 len) rfl f65 hM.at2 rfl) (by rw [fz]; decide) ?_
    intro b14 hk hv hz hf
    replace fz := hz.trans fz
    replace fd := hf.trans fd
    replace f4 := (hk 4 (by decide)).trans f4
    replace f10 := (hk 10 (by decide)).trans f10
    replace f12 := (hk 12 (by decide)).trans f12
    replace f62 := (hk 62 (by decide)).trans f62
    replace f64 := (hk 64 (by decide)).trans f64
    clear f65
    have f66 := hv
    clear hk hv hz hf
    refine p_val (v := .bool true) ((wt_of rfl (by kernel_rfl) _ f62).trans rfl) rfl (by simp only [execOp, ev_con, ev_of f64, ev_of f66]; simp [go_sem, g4]) (by rw [fz]; decide) ?_
    intro b15 hk hv hz hf
    replace fz := hz.trans fz
    replace fd := hf.trans fd
    replace f4 := (hk 4 (by decide)).trans f4
    replace f10 := (hk 10 (by decide)).trans f10
    replace f12 := (hk 12 (by decide)).trans f12
    replace f62 := (hk 62 (by decide)).trans f62
    clear f64 f66
    have f67 := hv
    clear hk hv hz hf
    refine p_val (v := .bool true) rfl rfl (by simp only [execOp, ev_con, ev_of f62, ev_of f67]; simp [go_sem]) (by rw [fz]; decide) ?_
    intro b16 hk hv hz hf
    replace fz := hz.trans fz
    replace fd := hf.trans fd
    replace f4 := (hk 4 (by decide)).trans f4
    replace f10 := (hk 10 (by decide)).trans f10
    replace f12 := (hk 12 (by decide)).trans f12
    clear f62 f67
    have f68 := hv
    clear hk hv hz hf
    refine p_val (v := .bool true) rfl rfl (by simp only [execOp, ev_con, ev_of f68]; simp [go_sem]) (by rw [fz]; decide) ?_
    intro b17 hk hv hz hf
    replace fz := hz.trans fz
    replace fd := hf.trans fd
    replace f4 := (hk 4 (by decide)).trans f4
    replace f10 := (hk 10 (by decide)).trans f10
    replace f12 := (hk 12 (by decide)).trans f12
    clear f68
    have f69 := hv
    clear hk hv hz hf
    refine p_val (v := .string A) ((wt_of rfl (by kernel_rfl) _ f69).trans rfl) rfl (by simp only [execOp, ev_con, ev_of f10]; simp [go_sem]) (by rw [fz]; decide) ?_
    intro b18 hk hv hz hf
    replace fz := hz.trans fz
    replace fd := hf.trans fd
    replace f4 := (hk 4 (by decide)).trans f4
    replace f10 := (hk 10 (by decide)).trans f10
    replace f12 := (hk 12 (by decide)).trans f12
    replace f69 := (hk 69 (by decide)).trans f69
    have f70 := hv
    clear hk hv hz hf
    refine p_val (v := .int .i64 n) ((wt_of rfl (by kernel_rfl) _ f69).trans rfl) rfl (by simp only [execOp, ev_con, ev_of f70]; simp [go_sem, f70, hn]) (by rw [fz]; decide) ?_
    intro b19 hk hv hz hf
    replace fz := hz.trans fz
    replace fd := hf.trans fd
    replace f4 := (hk 4 (by decide)).trans f4
    replace f10 := (hk 10 (by decide)).trans f10
    replace f12 := (hk 12 (by decide)).trans f12
    replace f69 := (hk 69 (by decide)).trans f69
    clear f70
    have f71 := hv
    clear hk hv hz hf
    refine p_val (v := .pointer (some ⟨zw, 1, none⟩)) ((wt_of rfl (by kernel_rfl) _ f69).trans rfl) rfl (x_fld (r := 1) rfl f4 (fun w => by kernel_rfl)) (by rw [fz]; decide) ?_
    intro b20 hk hv hz hf
    replace fz := hz.trans fz
    replace fd := hf.trans fd
    replace f4 := (hk 4 (by decide)).trans f4
    replace f10 := (hk 10 (by decide)).trans f10
    replace f12 := (hk 12 (by decide)).trans f12
    replace f69 := (hk 69 (by decide)).trans f69
    replace f71 := (hk 71 (by decide)).trans f71
    have f72 := hv
    clear hk hv hz hf
    refine p_val (v := .int .i64 len) ((wt_of rfl (by kernel_rfl) _ f69).trans rfl) rfl (p_get (v := .int .i64 len) rfl f72 hM.at2 rfl) (by rw [fz]; decide) ?_
    intro b21 hk hv hz hf
    replace fz := hz.trans fz
    replace fd := hf.trans fd
    replace f4 := (hk 4 (by decide)).trans f4
    replace f10 := (hk 10 (by decide)).trans f10
    replace f12 := (hk 12 (by decide)).trans f12
    replace f69 := (hk 69 (by decide)).trans f69
    replace f71 := (hk 71 (by decide)).trans f71
    clear f72
    have f73 := hv
    clear hk hv hz hf
    refine p_val (v := .pointer (some ⟨zs, 1, none⟩)) ((wt_of rfl (by kernel_rfl) _ f69).trans rfl) rfl (x_fld (r := 1) rfl f12 (fun w => by kernel_rfl)) (by rw [fz]; decide) ?_
    intro b22 hk hv hz hf
    replace fz := hz.trans fz
    replace fd := hf.trans fd
    replace f4 := (hk 4 (by decide)).trans f4
    replace f10 := (hk 10 (by decide)).trans f10
    replace f12 := (hk 12 (by decide)).trans f12
    replace f69 := (hk 69 (by decide)).trans f69
    replace f71 := (hk 71 (by decide)).trans f71
    replace f73 := (hk 73 (by decide)).trans f73
    have f74 := hv
    clear hk hv hz hf
    refine p_val (v := .int .i64 res) ((wt_of rfl (by kernel_rfl) _ f69).trans rfl) rfl (p_get (v := .int .i64 res) rfl f74 hM.at0 rfl) (by rw [fz]; decide) ?_
    intro b23 hk hv hz hf
    replace fz := hz.trans fz
    replace fd := hf.trans fd
    replace f4 := (hk 4 (by decide)).trans f4
    replace f10 := (hk 10 (by decide)).trans f10
    replace f12 := (hk 12 (by decide)).trans f12
    replace f69 := (hk 69 (by decide)).trans f69
    replace f71 := (hk 71 (by decide)).trans f71
    replace f73 := (hk 73 (by decide)).trans f73
    clear f74
    have f75 := hv
    clear hk hv hz hf
    refine p_val (v := .int .i64 D) ((wt_of rfl (by kernel_rfl) _ f69).trans rfl) rfl (by simp only [execOp, ev_con, ev_of f73, ev_of f75]; simp [go_sem, t0]) (by rw [fz]; decide) ?_
    intro b24 hk hv hz hf
    replace fz := hz.trans fz
    replace fd := hf.trans fd
    replace f4 := (hk 4 (by decide)).trans f4
    replace f10 := (hk 10 (by decide)).trans f10
    replace f12 := (hk 12 (by decide)).trans f12
    replace f69 := (hk 69 (by decide)).trans f69
    replace f71 := (hk 71 (by decide)).trans f71
    clear f73 f75
    have f76 := hv
    clear hk hv hz hf
    refine p_val (v := .bool true) ((wt_of rfl (by kernel_rfl) _ f69).trans rfl) rfl (by simp only [execOp, ev_con, ev_of f71, ev_of f76]; simp [go_sem, t2]) (by rw [fz]; decide) ?_
    intro b25 hk hv hz hf
    replace fz := hz.trans fz
    replace fd := hf.trans fd
    replace f4 := (hk 4 (by decide)).trans f4
    replace f10 := (hk 10 (by decide)).trans f10
    replace f12 := (hk 12 (by decide)).trans f12
    replace f69 := (hk 69 (by decide)).trans f69
    clear f71 f76
    have f77 := hv
    clear hk hv hz hf
    refine p_val (v := .bool true) rfl rfl (by simp only [execOp, ev_con, ev_of f69, ev_of f77]; simp [go_sem]) (by rw [fz]; decide) ?_
    intro b26 hk hv hz hf
    replace fz := hz.trans fz
    replace fd := hf.trans fd
    replace f4 := (hk 4 (by decide)).trans f4
    replace f10 := (hk 10 (by decide)).trans f10
    replace f12 := (hk 12 (by decide)).trans f12
    clear f69 f77
    have f78 := hv
    clear hk hv hz hf
    refine p_val (v := .bool true) rfl rfl (by simp only [execOp, ev_con, ev_of f78]; simp [go_sem]) (by rw [fz]; decide) ?_
    intro b27 hk hv hz hf
    replace fz := hz.trans fz
    replace fd := hf.trans fd
    replace f4 := (hk 4 (by decide)).trans f4
    replace f10 := (hk 10 (by decide)).trans f10
    replace f12 := (hk 12 (by decide)).trans f12
    clear f78
    have f79 := hv
    clear hk hv hz hf
    refine p_val (v := .string A) ((wt_of rfl (by kernel_rfl) _ f79).trans rfl) rfl (by simp only [execOp, ev_con, ev_of f10]; simp [go_sem]) (by rw [fz]; decide) ?_
    intro b28 hk hv hz hf
    replace fz := hz.trans fz
    replace fd := hf.trans fd
    replace f4 := (hk 4 (by decide)).trans f4
    replace f12 := (hk 12 (by decide)).trans f12
    replace f79 := (hk 79 (by decide)).trans f79
    clear f10
    have f80 := hv
    clear hk hv hz hf
    refine p_val (v := .bool true) ((wt_of rfl (by kernel_rfl) _ f79).trans rfl) rfl (by simp only [execOp, ev_con, ev_of f80]; simp [go_sem, nil_list, t5]) (by rw [fz]; decide) ?_
    intro b29 hk hv hz hf
    replace fz := hz.trans fz
    replace fd := hf.trans fd
    replace f4 := (hk 4 (by decide)).trans f4
    replace f12 := (hk 12 (by decide)).trans f12
    replace f79 := (hk 79 (by decide)).trans f79
    clear f80
    have f81 := hv
    clear hk hv hz hf
    refine p_val (v := .bool true) ((wt_of rfl (by kernel_rfl) _ f79).trans rfl) rfl (by simp only [execOp, ev_con, ev_of f81]; simp [go_sem]) (by rw [fz]; decide) ?_
    intro b30 hk hv hz hf
    replace fz := hz.trans fz
    replace fd := hf.trans fd
    replace f4 := (hk 4 (by decide)).trans f4
    replace f12 := (hk 12 (by decide)).trans f12
    replace f79 := (hk 79 (by decide)).trans f79
    clear f81
    have f82 := hv
    clear hk hv hz hf
    refine p_not ((wt_of rfl (by kernel_rfl) _ f82).trans rfl) rfl (by rw [fz]; decide) ?_
    intro b31 hk hv hz hf
    replace fz := hz.trans fz
    replace fd := hf.trans fd
    replace f12 := (hk 12 (by decide)).trans f12
    replace f79 := (hk 79 (by decide)).trans f79
    replace f82 := (hk 82 (by decide)).trans f82
    clear f4
    have f83 := hv
    clear hk hv hz hf
    refine p_not ((wt_of rfl (by kernel_rfl) _ f82).trans rfl) rfl (by rw [fz]; decide) ?_
    intro b32 hk hv hz hf
    replace fz := hz.trans fz
    replace fd := hf.trans fd
    replace f12 := (hk 12 (by decide)).trans f12
    replace f79 := (hk 79 (by decide)).trans f79
    replace f82 := (hk 82 (by decide)).trans f82
    clear f83
    have f84 := hv
    clear hk hv hz hf
    refine p_not ((wt_of rfl (by kernel_rfl) _ f82).trans rfl) rfl (by rw [fz]; decide) ?_
    intro b33 hk hv hz hf
    replace fz := hz.trans fz
    replace fd := hf.trans fd
    replace f12 := (hk 12 (by decide)).trans f12
    replace f79 := (hk 79 (by decide)).trans f79
    replace f82 := (hk 82 (by decide)).trans f82
    clear f84
    have f85 := hv
    clear hk hv hz hf
    refine p_not (wt_und rfl (by kernel_rfl) f85) rfl (by rw [fz]; decide) ?_
    intro b34 hk hv hz hf
    replace fz := hz.trans fz
    replace fd := hf.trans fd
    replace f79 := (hk 79 (by decide)).trans f79
    replace f82 := (hk 82 (by decide)).trans f82
    replace f85 := (hk 85 (by decide)).trans f85
    clear f12
    have f86 := hv
    clear hk hv hz hf
    refine p_not (wt_und rfl (by kernel_rfl) f85) rfl (by rw [fz]; decide) ?_
    intro b35 hk hv hz hf
    replace fz := hz.trans fz
    replace fd := hf.trans fd
    replace f79 := (hk 79 (by decide)).trans f79
    replace f82 := (hk 82 (by decide)).trans f82
    replace f85 := (hk 85 (by decide)).trans f85
    clear f86
    have f87 := hv
    clear hk hv hz hf
    refine p_not (wt_und rfl (by kernel_rfl) f85) rfl (by rw [fz]; decide) ?_
    intro b36 hk hv hz hf
    replace fz := hz.trans fz
    replace fd := hf.trans fd
    replace f79 := (hk 79 (by decide)).trans f79
    replace f82 := (hk 82 (by decide)).trans f82
    replace f85 := (hk 85 (by decide)).trans f85
    clear f87
    have f88 := hv
    clear hk hv hz hf
    refine p_not ((wt_of rfl (by kernel_rfl) _ f82).trans rfl) rfl (by rw [fz]; decide) ?_
    intro b37 hk hv hz hf
    replace fz := hz.trans fz
    replace fd := hf.trans fd
    replace f79 := (hk 79 (by decide)).trans f79
    replace f82 := (hk 82 (by decide)).trans f82
    clear f85 f88
    have f89 := hv
    clear hk hv hz hf
    refine p_val (v := .bool true) ((wt_of rfl (by kernel_rfl) _ f79).trans rfl) rfl (by simp only [execOp, ev_con, ev_of f82, ev_of f89]; simp [go_sem]) (by rw [fz]; decide) ?_
    intro b38 hk hv hz hf
    replace fz := hz.trans fz
    replace fd := hf.trans fd
    replace f79 := (hk 79 (by decide)).trans f79
    clear f82 f89
    have f90 := hv
    clear hk hv hz hf
    refine p_val (v := .bool true) rfl rfl (by simp only [execOp, ev_con, ev_of f79, ev_of f90]; simp [go_sem]) (by rw [fz]; decide) ?_
    intro b39 hk hv hz hf
    replace fz := hz.trans fz
    replace fd := hf.trans fd
    clear f79 f90
    have f91 := hv
    clear hk hv hz hf
    refine p_val (v := .bool true) rfl rfl (by simp only [execOp, ev_con, ev_of f91]; simp [go_sem]) (by rw [fz]; decide) ?_
    intro b40 hk hv hz hf
    replace fz := hz.trans fz
    replace fd := hf.trans fd
    clear f91
    have f6 := hv
    clear hk hv hz hf
    go_step
    go_step
    go_step
    go_step
    exact bodyPost_ret (ret_t rfl f6) fd ⟨rfl, hM.below⟩
    -- END
  · obtain ⟨g8, g9⟩ : inn = true ∧ code = 0 := g6.resolve_left h6
    subst g8 g9
    have t5 := nil_ne h6
    have t4 : (A.toList == (⟨#[]⟩ : ByteArray).toList) = false := by rw [nil_list]; exact t5
    clear g6 h6
    generalize hnn : N.length = nn at *
    clear hnn
    go_enter Try.func3, Try.ntmps3
    repeat' (first | (go_big_may; first | (refine v_box rfl rfl rfl ?_; intro u zd hN; replace hM := Mm.new (L := []) hM hN; clear hN) | (refine v_box rfl rfl rfl ?_; intro u zw hN; replace hM := hM.new hN; clear hN) | (refine v_load rfl rfl row_wrap rfl hM.at0 (Nat.le_refl _) (cut_all rfl) ?_)) | go_values | go_skip | go_guarded | go_step | go_upon | (simp only [Int.not_lt, Int.not_le] at *; go_simp))
    refine (H1.out _).mono ?_
    rintro e u1 ⟨rfl, hb⟩
    replace hM := hM.call hb
    clear hb H1
    repeat' (first | go_values | go_skip | go_guarded | go_step | go_upon | (simp only [Int.not_lt, Int.not_le] at *; go_simp))
    refine (HL.out _).mono ?_
    rintro e u1 ⟨rfl, hb⟩
    replace hM := hM.call hb
    clear hb HL
    repeat' (first | (go_big_may; first | (refine v_load rfl rfl row_disk rfl hM.at1 (Nat.le_refl _) (cut_all rfl) ?_)) | go_values | go_skip | go_guarded | go_step | go_upon | (simp only [Int.not_lt, Int.not_le] at *; go_simp))
    refine (H2.out _ (hC0.call hM.below).out).mono ?_
    rintro e u1 ⟨xa, xc, rfl, hr, hb⟩
    replace hM := hM.call hb
    clear hb hr H2
    repeat' (first | (go_big_may; first | (refine v_alloc rfl zer_disk rfl ?_; intro u za hN; replace hM := hM.new hN; clear hN) | (refine v_fill rfl rfl row_disk rfl rfl hM.at0 (dkl_vs (v := .slice xa nn xc) S rfl) rfl ?_; intro u hv hc; replace hM := hM.put0 hc hv; clear hv hc)) | go_values | go_skip | go_guarded | go_step | go_upon | (simp only [Int.not_lt, Int.not_le] at *; go_simp))
    refine (H3.out _).mono ?_
    rintro e u3 ⟨rfl, hb⟩
    replace hM := hM.call hb
    clear hb H3 hC0
    go_upto_region 8 with (first | (refine v_alloc rfl zer_status rfl ?_; intro u zs hN; replace hM := hM.new hN; clear hN) | (refine v_fill rfl rfl row_status rfl rfl hM.at0 (spl_vs ⟨ztag, res, 0⟩) rfl ?_; intro u hv hc; replace hM := hM.put0 hc hv; clear hv hc))
    -- PLAIN false
    refine reg.wp_abs (fun a0 => a0.tmps.size = 92 ∧ a0.defers = [] ∧ a0.tmps[4]? = some (.pointer (some ⟨zw, 0, none⟩)) ∧ a0.tmps[10]? = some (.string A) ∧ a0.tmps[12]? = some (.pointer (some ⟨zs, 0, none⟩)) ∧ a0.tmps[13]? = some (.int .i64 0)) ⟨rfl, rfl, rfl, rfl, rfl, rfl⟩ ?_
    rintro a0 ⟨fz, fd, f4, f10, f12, f13⟩ ha0
    clear ha0
    go_step
    try simp only [List.append_eq, List.cons_append, List.nil_append]
    refine p_val (v := .int .i64 0) rfl rfl (by simp only [execOp, ev_con, ev_of f13]; simp [go_sem]) (by rw [fz]; decide) ?_
    intro b1 hk hv hz hf
    replace fz := hz.trans fz
    replace fd := hf.trans fd
    replace f4 := (hk 4 (by decide)).trans f4
    replace f10 := (hk 10 (by decide)).trans f10
    replace f12 := (hk 12 (by decide)).trans f12
    clear f13
    have f53 := hv
    clear hk hv hz hf
    refine p_val (v := .bool true) rfl rfl (by simp only [execOp, ev_con, ev_of f53]; simp [go_sem]) (by rw [fz]; decide) ?_
    intro b2 hk hv hz hf
    replace fz := hz.trans fz
    replace fd := hf.trans fd
    replace f4 := (hk 4 (by decide)).trans f4
    replace f10 := (hk 10 (by decide)).trans f10
    replace f12 := (hk 12 (by decide)).trans f12
    clear f53
    have f54 := hv
    clear hk hv hz hf
    refine p_val (v := .bool true) rfl rfl (by simp only [execOp, ev_con, ev_of f54]; simp [go_sem]) (by rw [fz]; decide) ?_
    intro b3 hk hv hz hf
    replace fz := hz.trans fz
    replace fd := hf.trans fd
    replace f4 := (hk 4 (by decide)).trans f4
    replace f10 := (hk 10 (by decide)).trans f10
    replace f12 := (hk 12 (by decide)).trans f12
    clear f54
    have f55 := hv
    clear hk hv hz hf
    refine p_val (v := .pointer (some ⟨zs, 0, none⟩)) ((wt_of rfl (by kernel_rfl) _ f55).trans rfl) rfl (x_fld (r := 0) rfl f12 (fun w => by kernel_rfl)) (by rw [fz]; decide) ?_
    intro b4 hk hv hz hf
    replace fz := hz.trans fz
    replace fd := hf.trans fd
    replace f4 := (hk 4 (by decide)).trans f4
    replace f10 := (hk 10 (by decide)).trans f10
    replace f12 := (hk 12 (by decide)).trans f12
    replace f55 := (hk 55 (by decide)).trans f55
    have f56 := hv
    clear hk hv hz hf
    refine p_val (v := .int .i64 ztag) ((wt_of rfl (by kernel_rfl) _ f55).trans rfl) rfl (p_get (v := .int .i64 ztag) rfl f56 hM.at0 rfl) (by rw [fz]; decide) ?_
    intro b5 hk hv hz hf
    replace fz := hz.trans fz
    replace fd := hf.trans fd
    replace f4 := (hk 4 (by decide)).trans f4
    replace f10 := (hk 10 (by decide)).trans f10
    replace f12 := (hk 12 (by decide)).trans f12
    replace f55 := (hk 55 (by decide)).trans f55
    clear f56
    have f57 := hv
    clear hk hv hz hf
    refine p_val (v := .pointer (some ⟨zw, 0, none⟩)) ((wt_of rfl (by kernel_rfl) _ f55).trans rfl) rfl (x_fld (r := 0) rfl f4 (fun w => by kernel_rfl)) (by rw [fz]; decide) ?_
    intro b6 hk hv hz hf
    replace fz := hz.trans fz
    replace fd := hf.trans fd
    replace f4 := (hk 4 (by decide)).trans f4
    replace f10 := (hk 10 (by decide)).trans f10
    replace f12 := (hk 12 (by decide)).trans f12
    replace f55 := (hk 55 (by decide)).trans f55
    replace f57 := (hk 57 (by decide)).trans f57
    have f58 := hv
    clear hk hv hz hf
    refine p_val (v := .int .i64 ztag) ((wt_of rfl (by kernel_rfl) _ f55).trans rfl) rfl (p_get (v := .int .i64 ztag) rfl f58 hM.at2 rfl) (by rw [fz]; decide) ?_
    intro b7 hk hv hz hf
    replace fz := hz.trans fz
    replace fd := hf.trans fd
    replace f4 := (hk 4 (by decide)).trans f4
    replace f10 := (hk 10 (by decide)).trans f10
    replace f12 := (hk 12 (by decide)).trans f12
    replace f55 := (hk 55 (by decide)).trans f55
    replace f57 := (hk 57 (by decide)).trans f57
    clear f58
    have f59 := hv
    clear hk hv hz hf
    refine p_val (v := .bool true) ((wt_of rfl (by kernel_rfl) _ f55).trans rfl) rfl (by simp only [execOp, ev_con, ev_of f57, ev_of f59]; simp [go_sem]) (by rw [fz]; decide) ?_
    intro b8 hk hv hz hf
    replace fz := hz.trans fz
    replace fd := hf.trans fd
    replace f4 := (hk 4 (by decide)).trans f4
    replace f10 := (hk 10 (by decide)).trans f10
    replace f12 := (hk 12 (by decide)).trans f12
    replace f55 := (hk 55 (by decide)).trans f55
    clear f57 f59
    have f60 := hv
    clear hk hv hz hf
    refine p_val (v := .bool true) rfl rfl (by simp only [execOp, ev_con, ev_of f55, ev_of f60]; simp [go_sem]) (by rw [fz]; decide) ?_
    intro b9 hk hv hz hf
    replace fz := hz.trans fz
    replace fd := hf.trans fd
    replace f4 := (hk 4 (by decide)).trans f4
    replace f10 := (hk 10 (by decide)).trans f10
    replace f12 := (hk 12 (by decide)).trans f12
    clear f55 f60
    have f61 := hv
    clear hk hv hz hf
    refine p_val (v := .bool true) rfl rfl (by simp only [execOp, ev_con, ev_of f61]; simp [go_sem]) (by rw [fz]; decide) ?_
    intro b10 hk hv hz hf
    replace fz := hz.trans fz
    replace fd := hf.trans fd
    replace f4 := (hk 4 (by decide)).trans f4
    replace f10 := (hk 10 (by decide)).trans f10
    replace f12 := (hk 12 (by decide)).trans f12
    clear f61
    have f62 := hv
    clear hk hv hz hf
    refine p_val (v := .pointer (some ⟨zs, 1, none⟩)) ((wt_of rfl (by kernel_rfl) _ f62).trans rfl) rfl (x_fld (r := 1) rfl f12 (fun w => by kernel_rfl)) (by rw [fz]; decide) ?_
    intro b11 hk hv hz hf
    replace fz := hz.trans fz
    replace fd := hf.trans fd
    replace f4 := (hk 4 (by decide)).trans f4
    replace f10 := (hk 10 (by decide)).trans f10
    replace f12 := (hk 12 (by decide)).trans f12
    replace f62 := (hk 62 (by decide)).trans f62
    have f63 := hv
    clear hk hv hz hf
    refine p_val (v := .int .i64 res) ((wt_of rfl (by kernel_rfl) _ f62).trans rfl) rfl (p_get (v := .int .i64 res) rfl f63 hM.at0 rfl) (by rw [fz]; decide) ?_
    intro b12 hk hv hz hf
    replace fz := hz.trans fz
    replace fd := hf.trans fd
    replace f4 := (hk 4 (by decide)).trans f4
    replace f10 := (hk 10 (by decide)).trans f10
    replace f12 := (hk 12 (by decide)).trans f12
    replace f62 := (hk 62 (by decide)).trans f62
    clear f63
    have f64 := hv
    clear hk hv hz hf
    refine p_val (v := .pointer (some ⟨zw, 1, none⟩)) ((wt_of rfl (by kernel_rfl) _ f62).trans rfl) rfl (x_fld (r := 1) rfl f4 (fun w => by kernel_rfl)) (by rw [fz]; decide) ?_
    intro b13 hk hv hz hf
    replace fz := hz.trans fz
    replace fd := hf.trans fd
    replace f4 := (hk 4 (by decide)).trans f4
    replace f10 := (hk 10 (by decide)).trans f10
    replace f12 := (hk 12 (by decide)).trans f12
    replace f62 := (hk 62 (by decide)).trans f62
    replace f64 := (hk 64 (by decide)).trans f64
    have f65 := hv
    clear hk hv hz hf
    refine p_val (v := .int .i64 len) ((wt_of rfl (by kernel_rfl) _ f62).trans rfl) rfl (p_get (v := .int .i64 len) rfl f65 hM.at2 rfl) (by rw [fz]; decide) ?_
    intro b14 hk hv hz hf
    replace fz := hz.trans fz
    replace fd := hf.trans fd
    replace f4 := (hk 4 (by decide)).trans f4
    replace f10 := (hk 10 (by decide)).trans f10
    replace f12 := (hk 12 (by decide)).trans f12
    replace f62 := (hk 62 (by decide)).trans f62
    replace f64 := (hk 64 (by decide)).trans f64
    clear f65
    have f66 := hv
    clear hk hv hz hf
    refine p_val (v := .bool true) ((wt_of rfl (by kernel_rfl) _ f62).trans rfl) rfl (by simp only [execOp, ev_con, ev_of f64, ev_of f66]; simp [go_sem, g4]) (by rw [fz]; decide) ?_
    intro b15 hk hv hz hf
    replace fz := hz.trans fz
    replace fd := hf.trans fd
    replace f4 := (hk 4 (by decide)).trans f4
    replace f10 := (hk 10 (by decide)).trans f10
    replace f12 := (hk 12 (by decide)).trans f12
    replace f62 := (hk 62 (by decide)).trans f62
    clear f64 f66
    have f67 := hv
    clear hk hv hz hf
    refine p_val (v := .bool true) rfl rfl (by simp only [execOp, ev_con, ev_of f62, ev_of f67]; simp [go_sem]) (by rw [fz]; decide) ?_
    intro b16 hk hv hz hf
    replace fz := hz.trans fz
    replace fd := hf.trans fd
    replace f4 := (hk 4 (by decide)).trans f4
    replace f10 := (hk 10 (by decide)).trans f10
    replace f12 := (hk 12 (by decide)).trans f12
    clear f62 f67
    have f68 := hv
    clear hk hv hz hf
    refine p_val (v := .bool true) rfl rfl (by simp only [execOp, ev_con, ev_of f68]; simp [go_sem]) (by rw [fz]; decide) ?_
    intro b17 hk hv hz hf
    replace fz := hz.trans fz
    replace fd := hf.trans fd
    replace f4 := (hk 4 (by decide)).trans f4
    replace f10 := (hk 10 (by decide)).trans f10
    replace f12 := (hk 12 (by decide)).trans f12
    clear f68
    have f69 := hv
    clear hk hv hz hf
    refine p_val (v := .string A) ((wt_of rfl (by kernel_rfl) _ f69).trans rfl) rfl (by simp only [execOp, ev_con, ev_of f10]; simp [go_sem]) (by rw [fz]; decide) ?_
    intro b18 hk hv hz hf
    replace fz := hz.trans fz
    replace fd := hf.trans fd
    replace f4 := (hk 4 (by decide)).trans f4
    replace f10 := (hk 10 (by decide)).trans f10
    replace f12 := (hk 12 (by decide)).trans f12
    replace f69 := (hk 69 (by decide)).trans f69
    have f70 := hv
    clear hk hv hz hf
    refine p_val (v := .int .i64 n) ((wt_of rfl (by kernel_rfl) _ f69).trans rfl) rfl (by simp only [execOp, ev_con, ev_of f70]; simp [go_sem, f70, hn]) (by rw [fz]; decide) ?_
    intro b19 hk hv hz hf
    replace fz := hz.trans fz
    replace fd := hf.trans fd
    replace f4 := (hk 4 (by decide)).trans f4
    replace f10 := (hk 10 (by decide)).trans f10
    replace f12 := (hk 12 (by decide)).trans f12
    replace f69 := (hk 69 (by decide)).trans f69
    clear f70
    have f71 := hv
    clear hk hv hz hf
    refine p_val (v := .pointer (some ⟨zw, 1, none⟩)) ((wt_of rfl (by kernel_rfl) _ f69).trans rfl) rfl (x_fld (r := 1) rfl f4 (fun w => by kernel_rfl)) (by rw [fz]; decide) ?_
    intro b20 hk hv hz hf
    replace fz := hz.trans fz
    replace fd := hf.trans fd
    replace f4 := (hk 4 (by decide)).trans f4
    replace f10 := (hk 10 (by decide)).trans f10
    replace f12 := (hk 12 (by decide)).trans f12
    replace f69 := (hk 69 (by decide)).trans f69
    replace f71 := (hk 71 (by decide)).trans f71
    have f72 := hv
    clear hk hv hz hf
    refine p_val (v := .int .i64 len) ((wt_of rfl (by kernel_rfl) _ f69).trans rfl) rfl (p_get (v := .int .i64 len) rfl f72 hM.at2 rfl) (by rw [fz]; decide) ?_
    intro b21 hk hv hz hf
    replace fz := hz.trans fz
    replace fd := hf.trans fd
    replace f4 := (hk 4 (by decide)).trans f4
    replace f10 := (hk 10 (by decide)).trans f10
    replace f12 := (hk 12 (by decide)).trans f12
    replace f69 := (hk 69 (by decide)).trans f69
    replace f71 := (hk 71 (by decide)).trans f71
    clear f72
    have f73 := hv
    clear hk hv hz hf
    refine p_val (v := .pointer (some ⟨zs, 1, none⟩)) ((wt_of rfl (by kernel_rfl) _ f69).trans rfl) rfl (x_fld (r := 1) rfl f12 (fun w => by kernel_rfl)) (by rw [fz]; decide) ?_
    intro b22 hk hv hz hf
    replace fz := hz.trans fz
    replace fd := hf.trans fd
    replace f4 := (hk 4 (by decide)).trans f4
    replace f10 := (hk 10 (by decide)).trans f10
    replace f12 := (hk 12 (by decide)).trans f12
    replace f69 := (hk 69 (by decide)).trans f69
    replace f71 := (hk 71 (by decide)).trans f71
    replace f73 := (hk 73 (by decide)).trans f73
    have f74 := hv
    clear hk hv hz hf
    refine p_val (v := .int .i64 res) ((wt_of rfl (by kernel_rfl) _ f69).trans rfl) rfl (p_get (v := .int .i64 res) rfl f74 hM.at0 rfl) (by rw [fz]; decide) ?_
    intro b23 hk hv hz hf
    replace fz := hz.trans fz
    replace fd := hf.trans fd
    replace f4 := (hk 4 (by decide)).trans f4
    replace f10 := (hk 10 (by decide)).trans f10
    replace f12 := (hk 12 (by decide)).trans f12
    replace f69 := (hk 69 (by decide)).trans f69
    replace f71 := (hk 71 (by decide)).trans f71
    replace f73 := (hk 73 (by decide)).trans f73
    clear f74
    have f75 := hv
    clear hk hv hz hf
    refine p_val (v := .int .i64 D) ((wt_of rfl (by kernel_rfl) _ f69).trans rfl) rfl (by simp only [execOp, ev_con, ev_of f73, ev_of f75]; simp [go_sem, t0]) (by rw [fz]; decide) ?_
    intro b24 hk hv hz hf
    replace fz := hz.trans fz
    replace fd := hf.trans fd
    replace f4 := (hk 4 (by decide)).trans f4
    replace f10 := (hk 10 (by decide)).trans f10
    replace f12 := (hk 12 (by decide)).trans f12
    replace f69 := (hk 69 (by decide)).trans f69
    replace f71 := (hk 71 (by decide)).trans f71
    clear f73 f75
    have f76 := hv
    clear hk hv hz hf
    refine p_val (v := .bool true) ((wt_of rfl (by kernel_rfl) _ f69).trans rfl) rfl (by simp only [execOp, ev_con, ev_of f71, ev_of f76]; simp [go_sem, t2]) (by rw [fz]; decide) ?_
    intro b25 hk hv hz hf
    replace fz := hz.trans fz
    replace fd := hf.trans fd
    replace f4 := (hk 4 (by decide)).trans f4
    replace f10 := (hk 10 (by decide)).trans f10
    replace f12 := (hk 12 (by decide)).trans f12
    replace f69 := (hk 69 (by decide)).trans f69
    clear f71 f76
    have f77 := hv
    clear hk hv hz hf
    refine p_val (v := .bool true) rfl rfl (by simp only [execOp, ev_con, ev_of f69, ev_of f77]; simp [go_sem]) (by rw [fz]; decide) ?_
    intro b26 hk hv hz hf
    replace fz := hz.trans fz
    replace fd := hf.trans fd
    replace f4 := (hk 4 (by decide)).trans f4
    replace f10 := (hk 10 (by decide)).trans f10
    replace f12 := (hk 12 (by decide)).trans f12
    clear f69 f77
    have f78 := hv
    clear hk hv hz hf
    refine p_val (v := .bool true) rfl rfl (by simp only [execOp, ev_con, ev_of f78]; simp [go_sem]) (by rw [fz]; decide) ?_
    intro b27 hk hv hz hf
    replace fz := hz.trans fz
    replace fd := hf.trans fd
    replace f4 := (hk 4 (by decide)).trans f4
    replace f10 := (hk 10 (by decide)).trans f10
    replace f12 := (hk 12 (by decide)).trans f12
    clear f78
    have f79 := hv
    clear hk hv hz hf
    refine p_val (v := .string A) ((wt_of rfl (by kernel_rfl) _ f79).trans rfl) rfl (by simp only [execOp, ev_con, ev_of f10]; simp [go_sem]) (by rw [fz]; decide) ?_
    intro b28 hk hv hz hf
    replace fz := hz.trans fz
    replace fd := hf.trans fd
    replace f4 := (hk 4 (by decide)).trans f4
    replace f12 := (hk 12 (by decide)).trans f12
    replace f79 := (hk 79 (by decide)).trans f79
    clear f10
    have f80 := hv
    clear hk hv hz hf
    refine p_val (v := .bool false) ((wt_of rfl (by kernel_rfl) _ f79).trans rfl) rfl (by simp only [execOp, ev_con, ev_of f80]; simp [go_sem, nil_list, t5]) (by rw [fz]; decide) ?_
    intro b29 hk hv hz hf
    replace fz := hz.trans fz
    replace fd := hf.trans fd
    replace f4 := (hk 4 (by decide)).trans f4
    replace f12 := (hk 12 (by decide)).trans f12
    replace f79 := (hk 79 (by decide)).trans f79
    clear f80
    have f81 := hv
    clear hk hv hz hf
    refine p_val (v := .bool false) ((wt_of rfl (by kernel_rfl) _ f79).trans rfl) rfl (by simp only [execOp, ev_con, ev_of f81]; simp [go_sem]) (by rw [fz]; decide) ?_
    intro b30 hk hv hz hf
    replace fz := hz.trans fz
    replace fd := hf.trans fd
    replace f4 := (hk 4 (by decide)).trans f4
    replace f12 := (hk 12 (by decide)).trans f12
    replace f79 := (hk 79 (by decide)).trans f79
    clear f81
    have f82 := hv
    clear hk hv hz hf
    refine p_val (v := .pointer (some ⟨zw, 2, none⟩)) ((wt_of rfl (by kernel_rfl) _ f82).trans rfl) rfl (x_fld (r := 2) rfl f4 (fun w => by kernel_rfl)) (by rw [fz]; decide) ?_
    intro b31 hk hv hz hf
    replace fz := hz.trans fz
    replace fd := hf.trans fd
    replace f12 := (hk 12 (by decide)).trans f12
    replace f79 := (hk 79 (by decide)).trans f79
    replace f82 := (hk 82 (by decide)).trans f82
    clear f4
    have f83 := hv
    clear hk hv hz hf
    refine p_val (v := .bool true) ((wt_of rfl (by kernel_rfl) _ f82).trans rfl) rfl (p_get (v := .bool true) rfl f83 hM.at2 rfl) (by rw [fz]; decide) ?_
    intro b32 hk hv hz hf
    replace fz := hz.trans fz
    replace fd := hf.trans fd
    replace f12 := (hk 12 (by decide)).trans f12
    replace f79 := (hk 79 (by decide)).trans f79
    replace f82 := (hk 82 (by decide)).trans f82
    clear f83
    have f84 := hv
    clear hk hv hz hf
    refine p_val (v := .bool true) ((wt_of rfl (by kernel_rfl) _ f82).trans rfl) rfl (by simp only [execOp, ev_con, ev_of f84]; simp [go_sem]) (by rw [fz]; decide) ?_
    intro b33 hk hv hz hf
    replace fz := hz.trans fz
    replace fd := hf.trans fd
    replace f12 := (hk 12 (by decide)).trans f12
    replace f79 := (hk 79 (by decide)).trans f79
    replace f82 := (hk 82 (by decide)).trans f82
    clear f84
    have f85 := hv
    clear hk hv hz hf
    refine p_val (v := .pointer (some ⟨zs, 2, none⟩)) ((wt_of rfl (by kernel_rfl) _ f85).trans rfl) rfl (x_fld (r := 2) rfl f12 (fun w => by kernel_rfl)) (by rw [fz]; decide) ?_
    intro b34 hk hv hz hf
    replace fz := hz.trans fz
    replace fd := hf.trans fd
    replace f79 := (hk 79 (by decide)).trans f79
    replace f82 := (hk 82 (by decide)).trans f82
    replace f85 := (hk 85 (by decide)).trans f85
    clear f12
    have f86 := hv
    clear hk hv hz hf
    refine p_val (v := .int .i64 0) ((wt_of rfl (by kernel_rfl) _ f85).trans rfl) rfl (p_get (v := .int .i64 0) rfl f86 hM.at0 rfl) (by rw [fz]; decide) ?_
    intro b35 hk hv hz hf
    replace fz := hz.trans fz
    replace fd := hf.trans fd
    replace f79 := (hk 79 (by decide)).trans f79
    replace f82 := (hk 82 (by decide)).trans f82
    replace f85 := (hk 85 (by decide)).trans f85
    clear f86
    have f87 := hv
    clear hk hv hz hf
    refine p_val (v := .bool true) ((wt_of rfl (by kernel_rfl) _ f85).trans rfl) rfl (by simp only [execOp, ev_con, ev_of f87]; simp [go_sem]) (by rw [fz]; decide) ?_
    intro b36 hk hv hz hf
    replace fz := hz.trans fz
    replace fd := hf.trans fd
    replace f79 := (hk 79 (by decide)).trans f79
    replace f82 := (hk 82 (by decide)).trans f82
    replace f85 := (hk 85 (by decide)).trans f85
    clear f87
    have f88 := hv
    clear hk hv hz hf
    refine p_val (v := .bool true) ((wt_of rfl (by kernel_rfl) _ f82).trans rfl) rfl (by simp only [execOp, ev_con, ev_of f85, ev_of f88]; simp [go_sem]) (by rw [fz]; decide) ?_
    intro b37 hk hv hz hf
    replace fz := hz.trans fz
    replace fd := hf.trans fd
    replace f79 := (hk 79 (by decide)).trans f79
    replace f82 := (hk 82 (by decide)).trans f82
    clear f85 f88
    have f89 := hv
    clear hk hv hz hf
    refine p_val (v := .bool true) ((wt_of rfl (by kernel_rfl) _ f79).trans rfl) rfl (by simp only [execOp, ev_con, ev_of f82, ev_of f89]; simp [go_sem]) (by rw [fz]; decide) ?_
    intro b38 hk hv hz hf
    replace fz := hz.trans fz
    replace fd := hf.trans fd
    replace f79 := (hk 79 (by decide)).trans f79
    clear f82 f89
    have f90 := hv
    clear hk hv hz hf
    refine p_val (v := .bool true) rfl rfl (by simp only [execOp, ev_con, ev_of f79, ev_of f90]; simp [go_sem]) (by rw [fz]; decide) ?_
    intro b39 hk hv hz hf
    replace fz := hz.trans fz
    replace fd := hf.trans fd
    clear f79 f90
    have f91 := hv
    clear hk hv hz hf
    refine p_val (v := .bool true) rfl rfl (by simp only [execOp, ev_con, ev_of f91]; simp [go_sem]) (by rw [fz]; decide) ?_
    intro b40 hk hv hz hf
    replace fz := hz.trans fz
    replace fd := hf.trans fd
    clear f91
    have f6 := hv
    clear hk hv hz hf
    go_step
    go_step
    go_step
    go_step
    exact bodyPost_ret (ret_t rfl f6) fd ⟨rfl, hM.below⟩
    -- END
end Go.Proofs.Ytecknicmonhcaab.bulkTagged
