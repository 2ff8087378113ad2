/- bulk: how much a command asks for; what a device means. -/
import Derived.Test.YtecknicmonhcaabDoorBulN
namespace Go.Proofs.YtecknicmonhcaabDoor.bulk
open Go Go.RowKit Go.PlainAid Go.Proofs.YtecknicmonhcaabDoor.lane Go.Proofs.YtecknicmonhcaabDoor.pipe Go.Proofs.YtecknicmonhcaabDoor.strike Go.Proofs.YtecknicmonhcaabDoor.scsi
set_option linter.unusedVariables false
set_option linter.unusedSimpArgs false
set_option maxRecDepth 100000

set_option maxHeartbeats 2000000 in
theorem asked_any (c : ByteArray) (hm : c.size ≤ maxLen) (w : World) : Calls Tryd.prog 48 #[.string c] w fun e w' => e = .returned (.int .i64 (askN c : Int)) ∧ Below w.heap.size w w' := by
  have HK : Hid (∀ u, Calls Tryd.prog 49 #[.string c] u fun e w' => e = .returned (fmI (fmC (nums c))) ∧ Below u.heap.size u w') := fun u => checkForm_any c hm u
  have hm' := hm
  unfold maxLen at hm'
  by_cases h : fmC (nums c) = 0
  case neg =>
    have HA : Hid (askN c = 0) := if_neg fun q => h q.1
    rw [HA.out]
    have e : fmI (fmC (nums c)) = .iface 83 (.agg #[.int .i64 (fmC (nums c))]) := if_neg h
    rw [e] at HK
    clear e h
    generalize fmC (nums c) = z at *
    go_enter Tryd.func48, Tryd.ntmps48
    go_wp2_with fail
    refine (HK.out _).mono ?_
    rintro e u ⟨rfl, hb⟩
    have HB : Hid (Below w.heap.size w u) := hb
    clear HK hb
    go_wp2
    go_ret
    exact ⟨rfl, HB.out⟩
  have hz := fm_zero c h
  have e : fmI (fmC (nums c)) = .nilIface := by rw [h]; rfl
  rw [e] at HK
  have hb : bt c 0 = (nums c).getD 0 0 := bt_nums c 0 hz.1
  have h0 : ∀ W, (Instr.index 9 (.string c) (.int .i64 0)).run Tryd.prog W = .ok (.int .u8 (bt c 0)) W := fun W => run_ix c 0 hz.1 W
  by_cases h42 : bt c 0 = 42
  case neg =>
    have HA : Hid (askN c = 0) := if_neg fun q => h42 (by rw [hb]; exact q.2)
    rw [HA.out]
    have e1 : (bt c 0 != 42) = true := by simpa using h42
    clear hb h hz h42 e
    go_enter Tryd.func48, Tryd.ntmps48
    go_wp2_with fail
    refine (HK.out _).mono ?_
    rintro e u ⟨rfl, hb⟩
    have HB : Hid (Below w.heap.size w u) := hb
    clear HK hb
    go_wp2
    go_ret
    exact ⟨rfl, HB.out⟩
  have h10 : c.size = 10 := by have := hz.2.2; rw [h42] at this; exact this
  have hr := cnt_range c
  have HA : Hid ((askN c : Int) = cntL (nums c) * 16) := by
    show _ = _
    unfold askN
    rw [if_pos ⟨h, by rw [← hb]; exact h42⟩]
    omega
  have HV : Hid (∀ u, Calls Tryd.prog 64 #[.string (c.extract 7 9)] u fun e w' => e = .returned (.int .i64 (cntL (nums c))) ∧ w' = u) := fun u => value_cnt c u h10
  have hs : ∀ W, (Instr.slice 9 (.string c) (some (.int .i64 7)) (some (.int .i64 9)) none).run Tryd.prog W = .ok (.string (c.extract 7 9)) W := fun W => run_part c 7 9 (by omega) (by omega) (by omega) W
  have e1 : (bt c 0 != 42) = false := by simpa using h42
  rw [HA.out]
  generalize c.extract 7 9 = y at *
  generalize cntL (nums c) = k at *
  obtain ⟨k0, k1⟩ := hr
  clear hb h hz h42 e h10
  go_enter Tryd.func48, Tryd.ntmps48
  go_wp2_with fail
  refine (HK.out _).mono ?_
  rintro e u ⟨rfl, hb⟩
  have HB : Hid (Below w.heap.size w u) := hb
  clear HK hb
  go_wp2_with fail
  refine (HV.out _).mono ?_
  rintro e u ⟨rfl, rfl⟩
  clear HV
  go_wp2
  go_ret
  exact ⟨rfl, HB.out⟩
/-- texts that are carried -/
theorem rtp {w : World} {v : Value} {l : List ByteArray} (h : Rts w v l) : Cr w (fun W => Rts W v l) := ⟨h, fun u v' h hb => h.below hb⟩
set_option maxHeartbeats 4000000 in
theorem deviceMove_any (v : Value) (d : Dk) (c : ByteArray) (w : World) (h : Rts w v d.b) (hd : chkC d = 0) (hcm : c.size ≤ maxLen) :
    Calls Tryd.prog 34 #[ag (dkl v d.s), .string c] w fun e w' => e = .returned (ag (mvl (dvV d c))) ∧ Below w.heap.size w w' := by
  have hask := ask_max c
  have HA : Hid (∀ u, Calls Tryd.prog 48 #[.string c] u fun e w' => e = .returned (.int .i64 (askN c : Int)) ∧ Below u.heap.size u w') := fun u => asked_any c hcm u
  have HZ : Hid (∀ u, Calls Tryd.prog 16 #[.int .i64 (askN c : Int)] u fun e w' => e = .returned (.string (rpt 0 (askN c))) ∧ Below u.heap.size u w') := fun u => zeros_any (askN c) (by omega) u
  obtain ⟨T, hT⟩ : ∃ T, doT d c (rpt 0 (askN c)) = T := ⟨_, rfl⟩
  obtain ⟨C, hC⟩ : ∃ C, doC d c (rpt 0 (askN c)) = C := ⟨_, rfl⟩
  obtain ⟨N, hN⟩ : ∃ N, (doD d c (rpt 0 (askN c))).b = N := ⟨_, rfl⟩
  obtain ⟨S, hS⟩ : ∃ S, (doD d c (rpt 0 (askN c))).s = S := ⟨_, rfl⟩
  have hn := (chk_iff d).1 hd
  have HDO : Hid (∀ u, Rts u v d.b → Calls Tryd.prog 18 #[ag (dkl v d.s), .string c, .string (rpt 0 (askN c))] u fun e w' => ∃ a cp, e = .returned (.tuple #[ag (dkl (.slice a N.length cp) S), .string T, .int .i64 C]) ∧ Txs w' u.heap.size (.slice a N.length cp) N ∧ Below u.heap.size u w') := fun u h => do_named v d c (rpt 0 (askN c)) (by unfold reachBytes; omega) hcm (by rw [rpt_size]; unfold maxLen; omega) T C N S hT hC hN hS u h
  have HTS : Hid (T.size ≤ 1024) := by show _ ≤ _; rw [← hT]; exact do_size hd _ _
  have HV : Hid (dvV d c = if C = 0 ∧ 0 < askN c then mvOf 2 (askN c : Int) else mvOf 1 (T.size : Int)) := by
    show _ = _
    unfold dvV
    rw [hC, hT]
  have HMO : Hid (∀ a b u, Calls Tryd.prog 47 #[.int .i64 a, .int .i64 b] u fun e w' => e = .returned (ag (mvl (mvOf a b))) ∧ Below u.heap.size u w') := fun a b u => moveOf_any a b u
  have HO : Hid (v.oneCell' = true) := txs_one h
  have hC0 := rtp h
  have hM := Mm.nil w
  rw [HV.out]
  obtain ⟨q, hq⟩ : ∃ q, askN c = q := ⟨_, rfl⟩
  rw [hq] at HA HZ HDO hask ⊢
  generalize rpt 0 q = Z at *
  generalize N.length = nn at *
  clear hT hC hN hS hn hd hcm h HV hq
  go_enter Tryd.func34, Tryd.ntmps34
  repeat' (first | (go_big_may; first | (refine v_box rfl rfl rfl ?_; intro u zd hN; replace hM := hM.new hN; clear hN) | (refine v_alloc rfl zer_move rfl ?_; intro u za hN; replace hM := hM.new hN; clear hN)) | go_values | go_skip | go_guarded | go_step | go_upon | (simp only [Int.not_lt, Int.not_le] at *; go_simp))
  have hCr := hC0.call hM.below
  refine (HA.out _).mono ?_
  rintro e u1 ⟨rfl, hb⟩
  replace hM := hM.call hb
  replace hCr := hCr.call hb
  clear hb HA hC0
  repeat' (first | go_values | go_skip | go_guarded | go_step | go_upon | (simp only [Int.not_lt, Int.not_le] at *; go_simp))
  go_cut [6, 7, 8] from 11 to 20 (fun pv tv cv wx => ∃ zt : Nat, pv = .pointer (some ⟨zt, 0, none⟩) ∧ tv = .string T ∧ cv = .int .i64 C ∧ Hid (Mm w wx [(za, 48, mvl mv0), (zd, 24, dkl v d.s)]))
  case first =>
    refine reg.wp_abs (fun a0 => a0.tmps.size = 31 ∧ (∀ h, a0.tmps[1]'h = .string c) ∧ (∀ h, a0.tmps[2]'h = .pointer (some ⟨zd, 0, none⟩)) ∧ (∀ h, a0.tmps[5]'h = .int .i64 (q : Int))) ⟨rfl, fun _ => rfl, fun _ => rfl, fun _ => rfl⟩ ?_
    rintro a0 ⟨hsz, s1, s2, s5⟩ ha0
    refine reg.wp_region_E (S := fun W => Ls W [(zd, 24, (dkl v d.s))]) (E := fun _ => false) (by kernel_rfl) ?_
    replace hM := hM.drew
    replace hCr := hCr.call (Below.refl _ _).drew
    refine reg.e_take (i := 0) (ag ((dkl v d.s))) rfl (by kernel_rfl) (by kernel_rfl) (by kernel_rfl) (by kernel_rfl) (fun _ _ _ h => h) (reg.wanted_none rfl) (hM.ls (by simp)) (fun W hW => ex_load rfl row_disk (by simp [go_sem, Act.put, hsz, s1, s2, s5]) hW.at0 (Nat.le_refl 2) (cut_all rfl)) ?_
    refine reg.e_take (i := 1) (.string c) rfl (by kernel_rfl) (by kernel_rfl) (by kernel_rfl) (by kernel_rfl) (fun _ _ _ h => h) (reg.wanted_none rfl) (hM.ls (by simp)) (fun W hW => by simp [execOp, go_sem, Act.put, hsz, s1, s2, s5]) ?_
    refine reg.e_take (i := 2) (.int .i64 (q : Int)) rfl (by kernel_rfl) (by kernel_rfl) (by kernel_rfl) (by kernel_rfl) (fun _ _ _ h => h) (reg.wanted_none rfl) (hM.ls (by simp)) (fun W hW => by simp [execOp, go_sem, Act.put, hsz, s1, s2, s5]) ?_
    refine reg.e_two 3 9 (by kernel_rfl) rfl rfl ?_ ?_
    · refine reg.r_call (i := 3) 16 #[.int .i64 (q : Int)] rfl (reg.wanted_none rfl) (by simp [execOp, go_sem, Act.put, hsz, s1, s2, s5]) ((HZ.out _).mono ?_)
      rintro re ru1 ⟨rfl, rhv⟩
      replace hM := hM.call rhv
      replace hCr := hCr.call rhv
      clear rhv
      refine ⟨_, rfl, hM.ls (by simp), ?_⟩
      refine reg.e_two 4 9 (by kernel_rfl) rfl rfl ?_ ?_
      · refine reg.r_call (i := 4) 18 #[ag ((dkl v d.s)), .string c, .string Z] rfl (reg.wanted_none rfl) (by simp [execOp, go_sem, Act.put, hsz, s1, s2, s5]) ((HDO.out _ hCr.out).mono ?_)
        rintro re rux ⟨xa, xc, rfl, rht, rhv⟩
        replace hM := hM.call rhv
        replace hCr := hCr.call rhv
        clear rhv rht
        refine ⟨_, rfl, hM.ls (by simp), ?_⟩
        refine reg.e_take (i := 5) (.tuple #[ag (dkl (.slice xa nn xc) S), .string T, .int .i64 C]) rfl (by kernel_rfl) (by kernel_rfl) (by kernel_rfl) (by kernel_rfl) (fun _ _ _ h => h) (reg.wanted_none rfl) (hM.ls (by simp)) (fun W hW => by simp [execOp, go_sem, Act.put, hsz, s1, s2, s5]) ?_
        refine reg.e_take (i := 6) (ag (dkl (.slice xa nn xc) S)) rfl (by kernel_rfl) (by kernel_rfl) (by kernel_rfl) (by kernel_rfl) (fun _ _ _ h => h) (reg.wanted_none rfl) (hM.ls (by simp)) (fun W hW => by simp [execOp, go_sem, Act.put, hsz, s1, s2, s5]) ?_
        refine reg.e_take (i := 7) (.string T) rfl (by kernel_rfl) (by kernel_rfl) (by kernel_rfl) (by kernel_rfl) (fun _ _ _ h => h) (reg.wanted_none rfl) (hM.ls (by simp)) (fun W hW => by simp [execOp, go_sem, Act.put, hsz, s1, s2, s5]) ?_
        refine reg.e_take (i := 8) (.int .i64 C) rfl (by kernel_rfl) (by kernel_rfl) (by kernel_rfl) (by kernel_rfl) (fun _ _ _ h => h) (reg.wanted_none rfl) (hM.ls (by simp)) (fun W hW => by simp [execOp, go_sem, Act.put, hsz, s1, s2, s5]) ?_
        refine reg.e_one 9 (by kernel_rfl) rfl ?_
        refine r_alloc (i := 9) rfl (reg.wanted_none rfl) rfl zer_disk ?_
        intro ru3 zt rhn
        replace hCr := hCr.call rhn.below
        replace hM := hM.new rhn
        clear rhn
        refine ⟨hM.ls (by simp), ?_⟩
        refine reg.e_one 10 (by kernel_rfl) rfl ?_
        refine r_fill (i := 10) rfl (reg.wanted_none rfl) rfl row_disk (by simp [go_sem, Act.put, hsz, s1, s2, s5]) (by simp [go_sem, Act.put, hsz, s1, s2, s5]) hM.at0 (dkl_vs (v := .slice xa nn xc) S rfl) rfl ?_
        intro ru4 rhv rhc
        replace hM := hM.put0 rhc rhv
        clear rhc rhv
        refine ⟨hM.ls (by simp), ?_⟩
        refine reg.e_take (i := 11) (.string T) rfl (by kernel_rfl) (by kernel_rfl) (by kernel_rfl) (by kernel_rfl) (fun _ _ _ h => h) (reg.wanted_none rfl) (hM.ls (by simp)) (fun W hW => by simp [execOp, go_sem, Act.put, hsz, s1, s2, s5]) ?_
        refine reg.e_take (i := 12) (.int .i64 C) rfl (by kernel_rfl) (by kernel_rfl) (by kernel_rfl) (by kernel_rfl) (fun _ _ _ h => h) (reg.wanted_none rfl) (hM.ls (by simp)) (fun W hW => by simp [execOp, go_sem, Act.put, hsz, s1, s2, s5]) ?_
        refine reg.e_done (by kernel_rfl) ?_ _
        subst ha0
        clear hsz s1 s2 s5
        go_simp
        repeat' (first | go_values | go_skip | go_guarded | go_step | go_upon | (simp only [Int.not_lt, Int.not_le] at *; go_simp))
        go_meet
        case rel => exact ⟨zt, rfl, rfl, rfl, hM.tail⟩
      · refine r_alloc (i := 9) rfl (reg.wanted_none rfl) rfl zer_disk ?_
        intro ru5 zt rhn
        replace hCr := hCr.call rhn.below
        replace hM := hM.new rhn
        clear rhn
        refine ⟨hM.ls (by simp), ?_⟩
        refine reg.e_one 4 (by kernel_rfl) rfl ?_
        refine reg.r_call (i := 4) 18 #[ag ((dkl v d.s)), .string c, .string Z] rfl (reg.wanted_none rfl) (by simp [execOp, go_sem, Act.put, hsz, s1, s2, s5]) ((HDO.out _ hCr.out).mono ?_)
        rintro re rux ⟨xa, xc, rfl, rht, rhv⟩
        replace hM := hM.call rhv
        replace hCr := hCr.call rhv
        clear rhv rht
        refine ⟨_, rfl, hM.ls (by simp), ?_⟩
        refine reg.e_take (i := 5) (.tuple #[ag (dkl (.slice xa nn xc) S), .string T, .int .i64 C]) rfl (by kernel_rfl) (by kernel_rfl) (by kernel_rfl) (by kernel_rfl) (fun _ _ _ h => h) (reg.wanted_none rfl) (hM.ls (by simp)) (fun W hW => by simp [execOp, go_sem, Act.put, hsz, s1, s2, s5]) ?_
        refine reg.e_take (i := 6) (ag (dkl (.slice xa nn xc) S)) rfl (by kernel_rfl) (by kernel_rfl) (by kernel_rfl) (by kernel_rfl) (fun _ _ _ h => h) (reg.wanted_none rfl) (hM.ls (by simp)) (fun W hW => by simp [execOp, go_sem, Act.put, hsz, s1, s2, s5]) ?_
        refine reg.e_take (i := 7) (.string T) rfl (by kernel_rfl) (by kernel_rfl) (by kernel_rfl) (by kernel_rfl) (fun _ _ _ h => h) (reg.wanted_none rfl) (hM.ls (by simp)) (fun W hW => by simp [execOp, go_sem, Act.put, hsz, s1, s2, s5]) ?_
        refine reg.e_take (i := 8) (.int .i64 C) rfl (by kernel_rfl) (by kernel_rfl) (by kernel_rfl) (by kernel_rfl) (fun _ _ _ h => h) (reg.wanted_none rfl) (hM.ls (by simp)) (fun W hW => by simp [execOp, go_sem, Act.put, hsz, s1, s2, s5]) ?_
        refine reg.e_one 10 (by kernel_rfl) rfl ?_
        refine r_fill (i := 10) rfl (reg.wanted_none rfl) rfl row_disk (by simp [go_sem, Act.put, hsz, s1, s2, s5]) (by simp [go_sem, Act.put, hsz, s1, s2, s5]) hM.at0 (dkl_vs (v := .slice xa nn xc) S rfl) rfl ?_
        intro ru7 rhv rhc
        replace hM := hM.put0 rhc rhv
        clear rhc rhv
        refine ⟨hM.ls (by simp), ?_⟩
        refine reg.e_take (i := 11) (.string T) rfl (by kernel_rfl) (by kernel_rfl) (by kernel_rfl) (by kernel_rfl) (fun _ _ _ h => h) (reg.wanted_none rfl) (hM.ls (by simp)) (fun W hW => by simp [execOp, go_sem, Act.put, hsz, s1, s2, s5]) ?_
        refine reg.e_take (i := 12) (.int .i64 C) rfl (by kernel_rfl) (by kernel_rfl) (by kernel_rfl) (by kernel_rfl) (fun _ _ _ h => h) (reg.wanted_none rfl) (hM.ls (by simp)) (fun W hW => by simp [execOp, go_sem, Act.put, hsz, s1, s2, s5]) ?_
        refine reg.e_done (by kernel_rfl) ?_ _
        subst ha0
        clear hsz s1 s2 s5
        go_simp
        repeat' (first | go_values | go_skip | go_guarded | go_step | go_upon | (simp only [Int.not_lt, Int.not_le] at *; go_simp))
        go_meet
        case rel => exact ⟨zt, rfl, rfl, rfl, hM.tail⟩
    · refine r_alloc (i := 9) rfl (reg.wanted_none rfl) rfl zer_disk ?_
      intro ru8 zt rhn
      replace hCr := hCr.call rhn.below
      replace hM := hM.new rhn
      clear rhn
      refine ⟨hM.ls (by simp), ?_⟩
      refine reg.e_one 3 (by kernel_rfl) rfl ?_
      refine reg.r_call (i := 3) 16 #[.int .i64 (q : Int)] rfl (reg.wanted_none rfl) (by simp [execOp, go_sem, Act.put, hsz, s1, s2, s5]) ((HZ.out _).mono ?_)
      rintro re ru9 ⟨rfl, rhv⟩
      replace hM := hM.call rhv
      replace hCr := hCr.call rhv
      clear rhv
      refine ⟨_, rfl, hM.ls (by simp), ?_⟩
      refine reg.e_one 4 (by kernel_rfl) rfl ?_
      refine reg.r_call (i := 4) 18 #[ag ((dkl v d.s)), .string c, .string Z] rfl (reg.wanted_none rfl) (by simp [execOp, go_sem, Act.put, hsz, s1, s2, s5]) ((HDO.out _ hCr.out).mono ?_)
      rintro re rux ⟨xa, xc, rfl, rht, rhv⟩
      replace hM := hM.call rhv
      replace hCr := hCr.call rhv
      clear rhv rht
      refine ⟨_, rfl, hM.ls (by simp), ?_⟩
      refine reg.e_take (i := 5) (.tuple #[ag (dkl (.slice xa nn xc) S), .string T, .int .i64 C]) rfl (by kernel_rfl) (by kernel_rfl) (by kernel_rfl) (by kernel_rfl) (fun _ _ _ h => h) (reg.wanted_none rfl) (hM.ls (by simp)) (fun W hW => by simp [execOp, go_sem, Act.put, hsz, s1, s2, s5]) ?_
      refine reg.e_take (i := 6) (ag (dkl (.slice xa nn xc) S)) rfl (by kernel_rfl) (by kernel_rfl) (by kernel_rfl) (by kernel_rfl) (fun _ _ _ h => h) (reg.wanted_none rfl) (hM.ls (by simp)) (fun W hW => by simp [execOp, go_sem, Act.put, hsz, s1, s2, s5]) ?_
      refine reg.e_take (i := 7) (.string T) rfl (by kernel_rfl) (by kernel_rfl) (by kernel_rfl) (by kernel_rfl) (fun _ _ _ h => h) (reg.wanted_none rfl) (hM.ls (by simp)) (fun W hW => by simp [execOp, go_sem, Act.put, hsz, s1, s2, s5]) ?_
      refine reg.e_take (i := 8) (.int .i64 C) rfl (by kernel_rfl) (by kernel_rfl) (by kernel_rfl) (by kernel_rfl) (fun _ _ _ h => h) (reg.wanted_none rfl) (hM.ls (by simp)) (fun W hW => by simp [execOp, go_sem, Act.put, hsz, s1, s2, s5]) ?_
      refine reg.e_one 10 (by kernel_rfl) rfl ?_
      refine r_fill (i := 10) rfl (reg.wanted_none rfl) rfl row_disk (by simp [go_sem, Act.put, hsz, s1, s2, s5]) (by simp [go_sem, Act.put, hsz, s1, s2, s5]) hM.at0 (dkl_vs (v := .slice xa nn xc) S rfl) rfl ?_
      intro ru11 rhv rhc
      replace hM := hM.put0 rhc rhv
      clear rhc rhv
      refine ⟨hM.ls (by simp), ?_⟩
      refine reg.e_take (i := 11) (.string T) rfl (by kernel_rfl) (by kernel_rfl) (by kernel_rfl) (by kernel_rfl) (fun _ _ _ h => h) (reg.wanted_none rfl) (hM.ls (by simp)) (fun W hW => by simp [execOp, go_sem, Act.put, hsz, s1, s2, s5]) ?_
      refine reg.e_take (i := 12) (.int .i64 C) rfl (by kernel_rfl) (by kernel_rfl) (by kernel_rfl) (by kernel_rfl) (fun _ _ _ h => h) (reg.wanted_none rfl) (hM.ls (by simp)) (fun W hW => by simp [execOp, go_sem, Act.put, hsz, s1, s2, s5]) ?_
      refine reg.e_done (by kernel_rfl) ?_ _
      subst ha0
      clear hsz s1 s2 s5
      go_simp
      repeat' (first | go_values | go_skip | go_guarded | go_step | go_upon | (simp only [Int.not_lt, Int.not_le] at *; go_simp))
      go_meet
      case rel => exact ⟨zt, rfl, rfl, rfl, hM.tail⟩
  case rest =>
  clear hM hCr
  obtain ⟨zt, rfl, rfl, rfl, HX⟩ := hcut
  rename World => u4
  have hM := HX.out
  clear HX HZ HDO
  by_cases hc0 : C = 0
  · by_cases hq0 : 0 < q
    · have HR : Hid ((if C = 0 ∧ 0 < q then mvOf 2 (q : Int) else mvOf 1 (T.size : Int)) = mvOf 2 (q : Int)) := if_pos ⟨hc0, hq0⟩
      have e1 : (C == 0) = true := by simpa using hc0
      have e2 : decide ((0 : Int) < (q : Int)) = true := by simpa using hq0
      have e3 : decide (0 < q) = true := by simpa using hq0
      clear hc0
      repeat' (first | go_values | go_skip | go_guarded | go_step | go_upon | (simp only [Int.not_lt, Int.not_le] at *; go_simp))
      refine (HMO.out _ _ _).mono ?_
      rintro e u5 ⟨rfl, hb⟩
      replace hM := hM.call hb
      clear hb
      repeat' (first | (go_big_may; first | (refine v_fill rfl rfl row_move rfl rfl hM.at0 (mvl_vs _) rfl ?_; intro u hv hc; replace hM := hM.put0 hc hv; clear hv hc)) | go_values | go_skip | go_guarded | go_step | go_upon | (simp only [Int.not_lt, Int.not_le] at *; go_simp))
      exact bodyPost_ret (ret_1 rfl rfl (ld_var row_move hM.at0 rfl)) rfl ⟨by rw [HR.out], hM.below⟩
    · have HR : Hid ((if C = 0 ∧ 0 < q then mvOf 2 (q : Int) else mvOf 1 (T.size : Int)) = mvOf 1 (T.size : Int)) := if_neg fun z => hq0 z.2
      have e1 : (C == 0) = true := by simpa using hc0
      have e2 : decide ((0 : Int) < (q : Int)) = false := by simpa using hq0
      have e3 : decide (0 < q) = false := by simpa using hq0
      clear hc0 hq0
      repeat' (first | go_values | go_skip | go_guarded | go_step | go_upon | (simp only [Int.not_lt, Int.not_le] at *; go_simp))
      refine (HMO.out _ _ _).mono ?_
      rintro e u5 ⟨rfl, hb⟩
      replace hM := hM.call hb
      clear hb
      repeat' (first | (go_big_may; first | (refine v_fill rfl rfl row_move rfl rfl hM.at0 (mvl_vs _) rfl ?_; intro u hv hc; replace hM := hM.put0 hc hv; clear hv hc)) | go_values | go_skip | go_guarded | go_step | go_upon | (simp only [Int.not_lt, Int.not_le] at *; go_simp))
      exact bodyPost_ret (ret_1 rfl rfl (ld_var row_move hM.at0 rfl)) rfl ⟨by rw [HR.out], hM.below⟩
  · have HR : Hid ((if C = 0 ∧ 0 < q then mvOf 2 (q : Int) else mvOf 1 (T.size : Int)) = mvOf 1 (T.size : Int)) := if_neg fun z => hc0 z.1
    have e1 : (C == 0) = false := by simpa using hc0
    clear hc0
    repeat' (first | go_values | go_skip | go_guarded | go_step | go_upon | (simp only [Int.not_lt, Int.not_le] at *; go_simp))
    refine (HMO.out _ _ _).mono ?_
    rintro e u5 ⟨rfl, hb⟩
    replace hM := hM.call hb
    clear hb
    repeat' (first | (go_big_may; first | (refine v_fill rfl rfl row_move rfl rfl hM.at0 (mvl_vs _) rfl ?_; intro u hv hc; replace hM := hM.put0 hc hv; clear hv hc)) | go_values | go_skip | go_guarded | go_step | go_upon | (simp only [Int.not_lt, Int.not_le] at *; go_simp))
    exact bodyPost_ret (ret_1 rfl rfl (ld_var row_move hM.at0 rfl)) rfl ⟨by rw [HR.out], hM.below⟩
end Go.Proofs.YtecknicmonhcaabDoor.bulk
