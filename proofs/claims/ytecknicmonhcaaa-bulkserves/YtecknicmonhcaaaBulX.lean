/- plugref: Meant; the status that Served tells. -/
import Derived.Test.YtecknicmonhcaaaBulN
import Derived.Test.YtecknicmonhcaaaBulG
import Derived.Test.YtecknicmonhcaaaBulS
import Derived.Test.YtecknicmonhcaaaScsX
import Derived.Shelf.Abstract
namespace Go.Proofs.Ytecknicmonhcaaa.bulk
open Go Go.RowKit Go.PlainAid Go.Proofs.Ytecknicmonhcaaa.lane Go.Proofs.Ytecknicmonhcaaa.pipe Go.Proofs.Ytecknicmonhcaaa.strike
open Go.Proofs.Ytecknicmonhcaaa.scsi (bt_range Dk chkC chk_iff doD doT doC snS cntL lbaL seA seB sensed_any done_any rts_form cnt_range)
set_option linter.unusedVariables false
set_option linter.unusedSimpArgs false
set_option maxRecDepth 100000

/-- what DiskDone answers, by names -/
theorem done_named (v : Value) (d : Dk) (c x : ByteArray) (hcm : c.size ≤ maxLen) (hx : x.size ≤ maxLen) (T : ByteArray) (C : Int) (N : List ByteArray) (S : Int) (hT : doT d c x = T) (hC : doC d c x = C) (hN : (doD d c x).b = N) (hS : (doD d c x).s = S) (u : World) (h : Rts u v d.b) :
    Calls Try.prog 45 #[ag (dkl v d.s), .string c, .string x] u fun e w' => ∃ a cp, e = .returned (.tuple #[ag (dkl (.slice a N.length cp) S), .string T, .int .i64 C]) ∧ Rts w' (.slice a N.length cp) N ∧ Below u.heap.size u w' := by
  subst hT hC hN hS
  refine (done_any v d c x u h hcm hx).mono ?_
  rintro e w' ⟨v', rfl, ht, hb⟩
  obtain ⟨a, cp, rfl, _, _⟩ := rts_form ht
  exact ⟨a, cp, rfl, ht, hb⟩
theorem empty_iff (T : ByteArray) : T.toList.isEmpty = decide (T.size = 0) := by
  have e : (T.toList == (⟨#[]⟩ : ByteArray).toList) = decide (T.size = 0) := by
    rw [toList_beq]
    refine decide_eq_decide.2 ⟨fun q => by rw [q]; rfl, fun q => ?_⟩
    apply ByteArray.ext; apply Array.eq_empty_of_size_eq_zero; exact q
  rw [← e]
  simp
set_option maxHeartbeats 8000000 in
theorem meant_any (v : Value) (d : Dk) (c : ByteArray) (w : World) (h : Rts w v d.b) (hd : chkC d = 0) (h0 : 0 < c.size) (hcm : c.size ≤ maxLen) :
    Calls Try.prog 43 #[ag (dkl v d.s), .string c] w fun e w' => e = .returned (ag (mvl (dvV d c))) ∧ Below w.heap.size w w' := by
  rw [rm_dv hd h0]
  have hC0 := rtp h
  have hO := txs_one h
  have hM := Mm.nil w
  have hn := (chk_iff d).1 hd
  have hcm' := hcm
  unfold maxLen at hcm'
  have hi0 : ∀ W, (Instr.index 9 (.string c) (.int .i64 0)).run Try.prog W = .ok (.int .u8 (bt c 0)) W := fun W => run_ix c 0 h0 W
  by_cases hq : bt c 0 = 42 ∧ c.size = 10
  · have HRM : Hid (rmV d c = if snS d.b.length (nums c) (16 * (cntL (nums c)).toNat) ≠ 0 ∨ 16 * (cntL (nums c)).toNat = 0 then mv0 else ⟨2, ((16 * (cntL (nums c)).toNat : Nat) : Int)⟩) := if_pos hq
    rw [HRM.out]
    have hr := cnt_range c
    obtain ⟨l7, u7⟩ := bt_range c 7
    obtain ⟨l8, u8⟩ := bt_range c 8
    have e7 : bt c 7 = (nums c).getD 7 0 := bt_nums c 7 (by omega)
    have e8 : bt c 8 = (nums c).getD 8 0 := bt_nums c 8 (by omega)
    have hcn : cntL (nums c) = 256 * bt c 7 + bt c 8 := by unfold cntL; rw [e7, e8]; omega
    obtain ⟨n, hn16⟩ : ∃ n : Nat, 16 * (cntL (nums c)).toNat = n := ⟨_, rfl⟩
    rw [hn16]
    have HN16 : Hid (n ≤ 1048560) := by show _ ≤ _; omega
    have H7 : Hid (∀ W, (Instr.index 9 (.string c) (.int .i64 7)).run Try.prog W = .ok (.int .u8 (bt c 7)) W) := fun W => run_ix c 7 (by omega) W
    have H8 : Hid (∀ W, (Instr.index 9 (.string c) (.int .i64 8)).run Try.prog W = .ok (.int .u8 (bt c 8)) W) := fun W => run_ix c 8 (by omega) W
    have w7 : Hid (IntKind.i64.wrap (bt c 7) = bt c 7) := by show _ = _; rw [IntKind.wrap_i64]; omega
    have w8 : Hid (IntKind.i64.wrap (bt c 8) = bt c 8) := by show _ = _; rw [IntKind.wrap_i64]; omega
    have w9 : Hid (IntKind.i64.wrap (256 * bt c 7) = 256 * bt c 7) := by show _ = _; rw [IntKind.wrap_i64]; omega
    have w10 : Hid (IntKind.i64.wrap (256 * bt c 7 + bt c 8) = cntL (nums c)) := by show _ = _; rw [IntKind.wrap_i64]; omega
    have w11 : Hid (IntKind.i64.wrap (16 * cntL (nums c)) = (n : Int)) := by show _ = _; rw [IntKind.wrap_i64]; omega
    obtain ⟨s, hs⟩ : ∃ s, snS d.b.length (nums c) n = s := ⟨_, rfl⟩
    obtain ⟨A, hA⟩ : ∃ A, seA d.b.length c n = A := ⟨_, rfl⟩
    obtain ⟨B, hB⟩ : ∃ B, seB d.b.length c n = B := ⟨_, rfl⟩
    have HSE : Hid (∀ u, Rts u v d.b → Calls Try.prog 63 #[ag (dkl v d.s), .string c, .string (rpt 120 n)] u fun e w' => e = .returned (.tuple #[.int .i64 s, .int .i64 A, .int .i64 B]) ∧ Below u.heap.size u w') := fun u hu => by
      have := sensed_any v d.b d.s c (rpt 120 n) u hu hcm (by rw [rpt_size]; unfold maxLen; omega) hn.2.1
      rw [rpt_size, hs, hA, hB] at this
      exact this
    have HRP : Hid (∀ u, Calls Try.prog 31 #[.string ⟨#[120]⟩, .int .i64 (n : Int)] u fun e w' => e = .returned (.string (rpt 120 n)) ∧ Below u.heap.size u w') := fun u => repeat_any 120 n (by omega) u
    have hs0 : 0 ≤ s := by have := scsi.sn_code d.b.length (nums c) n; omega
    rw [hs]
    have f1 : (bt c 0 == 42) = true := by simpa using hq.1
    have f2 : ((c.size : Int) == 10) = true := by rw [hq.2]; rfl
    generalize cntL (nums c) = k at *
    generalize bt c 7 = b7 at *
    generalize bt c 8 = b8 at *
    clear hq hr l7 u7 l8 u8 e7 e8 hcn hn16 hs hA hB hn HRM hd h0 h
    go_enter Try.func43, Try.ntmps43
    repeat' (first | (go_big_may; first | (refine v_box rfl rfl rfl ?_; intro u zd hN; replace hM := hM.new hN; clear hN) | (refine v_alloc rfl zer_move rfl ?_; intro u za hN; replace hM := hM.new hN; clear hN)) | go_values | go_skip | go_guarded | go_step | go_upon | (simp only [Int.not_lt, Int.not_le] at *; go_simp))
    clear f1 f2 hi0
    refine reg.wp_abs (fun a0 => a0.tmps.size = 60 ∧ (∀ h, a0.tmps[1]'h = .string c)) ⟨rfl, fun _ => rfl⟩ ?_
    rintro a0 ⟨hsz, s1⟩ ha0
    refine reg.wp_region_E (S := fun W => Ls W []) (E := fun _ => false) (by kernel_rfl) ?_
    replace hM := hM.drew
    refine reg.e_take (i := 0) (.string c) rfl (by kernel_rfl) (by kernel_rfl) (by kernel_rfl) (by kernel_rfl) (fun _ _ _ h => h) (reg.wanted_none rfl) (hM.ls (by simp)) (fun W hW => by simp [execOp, go_sem, Act.put, hsz, s1]) ?_
    refine reg.e_take (i := 1) (.int .u8 b7) rfl (by kernel_rfl) (by kernel_rfl) (by kernel_rfl) (by kernel_rfl) (fun _ _ _ h => h) (reg.wanted_none rfl) (hM.ls (by simp)) (fun W hW => by simp [execOp, go_sem, Act.put, hsz, s1, H7.out]) ?_
    refine reg.e_take (i := 2) (.int .i64 b7) rfl (by kernel_rfl) (by kernel_rfl) (by kernel_rfl) (by kernel_rfl) (fun _ _ _ h => h) (reg.wanted_none rfl) (hM.ls (by simp)) (fun W hW => by simp [execOp, go_sem, Act.put, hsz, s1, w7.out]) ?_
    refine reg.e_take (i := 3) (.int .i64 (256 * b7)) rfl (by kernel_rfl) (by kernel_rfl) (by kernel_rfl) (by kernel_rfl) (fun _ _ _ h => h) (reg.wanted_none rfl) (hM.ls (by simp)) (fun W hW => by simp [execOp, go_sem, Act.put, hsz, s1, w9.out]) ?_
    refine reg.e_take (i := 4) (.string c) rfl (by kernel_rfl) (by kernel_rfl) (by kernel_rfl) (by kernel_rfl) (fun _ _ _ h => h) (reg.wanted_none rfl) (hM.ls (by simp)) (fun W hW => by simp [execOp, go_sem, Act.put, hsz, s1]) ?_
    refine reg.e_take (i := 5) (.int .u8 b8) rfl (by kernel_rfl) (by kernel_rfl) (by kernel_rfl) (by kernel_rfl) (fun _ _ _ h => h) (reg.wanted_none rfl) (hM.ls (by simp)) (fun W hW => by simp [execOp, go_sem, Act.put, hsz, s1, H8.out]) ?_
    refine reg.e_take (i := 6) (.int .i64 b8) rfl (by kernel_rfl) (by kernel_rfl) (by kernel_rfl) (by kernel_rfl) (fun _ _ _ h => h) (reg.wanted_none rfl) (hM.ls (by simp)) (fun W hW => by simp [execOp, go_sem, Act.put, hsz, s1, w8.out]) ?_
    refine reg.e_take (i := 7) (.int .i64 k) rfl (by kernel_rfl) (by kernel_rfl) (by kernel_rfl) (by kernel_rfl) (fun _ _ _ h => h) (reg.wanted_none rfl) (hM.ls (by simp)) (fun W hW => by simp [execOp, go_sem, Act.put, hsz, s1, w10.out]) ?_
    refine reg.e_take (i := 8) (.int .i64 (n : Int)) rfl (by kernel_rfl) (by kernel_rfl) (by kernel_rfl) (by kernel_rfl) (fun _ _ _ h => h) (reg.wanted_none rfl) (hM.ls (by simp)) (fun W hW => by simp [execOp, go_sem, Act.put, hsz, s1, w11.out]) ?_
    refine reg.e_take (i := 9) (.int .i64 (n : Int)) rfl (by kernel_rfl) (by kernel_rfl) (by kernel_rfl) (by kernel_rfl) (fun _ _ _ h => h) (reg.wanted_none rfl) (hM.ls (by simp)) (fun W hW => by simp [execOp, go_sem, Act.put, hsz, s1]) ?_
    refine reg.e_done (by kernel_rfl) ?_ _
    subst ha0
    clear hsz s1
    go_simp
    repeat' (first | go_values | go_skip | go_guarded | go_step | go_upon | (simp only [Int.not_lt, Int.not_le] at *; go_simp))
    have hCr := hC0.call hM.below
    refine reg.wp_abs (fun a0 => a0.tmps.size = 60 ∧ (∀ h, a0.tmps[1]'h = .string c) ∧ (∀ h, a0.tmps[2]'h = .pointer (some ⟨zd, 0, none⟩)) ∧ (∀ h, a0.tmps[5]'h = .int .i64 (n : Int))) ⟨rfl, fun _ => rfl, fun _ => rfl, fun _ => rfl⟩ ?_
    rintro a0 ⟨hsz, s1, s2, s5⟩ ha0
    refine reg.wp_region_E (S := fun W => Ls W [(zd, 45, (dkl v d.s))]) (E := fun _ => false) (by kernel_rfl) ?_
    replace hM := hM.drew
    replace hCr := hCr.call (Below.refl _ _).drew
    refine reg.e_take (i := 0) (ag ((dkl v d.s))) rfl (by kernel_rfl) (by kernel_rfl) (by kernel_rfl) (by kernel_rfl) (fun _ _ _ h => h) (reg.wanted_none rfl) (hM.ls (by simp)) (fun W hW => ex_load rfl row_disk (by simp [go_sem, Act.put, hsz, s1, s2, s5]) hW.at0 (Nat.le_refl 2) (cut_all rfl)) ?_
    refine reg.e_take (i := 1) (.string c) rfl (by kernel_rfl) (by kernel_rfl) (by kernel_rfl) (by kernel_rfl) (fun _ _ _ h => h) (reg.wanted_none rfl) (hM.ls (by simp)) (fun W hW => by simp [execOp, go_sem, Act.put, hsz, s1, s2, s5]) ?_
    refine reg.e_take (i := 2) (.int .i64 (n : Int)) rfl (by kernel_rfl) (by kernel_rfl) (by kernel_rfl) (by kernel_rfl) (fun _ _ _ h => h) (reg.wanted_none rfl) (hM.ls (by simp)) (fun W hW => by simp [execOp, go_sem, Act.put, hsz, s1, s2, s5]) ?_
    refine reg.e_one 3 (by kernel_rfl) rfl ?_
    refine reg.r_call (i := 3) 31 #[.string { data := #[120] }, .int .i64 (n : Int)] rfl (reg.wanted_none rfl) (by simp [execOp, go_sem, Act.put, hsz, s1, s2, s5]) ((HRP.out _).mono ?_)
    rintro re ru1 ⟨rfl, rhv⟩
    replace hM := hM.call rhv
    replace hCr := hCr.call rhv
    clear rhv
    refine ⟨_, rfl, hM.ls (by simp), ?_⟩
    refine reg.e_one 4 (by kernel_rfl) rfl ?_
    refine reg.r_call (i := 4) 63 #[ag ((dkl v d.s)), .string c, .string (rpt 120 n)] rfl (reg.wanted_none rfl) (by simp [execOp, go_sem, Act.put, hsz, s1, s2, s5]) ((HSE.out _ hCr.out).mono ?_)
    rintro re ru2 ⟨rfl, rhv⟩
    replace hM := hM.call rhv
    replace hCr := hCr.call rhv
    clear rhv
    refine ⟨_, rfl, hM.ls (by simp), ?_⟩
    refine reg.e_take (i := 5) (.tuple #[.int .i64 s, .int .i64 A, .int .i64 B]) rfl (by kernel_rfl) (by kernel_rfl) (by kernel_rfl) (by kernel_rfl) (fun _ _ _ h => h) (reg.wanted_none rfl) (hM.ls (by simp)) (fun W hW => by simp [execOp, go_sem, Act.put, hsz, s1, s2, s5]) ?_
    refine reg.e_take (i := 6) (.int .i64 s) rfl (by kernel_rfl) (by kernel_rfl) (by kernel_rfl) (by kernel_rfl) (fun _ _ _ h => h) (reg.wanted_none rfl) (hM.ls (by simp)) (fun W hW => by simp [execOp, go_sem, Act.put, hsz, s1, s2, s5]) ?_
    refine reg.e_take (i := 7) (.int .i64 A) rfl (by kernel_rfl) (by kernel_rfl) (by kernel_rfl) (by kernel_rfl) (fun _ _ _ h => h) (reg.wanted_none rfl) (hM.ls (by simp)) (fun W hW => by simp [execOp, go_sem, Act.put, hsz, s1, s2, s5]) ?_
    refine reg.e_take (i := 8) (.int .i64 B) rfl (by kernel_rfl) (by kernel_rfl) (by kernel_rfl) (by kernel_rfl) (fun _ _ _ h => h) (reg.wanted_none rfl) (hM.ls (by simp)) (fun W hW => by simp [execOp, go_sem, Act.put, hsz, s1, s2, s5]) ?_
    refine reg.e_take (i := 9) (.int .i64 s) rfl (by kernel_rfl) (by kernel_rfl) (by kernel_rfl) (by kernel_rfl) (fun _ _ _ h => h) (reg.wanted_none rfl) (hM.ls (by simp)) (fun W hW => by simp [execOp, go_sem, Act.put, hsz, s1, s2, s5]) ?_
    refine reg.e_take (i := 10) (.int .i64 A) rfl (by kernel_rfl) (by kernel_rfl) (by kernel_rfl) (by kernel_rfl) (fun _ _ _ h => h) (reg.wanted_none rfl) (hM.ls (by simp)) (fun W hW => by simp [execOp, go_sem, Act.put, hsz, s1, s2, s5]) ?_
    refine reg.e_take (i := 11) (.int .i64 B) rfl (by kernel_rfl) (by kernel_rfl) (by kernel_rfl) (by kernel_rfl) (fun _ _ _ h => h) (reg.wanted_none rfl) (hM.ls (by simp)) (fun W hW => by simp [execOp, go_sem, Act.put, hsz, s1, s2, s5]) ?_
    refine reg.e_done (by kernel_rfl) ?_ _
    subst ha0
    clear hsz s1 s2 s5
    go_simp
    clear hCr hC0 HSE HRP H7 H8 w7 w8 w9 w10 w11
    by_cases hsz : 0 < s
    · have HR : Hid ((if s ≠ 0 ∨ n = 0 then mv0 else (⟨2, (n : Int)⟩ : Mv)) = mv0) := if_pos (.inl (by omega))
      have f1 : decide (0 < s) = true := decide_eq_true hsz
      clear hs0
      repeat' (first | (go_big_may; first | (refine v_build rfl rfl bld_move0 ?hbv ?_; (case hbv => simp [Act.eval, Act.put])) | (refine v_fill rfl rfl row_move rfl rfl hM.at0 (mvl_vs _) rfl ?_; intro u hv hc; replace hM := hM.put0 hc hv; clear hv hc)) | go_values | go_skip | go_guarded | go_step | go_upon | (simp only [Int.not_lt, Int.not_le] at *; go_simp))
      exact bodyPost_ret (ret_1 rfl rfl (ld_var row_move hM.at0 rfl)) rfl ⟨by rw [HR.out], hM.below⟩
    · have hsz0 : s = 0 := by omega
      have f1 : decide (0 < s) = false := decide_eq_false hsz
      by_cases hn0 : n = 0
      · have HR : Hid ((if s ≠ 0 ∨ n = 0 then mv0 else (⟨2, (n : Int)⟩ : Mv)) = mv0) := if_pos (.inr hn0)
        have f2 : ((n : Int) == 0) = true := by rw [hn0]; rfl
        have f3 : (n == 0) = true := by rw [hn0]; rfl
        clear hs0 hsz hsz0 hn0
        repeat' (first | (go_big_may; first | (refine v_build rfl rfl bld_move0 ?hbv ?_; (case hbv => simp [Act.eval, Act.put])) | (refine v_fill rfl rfl row_move rfl rfl hM.at0 (mvl_vs _) rfl ?_; intro u hv hc; replace hM := hM.put0 hc hv; clear hv hc)) | go_values | go_skip | go_guarded | go_step | go_upon | (simp only [Int.not_lt, Int.not_le] at *; go_simp))
        exact bodyPost_ret (ret_1 rfl rfl (ld_var row_move hM.at0 rfl)) rfl ⟨by rw [HR.out], hM.below⟩
      · have HR : Hid ((if s ≠ 0 ∨ n = 0 then mv0 else (⟨2, (n : Int)⟩ : Mv)) = ⟨2, (n : Int)⟩) := if_neg (fun q => q.elim (fun z => z hsz0) hn0)
        have f2 : ((n : Int) == 0) = false := by simpa using hn0
        have f3 : (n == 0) = false := by simpa using hn0
        clear hs0 hsz hsz0 hn0
        repeat' (first | (go_big_may; first | (refine v_build rfl rfl (bld_move ⟨2, (n : Int)⟩) ?hbv ?_; (case hbv => simp [Act.eval, Act.put])) | (refine v_fill rfl rfl row_move rfl rfl hM.at0 (mvl_vs ⟨2, (n : Int)⟩) rfl ?_; intro u hv hc; replace hM := hM.put0 hc hv; clear hv hc)) | go_values | go_skip | go_guarded | go_step | go_upon | (simp only [Int.not_lt, Int.not_le] at *; go_simp))
        exact bodyPost_ret (ret_1 rfl rfl (ld_var row_move hM.at0 rfl)) rfl ⟨by rw [HR.out], hM.below⟩
  · have HRM : Hid (rmV d c = mvOf 1 ((doT d c ⟨#[]⟩).size : Int)) := if_neg hq
    rw [HRM.out]
    obtain ⟨T, hT⟩ : ∃ T, doT d c ⟨#[]⟩ = T := ⟨_, rfl⟩
    obtain ⟨C, hC⟩ : ∃ C, doC d c ⟨#[]⟩ = C := ⟨_, rfl⟩
    obtain ⟨N, hN⟩ : ∃ N, (doD d c ⟨#[]⟩).b = N := ⟨_, rfl⟩
    obtain ⟨S, hS⟩ : ∃ S, (doD d c ⟨#[]⟩).s = S := ⟨_, rfl⟩
    have HDN : Hid (∀ u, Rts u v d.b → Calls Try.prog 45 #[ag (dkl v d.s), .string c, .string ⟨#[]⟩] u fun e w' => ∃ a cp, e = .returned (.tuple #[ag (dkl (.slice a N.length cp) S), .string T, .int .i64 C]) ∧ Rts w' (.slice a N.length cp) N ∧ Below u.heap.size u w') := fun u hu => done_named v d c ⟨#[]⟩ hcm (Nat.zero_le _) T C N S hT hC hN hS u hu
    rw [hT]
    have hTs := do_size hd c ⟨#[]⟩
    rw [hT] at hTs
    have hem := empty_iff T
    generalize N.length = nn at *
    have f2 : ((c.size : Int) == 10) = (c.size == 10) := by rw [Bool.eq_iff_iff]; simp; omega
    have HF : Hid ((bt c 0 == 42) = false ∨ (bt c 0 == 42) = true ∧ ((c.size : Int) == 10) = false ∧ (c.size == 10) = false) := by
      by_cases p : bt c 0 = 42
      · right
        have p2 : ¬ c.size = 10 := fun q => hq ⟨p, q⟩
        exact ⟨by simpa using p, by rw [f2]; simpa using p2, by simpa using p2⟩
      · left; simpa using p
    clear hT hC hN hS hq HRM hn hd f2 h0 h
    by_cases hTz : T.size = 0
    · have HR : Hid (mvOf 1 (T.size : Int) = mv0) := if_pos (by omega)
      rw [HR.out]
      have HT : Hid (T.toList.isEmpty = true) := by show _ = _; rw [hem]; exact decide_eq_true hTz
      clear hem hTz hTs
      have g1 := HT.out
      rcases HF.out with f1 | ⟨f1, f2, f3⟩
      all_goals
        go_enter Try.func43, Try.ntmps43
        repeat' (first | (go_big_may; first | (refine v_box rfl rfl rfl ?_; intro u zd hN; replace hM := hM.new hN; clear hN) | (refine v_alloc rfl zer_move rfl ?_; intro u za hN; replace hM := hM.new hN; clear hN) | (refine v_load rfl rfl row_disk rfl hM.at1 (Nat.le_refl _) (cut_all rfl) ?_)) | go_values | go_skip | go_guarded | go_step | go_upon | (simp only [Int.not_lt, Int.not_le] at *; go_simp))
        refine (HDN.out _ (hC0.call hM.below).out).mono ?_
        rintro e u1 ⟨xa, xc, rfl, hr, hb⟩
        replace hM := hM.call hb
        clear hb hr HDN hC0
        repeat' (first | (go_big_may; first | (refine v_alloc rfl zer_disk rfl ?_; intro u zt hN; replace hM := hM.new hN; clear hN) | (refine v_fill rfl rfl row_disk rfl rfl hM.at0 (dkl_vs (v := .slice xa nn xc) S rfl) rfl ?_; intro u hv hc; replace hM := hM.put0 hc hv; clear hv hc) | (refine v_build rfl rfl bld_move0 ?hbv ?_; (case hbv => simp [Act.eval, Act.put])) | (refine v_fill rfl rfl row_move rfl rfl hM.at1 (mvl_vs mv0) rfl ?_; intro u hv hc; replace hM := hM.put1 hc hv; clear hv hc)) | go_values | go_skip | go_guarded | go_step | go_upon | (simp only [Int.not_lt, Int.not_le] at *; go_simp))
        exact bodyPost_ret (ret_1 rfl rfl (ld_var row_move hM.at1 rfl)) rfl ⟨rfl, hM.below⟩
    · have HR : Hid (mvOf 1 (T.size : Int) = ⟨1, (T.size : Int)⟩) := if_neg (by omega)
      rw [HR.out]
      have HT : Hid (T.toList.isEmpty = false) := by show _ = _; rw [hem]; exact decide_eq_false hTz
      clear hem hTz
      have g1 := HT.out
      rcases HF.out with f1 | ⟨f1, f2, f3⟩
      all_goals
        go_enter Try.func43, Try.ntmps43
        repeat' (first | (go_big_may; first | (refine v_box rfl rfl rfl ?_; intro u zd hN; replace hM := hM.new hN; clear hN) | (refine v_alloc rfl zer_move rfl ?_; intro u za hN; replace hM := hM.new hN; clear hN) | (refine v_load rfl rfl row_disk rfl hM.at1 (Nat.le_refl _) (cut_all rfl) ?_)) | go_values | go_skip | go_guarded | go_step | go_upon | (simp only [Int.not_lt, Int.not_le] at *; go_simp))
        refine (HDN.out _ (hC0.call hM.below).out).mono ?_
        rintro e u1 ⟨xa, xc, rfl, hr, hb⟩
        replace hM := hM.call hb
        clear hb hr HDN hC0
        repeat' (first | (go_big_may; first | (refine v_alloc rfl zer_disk rfl ?_; intro u zt hN; replace hM := hM.new hN; clear hN) | (refine v_fill rfl rfl row_disk rfl rfl hM.at0 (dkl_vs (v := .slice xa nn xc) S rfl) rfl ?_; intro u hv hc; replace hM := hM.put0 hc hv; clear hv hc) | (refine v_build rfl rfl (bld_move ⟨1, (T.size : Int)⟩) ?hbv ?_; (case hbv => simp [Act.eval, Act.put])) | (refine v_fill rfl rfl row_move rfl rfl hM.at1 (mvl_vs ⟨1, (T.size : Int)⟩) rfl ?_; intro u hv hc; replace hM := hM.put1 hc hv; clear hv hc)) | go_values | go_skip | go_guarded | go_step | go_upon | (simp only [Int.not_lt, Int.not_le] at *; go_simp))
        exact bodyPost_ret (ret_1 rfl rfl (ld_var row_move hM.at1 rfl)) rfl ⟨rfl, hM.below⟩
/-- the status of a code, of a wrap and a verdict in memory -/
theorem status_any (k : Int) (zw zv : Nat) (x : Wp) (V : Vd) (w : World) (hw : w.heap[zw]? = some (bx 23 (wpl x))) (hv : w.heap[zv]? = some (bx 39 (vdl V))) :
    Calls Try.prog 44 #[.int .i64 k, .pointer (some ⟨zw, 0, none⟩), .pointer (some ⟨zv, 0, none⟩)] w fun e w' => e = .returned (.string (stT ⟨x.tag, V.res, k⟩)) ∧ Below w.heap.size w w' := by
  have HS : Hid (∀ u, Calls Try.prog 14 #[ag (spl ⟨x.tag, V.res, k⟩)] u fun e w' => e = .returned (.tuple #[.string (stT ⟨x.tag, V.res, k⟩), .int .i64 (stC ⟨x.tag, V.res, k⟩)]) ∧ Below u.heap.size u w') := fun u => statusText_any _ u
  generalize stT ⟨x.tag, V.res, k⟩ = T at *
  generalize stC ⟨x.tag, V.res, k⟩ = C at *
  go_enter Try.func44, Try.ntmps44
  repeat' (first | (go_big_may; first | (refine v_get rfl rfl lod_int rfl hw rfl ?_) | (refine v_get rfl rfl lod_int rfl hv rfl ?_) | (refine v_build rfl rfl (bld_status ⟨x.tag, V.res, k⟩) ?hbv ?_; (case hbv => simp [Act.eval, Act.put]))) | go_values | go_skip | go_guarded | go_step | go_upon | (simp only [Int.not_lt, Int.not_le] at *; go_simp))
  refine (HS.out _).mono ?_
  rintro e u ⟨rfl, hb⟩
  have HB : Hid (Below w.heap.size w u) := hb
  clear hb hw hv HS
  repeat' (first | go_values | go_skip | go_guarded | go_step | go_upon | (simp only [Int.not_lt, Int.not_le] at *; go_simp))
  go_ret
  exact ⟨rfl, HB.out⟩
end Go.Proofs.Ytecknicmonhcaaa.bulk
