/- SlotsTwice: to configure twice is to configure once. -/
import Derived.Test.YtfhlbndilkidhaaSltL
import Derived.Test.YtfhlbndilkidhaaSltW
import Derived.Test.YtfhlbndilkidhaaSltO
import Derived.BigQuiet
namespace Go.Proofs.Ytfhlbndilkidhaa.slotsTwice
open Go Go.RowKit Go.Proofs.Ytfhlbndilkidhaa.slots
set_option linter.unusedVariables false
set_option linter.unusedSimpArgs false
set_option maxRecDepth 100000

theorem drewN {w u : World} {L : List Bk} (h : Mm w u L) (n : Nat) : Mm w (u.drewN n) L := ⟨h.lies, h.own, h.ap, ⟨h.below.os, h.below.tape, h.below.output, h.below.size, h.below.block⟩⟩
set_option maxHeartbeats 16000000 in
theorem walk0 (B : Bd) (n a o : Int) (w : World) (hw : Wf B) (ha1 : -9223372036854775808 ≤ a) (ha2 : a ≤ 9223372036854775807) (ho1 : -9223372036854775808 ≤ o) (ho2 : o ≤ 9223372036854775807) : Calls Try.prog 8 #[ag (fl B), .int .i64 n, .int .i64 a, .int .i64 o] w fun r w' => r = .returned (.bool true) ∧ Below w.heap.size w w' := by
  have HL : Hid ((fl B).length = 594) := hw.length
  have HE : Hid (0 + 594 ≤ (fl B).length) := by show 0 + 594 ≤ _; rw [hw.length]; omega
  have HC : Hid (cut (fl B) 0 594 = fl B) := cut_all hw.length
  have hx : Wf (doB B 5 n 0 a).B := do_wf hw
  have HLx : Hid ((fl (doB B 5 n 0 a).B).length = 594) := hx.length
  have HEx : Hid (0 + 594 ≤ (fl (doB B 5 n 0 a).B).length) := by show 0 + 594 ≤ _; rw [hx.length]; omega
  have HCx : Hid (cut (fl (doB B 5 n 0 a).B) 0 594 = fl (doB B 5 n 0 a).B) := cut_all hx.length
  have HD : Hid (∀ u, Calls Try.prog 9 #[ag (fl B), ag [5, n, 0, a]] u fun r w' => r = .returned (.tuple #[ag (fl (doB B 5 n 0 a).B), .int .i64 (doB B 5 n 0 a).c, .int .i64 (doB B 5 n 0 a).n]) ∧ Below u.heap.size u w') := fun u => do_any B 5 n 0 a u hw ha1 ha2
  have HV : Hid (∀ u, Calls Try.prog 15 #[] u fun e w' => e = .returned (.bool true) ∧ Below u.heap.size u w') := lives_any
  have hb5 := bld_C3 5 n a
  have hM := Mm.nil w
  by_cases hc : ¬ (doB B 5 n 0 a).c = 1
  · have HX : Hid (fl (doB B 5 n 0 a).B = fl B) := by show _ = _; rw [do_no hw hc]
    have e1 : ((doB B 5 n 0 a).c != 1) = true := by simpa using hc
    have e2 : decide (fl (doB B 5 n 0 a).B = fl B) = true := decide_eq_true HX.out
    clear hc hw hx HX
    generalize (doB B 5 n 0 a).c = xc at *
    generalize (doB B 5 n 0 a).n = xn at *
    generalize fl (doB B 5 n 0 a).B = G at *
    generalize fl B = F at *
    go_enter Try.func8, Try.ntmps8
    repeat' (first | (go_big_may; first | (refine a_box rfl rfl rfl ?_; intro u zb hN; replace hM := hM.new hN; clear hN) | (refine a_load rfl rfl row_board rfl hM.at0 HE.out HC.out ?_) | (refine a_build rfl rfl hb5 (by simp [Act.eval]) ?_)) | go_values | go_skip | go_guarded | go_step | go_upon | (simp only [Int.not_lt, Int.not_le] at *; go_simp))
    refine (HD.out _).mono ?_
    rintro r u ⟨rfl, hv⟩
    replace hM := hM.call hv
    clear hv
    repeat' (first | (go_big_may; first | (refine a_alloc rfl zer_board rfl ?_; intro u zb hN; replace hM := hM.new hN; clear hN) | (refine a_fill rfl rfl row_board rfl rfl hM.at0 HLx.out rep_594 ?_; intro u hv hc; replace hM := hM.put0 hc hv; clear hv hc)) | go_values | go_skip | go_guarded | go_step | go_upon | (simp only [Int.not_lt, Int.not_le] at *; go_simp))
    refine (HV.out _).mono ?_
    rintro r u ⟨rfl, hv⟩
    replace hM := hM.call hv
    clear hv
    repeat' (first | go_values | go_skip | go_guarded | go_step | go_upon | (simp only [Int.not_lt, Int.not_le] at *; go_simp))
    refine (HV.out _).mono ?_
    rintro r u ⟨rfl, hv⟩
    replace hM := hM.call hv
    clear hv
    repeat' (first | (go_big_may; first | (refine a_load rfl rfl row_board rfl hM.at0 HEx.out HCx.out ?_) | (refine a_load rfl rfl row_board rfl hM.at1 HE.out HC.out ?_) | (refine a_eql rfl rfl cmp_board rfl rfl HLx.out HL.out ?_; rw [e2])) | go_values | go_skip | go_guarded | go_step | go_upon | (simp only [Int.not_lt, Int.not_le] at *; go_simp))
    go_ret
    exact ⟨rfl, hM.below⟩
  have hc : (doB B 5 n 0 a).c = 1 := by omega
  obtain ⟨m, rfl, hcf⟩ := cfd_of hc
  have hm1 := hcf.m1
  have hm2 := hcf.m2
  obtain ⟨t1, t2, t3, t4⟩ := twice hw ((chk_iff hw).1 (do_chk hc)) hcf
  have HDy : Hid (∀ u, Calls Try.prog 9 #[ag (fl (doB B 5 (m : Int) 0 a).B), ag [5, (m : Int), 0, a]] u fun r w' => r = .returned (.tuple #[ag (fl (doB B 5 (m : Int) 0 a).B), .int .i64 (doB B 5 (m : Int) 0 a).c, .int .i64 (doB B 5 (m : Int) 0 a).n]) ∧ Below u.heap.size u w') := fun u => by
    have := do_any (doB B 5 (m : Int) 0 a).B 5 (m : Int) 0 a u hx ha1 ha2
    rw [t1] at this
    exact this
  have HDz : Hid (∀ u, Calls Try.prog 9 #[ag (fl (doB B 5 (m : Int) 0 a).B), ag [5, (m : Int), 0, o]] u fun r w' => r = .returned (.tuple #[ag (fl (doB (doB B 5 (m : Int) 0 a).B 5 (m : Int) 0 o).B), .int .i64 (doB (doB B 5 (m : Int) 0 a).B 5 (m : Int) 0 o).c, .int .i64 (doB (doB B 5 (m : Int) 0 a).B 5 (m : Int) 0 o).n]) ∧ Below u.heap.size u w') := fun u => do_any _ 5 (m : Int) 0 o u hx ho1 ho2
  have hz : Wf (doB (doB B 5 (m : Int) 0 a).B 5 (m : Int) 0 o).B := do_wf hx
  have HLz : Hid ((fl (doB (doB B 5 (m : Int) 0 a).B 5 (m : Int) 0 o).B).length = 594) := hz.length
  have HT : Hid ((doB (doB B 5 (m : Int) 0 a).B 5 (m : Int) 0 o).c = 1 → stB o = true ∧ ∀ k : Nat, k < 32 → (k < 2 ∨ bit a k = 1 ∧ bit o k = 1) → cl (sl (doB (doB B 5 (m : Int) 0 a).B 5 (m : Int) 0 o).B m) (2 + k) = cl (sl (doB B 5 (m : Int) 0 a).B m) (2 + k) ∧ cl (sl (doB (doB B 5 (m : Int) 0 a).B 5 (m : Int) 0 o).B m) (34 + k) = cl (sl (doB B 5 (m : Int) 0 a).B m) (34 + k)) := fun h => by
    obtain ⟨h1, h2⟩ := t2 o h
    refine ⟨h1, fun k hk hor => ?_⟩
    rw [h2, t3]
    exact cfgd_both t4 hk hor
  have HXc : Hid (∀ j : Nat, j < 66 → (fl (doB B 5 (m : Int) 0 a).B)[m * 66 + j]? = some (cl (sl (doB B 5 (m : Int) 0 a).B m) j)) := fun j hj => fl_at hx (by omega) hj
  have HZc : Hid (∀ j : Nat, j < 66 → (fl (doB (doB B 5 (m : Int) 0 a).B 5 (m : Int) 0 o).B)[m * 66 + j]? = some (cl (sl (doB (doB B 5 (m : Int) 0 a).B 5 (m : Int) 0 o).B m) j)) := fun j hj => fl_at hz (by omega) hj
  have HSa : Hid (stB a = true) := hcf.set
  rw [hc] at HD HDy
  clear hc hw hx hcf t1 t2 t3 t4 hz
  generalize (doB (doB B 5 (m : Int) 0 a).B 5 (m : Int) 0 o).c = zc at *
  generalize (doB (doB B 5 (m : Int) 0 a).B 5 (m : Int) 0 o).n = zn at *
  generalize fl (doB (doB B 5 (m : Int) 0 a).B 5 (m : Int) 0 o).B = Z at *
  generalize sl (doB (doB B 5 (m : Int) 0 a).B 5 (m : Int) 0 o).B m = sz at *
  generalize (doB B 5 (m : Int) 0 a).n = xn at *
  generalize fl (doB B 5 (m : Int) 0 a).B = G at *
  generalize sl (doB B 5 (m : Int) 0 a).B m = sx at *
  generalize fl B = F at *
  obtain ⟨na, rfl⟩ : ∃ na : Nat, a = na := ⟨a.toNat, by
    have := HSa.out
    unfold stB at this
    simp only [Bool.and_eq_true, decide_eq_true_eq] at this
    omega⟩
  have hna : na ≤ 4294967295 := by
    have := HSa.out
    unfold stB at this
    simp only [Bool.and_eq_true, decide_eq_true_eq] at this
    omega
  have hb5o := bld_C3 5 (m : Int) o
  clear HSa ha1 ha2
  have h11 := i64_and1
  go_enter Try.func8, Try.ntmps8
  repeat' (first | (go_big_may; first | (refine a_box rfl rfl rfl ?_; intro u z0 hN; replace hM := hM.new hN; clear hN) | (refine a_load rfl rfl row_board rfl hM.at0 HE.out HC.out ?_) | (refine a_build rfl rfl hb5 (by simp [Act.eval]) ?_)) | go_values | go_skip | go_guarded | go_step | go_upon | (simp only [Int.not_lt, Int.not_le] at *; go_simp))
  refine (HD.out _).mono ?_
  rintro r u ⟨rfl, hv⟩
  replace hM := hM.call hv
  clear hv
  repeat' (first | (go_big_may; first | (refine a_alloc rfl zer_board rfl ?_; intro u zx hN; replace hM := hM.new hN; clear hN) | (refine a_fill rfl rfl row_board rfl rfl hM.at0 HLx.out rep_594 ?_; intro u hv hc; replace hM := hM.put0 hc hv; clear hv hc)) | go_values | go_skip | go_guarded | go_step | go_upon | (simp only [Int.not_lt, Int.not_le] at *; go_simp))
  refine (HV.out _).mono ?_
  rintro r u ⟨rfl, hv⟩
  replace hM := hM.call hv
  clear hv
  repeat' (first | (go_big_may; first | (refine a_load rfl rfl row_board rfl hM.at0 HEx.out HCx.out ?_) | (refine a_build rfl rfl hb5 (by simp [Act.eval]) ?_)) | go_values | go_skip | go_guarded | go_step | go_upon | (simp only [Int.not_lt, Int.not_le] at *; go_simp))
  refine (HDy.out _).mono ?_
  rintro r u ⟨rfl, hv⟩
  replace hM := hM.call hv
  clear hv
  repeat' (first | (go_big_may; first | (refine a_alloc rfl zer_board rfl ?_; intro u zy hN; replace hM := hM.new hN; clear hN) | (refine a_fill rfl rfl row_board rfl rfl hM.at0 HLx.out rep_594 ?_; intro u hv hc; replace hM := hM.put0 hc hv; clear hv hc) | (refine a_load rfl rfl row_board rfl hM.at0 HEx.out HCx.out ?_) | (refine a_load rfl rfl row_board rfl hM.at1 HEx.out HCx.out ?_) | (refine a_neq rfl rfl cmp_board rfl rfl HLx.out HLx.out ?_; rw [decide_eq_true (rfl : G = G)]) | (refine a_build rfl rfl hb5o (by simp [Act.eval]) ?_)) | go_values | go_skip | go_guarded | go_step | go_upon | (simp only [Int.not_lt, Int.not_le] at *; go_simp))
  refine (HDz.out _).mono ?_
  rintro r u ⟨rfl, hv⟩
  replace hM := hM.call hv
  clear hv
  repeat' (first | (go_big_may; first | (refine a_alloc rfl zer_board rfl ?_; intro u zz hN; replace hM := hM.new hN; clear hN) | (refine a_fill rfl rfl row_board rfl rfl hM.at0 HLz.out rep_594 ?_; intro u hv hc; replace hM := hM.put0 hc hv; clear hv hc)) | go_values | go_skip | go_guarded | go_step | go_upon | (simp only [Int.not_lt, Int.not_le] at *; go_simp))
  clear HD HDy HDz HV HL HE HC hb5 hb5o HLx HEx HCx HLz
  have HM : Hid (Mm w u [(zz, 27, Z), (zy, 27, G), (zx, 27, G), (z0, 27, F)]) := hM
  clear hM
  go_loopw [17, 72] (fun _ i wr => ∃ k : Nat, k ≤ 32 ∧ i = .int .i64 (k : Int) ∧ Hid (Mm w wr [(zz, 27, Z), (zy, 27, G), (zx, 27, G), (z0, 27, F)])) (fun _ i _ => 32 - (intOf i).toNat)
  case atStart => exact ⟨0, by omega, rfl, HM.out⟩
  case round =>
    obtain ⟨k, hk, rfl, HA⟩ := hrel
    have hM := HA.out
    clear HA HM
    by_cases hlt : ¬ k < 32
    · repeat' (first | go_values | go_skip | go_guarded | go_step | go_upon | (simp only [Int.not_lt, Int.not_le] at *; go_simp))
      go_ret
      exact ⟨rfl, hM.below⟩
    have hlt : k < 32 := by omega
    have x2 := bx_cell hM.at2 (HXc.out (2 + k) (by omega))
    have x34 := bx_cell hM.at2 (HXc.out (34 + k) (by omega))
    have z2 := bx_cell hM.at0 (HZc.out (2 + k) (by omega))
    have z34 := bx_cell hM.at0 (HZc.out (34 + k) (by omega))
    rw [← Nat.add_assoc] at x2 x34 z2 z34
    go_upto_region 11 with (fail)
    go_cut [128] from 73 to 129 (fun bv wx => bv = .bool false ∧ Hid (Mm w wx [(zz, 27, Z), (zy, 27, G), (zx, 27, G), (z0, 27, F)]))
    case first =>
      by_cases hzc : ¬ zc = 1
      · have e1 : (zc == 1) = false := by simpa using hzc
        clear hzc HT x2 x34 z2 z34 h11
        go_quiet (fail)
        go_simp
        repeat' (first | go_values | go_skip | go_guarded | go_step | go_upon | (simp only [Int.not_lt, Int.not_le] at *; go_simp))
        go_meet
        case rel => exact ⟨rfl, drewN hM _⟩
      have hzc : zc = 1 := by omega
      subst hzc
      obtain ⟨hso, hT⟩ := HT.out rfl
      obtain ⟨no, rfl⟩ : ∃ no : Nat, o = no := ⟨o.toNat, by
        unfold stB at hso
        simp only [Bool.and_eq_true, decide_eq_true_eq] at hso
        omega⟩
      have hno : no ≤ 4294967295 := by
        unfold stB at hso
        simp only [Bool.and_eq_true, decide_eq_true_eq] at hso
        omega
      have HTk : Hid _ := hT k hlt
      clear HT hso hT ho1 ho2
      by_cases k2 : k < 2
      · have e2 : decide ((k : Int) < 2) = true := decide_eq_true (by omega)
        have HTT : Hid _ := HTk.out (.inl k2)
        have n2 : (cl sz (2 + k) != cl sx (2 + k)) = false := by rw [HTT.out.1]; simp
        have n34 : (cl sz (34 + k) != cl sx (34 + k)) = false := by rw [HTT.out.2]; simp
        clear HTk HTT
        go_quiet (fail)
        go_simp
        repeat' (first | go_values | go_skip | go_guarded | go_step | go_upon | (simp only [Int.not_lt, Int.not_le] at *; go_simp))
        go_meet
        case rel => exact ⟨rfl, drewN hM _⟩
      have e2 : decide ((k : Int) < 2) = false := decide_eq_false (by omega)
      cases ba : ((na : Int) / 2 ^ k % 2 == 1)
      · clear HTk x2 x34 z2 z34
        go_quiet (fail)
        go_simp
        repeat' (first | go_values | go_skip | go_guarded | go_step | go_upon | (simp only [Int.not_lt, Int.not_le] at *; go_simp))
        go_meet
        case rel => exact ⟨rfl, drewN hM _⟩
      cases bo : ((no : Int) / 2 ^ k % 2 == 1)
      · clear HTk x2 x34 z2 z34
        go_quiet (fail)
        go_simp
        repeat' (first | go_values | go_skip | go_guarded | go_step | go_upon | (simp only [Int.not_lt, Int.not_le] at *; go_simp))
        go_meet
        case rel => exact ⟨rfl, drewN hM _⟩
      have HTT : Hid _ := HTk.out (.inr ⟨by unfold bit; simpa using ba, by unfold bit; simpa using bo⟩)
      have n2 : (cl sz (2 + k) != cl sx (2 + k)) = false := by rw [HTT.out.1]; simp
      have n34 : (cl sz (34 + k) != cl sx (34 + k)) = false := by rw [HTT.out.2]; simp
      clear HTk HTT
      go_quiet (fail)
      go_simp
      repeat' (first | go_values | go_skip | go_guarded | go_step | go_upon | (simp only [Int.not_lt, Int.not_le] at *; go_simp))
      go_meet
      case rel => exact ⟨rfl, drewN hM _⟩
    case rest =>
    obtain ⟨rfl, HM⟩ := hcut
    clear hM x2 x34 z2 z34
    rename World => wx
    have hM := HM.out
    clear HM
    repeat' (first | go_values | go_skip | go_guarded | go_step | go_upon | (simp only [Int.not_lt, Int.not_le] at *; go_simp))
    go_roundw
    case rel => exact ⟨k + 1, by omega, by go_num, hM⟩
    case measure => simp [intOf]; omega
theorem walk (B : Bd) (n a o : Int) (h1 : (Lit.int .i64 n).wf = true) (h2 : (Lit.int .i64 a).wf = true) (h3 : (Lit.int .i64 o).wf = true) (w : World) (hw : Wf B) : Calls Try.prog 8 #[ag (fl B), .int .i64 n, .int .i64 a, .int .i64 o] w fun r w' => r = .returned (.bool true) ∧ Below w.heap.size w w' :=
  walk0 B n a o w hw (Go.bounds_i64 h2).1 (Go.bounds_i64 h2).2 (Go.bounds_i64 h3).1 (Go.bounds_i64 h3).2
end Go.Proofs.Ytfhlbndilkidhaa.slotsTwice
