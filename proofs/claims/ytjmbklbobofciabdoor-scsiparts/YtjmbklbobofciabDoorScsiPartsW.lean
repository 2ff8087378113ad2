/- ScsiParts: the walk. -/
import Derived.Test.YtjmbklbobofciabDoorScsZ
namespace Go.Proofs.YtjmbklbobofciabDoor.scsiParts
open Go.RowKit Go.PlainAid Go.Proofs.YtjmbklbobofciabDoor.lane Go.Proofs.YtjmbklbobofciabDoor.pipe Go.Proofs.YtjmbklbobofciabDoor.strike Go.Proofs.YtjmbklbobofciabDoor.scsi
set_option linter.unusedVariables false
set_option linter.unusedSimpArgs false
set_option maxRecDepth 100000

set_option maxHeartbeats 16000000 in
theorem walk (x0 : Value) (l0 : List ByteArray) (s0 : Int) (a1 a2 a3 : Int) (a4 : ByteArray) (w1 : (Lit.int .i64 a1).wf = true) (w2 : (Lit.int .i64 a2).wf = true) (w3 : (Lit.int .i64 a3).wf = true) (w4 : a4.size ≤ maxLen) (w : World) (hp : Rts w x0 l0) (hk : l0.length * 16 ≤ reachBytes) (m0 : Int) (hw : w.cell? ⟨0, 0, none⟩ = some (.int .i64 m0)) :
    Calls Tryd.prog 3 #[dkV x0 s0, .int .i64 a1, .int .i64 a2, .int .i64 a3, .string a4] w fun e w' => e = .returned (.bool true) ∧ Below w.heap.size w w' := by
  clear w1 w2 w3
  have hw0 : 0 < w.heap.size := World.block_lt_of_cell? w _ hw
  have HW : Hid (∀ u, Below w.heap.size w u → u.cell? ⟨0, 0, none⟩ = some (.int .i64 m0)) := fun u hb => (hb.cell (p := ⟨0, 0, none⟩) hw0).trans hw
  clear hw hw0
  obtain ⟨K1, hK1⟩ : ∃ K, mkC 40 a1 a2 = K := ⟨_, rfl⟩
  have HM1 : Hid (∀ u, Calls Tryd.prog 4 #[.int .i64 40, .int .i64 a1, .int .i64 a2] u fun e w' => e = .returned (.tuple #[.string (mkT 40 a1 a2), .int .i64 K1]) ∧ Below u.heap.size u w') := fun u => by
    have := make_any 40 a1 a2 u
    rw [hK1] at this
    exact this
  have HLV : Hid (∀ u, Calls Tryd.prog 5 #[] u fun e w' => e = .returned (.bool true) ∧ Below u.heap.size u w') := fun u => lives_any u
  have hz1 := mk_max 40 a1 a2
  obtain ⟨xa, xc, rfl, _, _⟩ := rts_form hp
  obtain ⟨u0, hu0, hX0, hb0⟩ := dk_named w (.slice xa l0.length xc) s0
  obtain ⟨⟨_, x0, x1⟩, f0, f1⟩ := boxD hX0
  have HR : Hid (Rts u0 (.slice xa l0.length xc) l0 ∧ Below w.heap.size w u0 ∧ u0.heap[w.heap.size]? = some (dkO (.slice xa l0.length xc) s0)) := ⟨hp.below hb0, hb0, hX0⟩
  clear hp hX0 hb0
  by_cases q1 : K1 ≠ 0
  · have e1 : (K1 != 0) = true := by simp [q1]
    clear q1
    clear hK1 hk hz1 w4 HW
    generalize mkT 40 a1 a2 = Ca at *
    generalize l0.length = n0 at *
    go_enter Tryd.func3, Tryd.ntmps3
    go_wp2_with fail
    refine (HM1.out _).mono ?_
    rintro e y1 ⟨rfl, hb⟩
    have HB : Hid (Below w.heap.size w y1) := bsq HR.out.2.1 hb
    clear hb HM1 HR
    go_wp2_with fail
    refine (HLV.out _).mono ?_
    rintro e y2 ⟨rfl, hb⟩
    replace HB : Hid (Below w.heap.size w y2) := bsq HB.out hb
    clear hb
    go_wp2_with fail
    refine (HLV.out _).mono ?_
    rintro e y3 ⟨rfl, hb⟩
    replace HB : Hid (Below w.heap.size w y3) := bsq HB.out hb
    clear hb HLV
    go_wp2
    go_ret
    exact ⟨rfl, HB.out⟩
  have q1 : K1 = 0 := Classical.not_not.1 q1
  subst q1
  by_cases q1 : a3 < 0
  · clear hK1 hk hz1 w4 HW
    generalize mkT 40 a1 a2 = Ca at *
    generalize l0.length = n0 at *
    go_enter Tryd.func3, Tryd.ntmps3
    go_wp2_with fail
    refine (HM1.out _).mono ?_
    rintro e y1 ⟨rfl, hb⟩
    have HB : Hid (Below w.heap.size w y1) := bsq HR.out.2.1 hb
    clear hb HM1 HR
    go_wp2_with fail
    refine (HLV.out _).mono ?_
    rintro e y2 ⟨rfl, hb⟩
    replace HB : Hid (Below w.heap.size w y2) := bsq HB.out hb
    clear hb
    go_wp2_with fail
    refine (HLV.out _).mono ?_
    rintro e y3 ⟨rfl, hb⟩
    replace HB : Hid (Below w.heap.size w y3) := bsq HB.out hb
    clear hb HLV
    go_wp2
    go_ret
    exact ⟨rfl, HB.out⟩
  by_cases q1 : a3 > 100
  · clear hK1 hk hz1 w4 HW
    generalize mkT 40 a1 a2 = Ca at *
    generalize l0.length = n0 at *
    go_enter Tryd.func3, Tryd.ntmps3
    go_wp2_with fail
    refine (HM1.out _).mono ?_
    rintro e y1 ⟨rfl, hb⟩
    have HB : Hid (Below w.heap.size w y1) := bsq HR.out.2.1 hb
    clear hb HM1 HR
    go_wp2_with fail
    refine (HLV.out _).mono ?_
    rintro e y2 ⟨rfl, hb⟩
    replace HB : Hid (Below w.heap.size w y2) := bsq HB.out hb
    clear hb
    go_wp2_with fail
    refine (HLV.out _).mono ?_
    rintro e y3 ⟨rfl, hb⟩
    replace HB : Hid (Below w.heap.size w y3) := bsq HB.out hb
    clear hb HLV
    go_wp2
    go_ret
    exact ⟨rfl, HB.out⟩
  by_cases q1 : a2 > 100
  · clear hK1 hk hz1 w4 HW
    generalize mkT 40 a1 a2 = Ca at *
    generalize l0.length = n0 at *
    go_enter Tryd.func3, Tryd.ntmps3
    go_wp2_with fail
    refine (HM1.out _).mono ?_
    rintro e y1 ⟨rfl, hb⟩
    have HB : Hid (Below w.heap.size w y1) := bsq HR.out.2.1 hb
    clear hb HM1 HR
    go_wp2_with fail
    refine (HLV.out _).mono ?_
    rintro e y2 ⟨rfl, hb⟩
    replace HB : Hid (Below w.heap.size w y2) := bsq HB.out hb
    clear hb
    go_wp2_with fail
    refine (HLV.out _).mono ?_
    rintro e y3 ⟨rfl, hb⟩
    replace HB : Hid (Below w.heap.size w y3) := bsq HB.out hb
    clear hb HLV
    go_wp2
    go_ret
    exact ⟨rfl, HB.out⟩
  rename_i q3 q2
  have m1 := mk_code.1 hK1
  obtain ⟨r1, r2, r3, r4⟩ := mk_range m1
  obtain ⟨B, hB⟩ : ∃ B, min (a1 + a2) 4294967295 = B := ⟨_, rfl⟩
  have hB0 : 0 ≤ B ∧ B ≤ 4294967295 := by rw [← hB, Int.min_def]; split <;> omega
  have m2 : mkB 40 B a3 = true := (mk_iff _ _ _).2 ⟨.inl rfl, hB0.1, hB0.2, by omega, by omega⟩
  have m3 : mkB 40 a1 (a2 + a3) = true := (mk_iff _ _ _).2 ⟨.inl rfl, r1, r2, by omega, by omega⟩
  have HM2 : Hid (∀ u, Calls Tryd.prog 4 #[.int .i64 40, .int .i64 (min (a1 + a2) 4294967295), .int .i64 a3] u fun e w' => e = .returned (.tuple #[.string (mkT 40 B a3), .int .i64 0]) ∧ Below u.heap.size u w') := fun u => by
    have := make_any 40 B a3 u
    rw [mk_code.2 m2, ← hB] at this
    rw [← hB]
    exact this
  have HM3 : Hid (∀ u, Calls Tryd.prog 4 #[.int .i64 40, .int .i64 a1, .int .i64 (a2 + a3)] u fun e w' => e = .returned (.tuple #[.string (mkT 40 a1 (a2 + a3)), .int .i64 0]) ∧ Below u.heap.size u w') := fun u => by
    have := make_any 40 a1 (a2 + a3) u
    rw [mk_code.2 m3] at this
    exact this
  have hz2 := mk_max 40 B a3
  have hz3 := mk_max 40 a1 (a2 + a3)
  obtain ⟨C1, hC1⟩ : ∃ C, doC ⟨l0, s0⟩ (mkT 40 a1 a2) ⟨#[]⟩ = C := ⟨_, rfl⟩
  obtain ⟨N1, hN1⟩ : ∃ N, (doD ⟨l0, s0⟩ (mkT 40 a1 a2) ⟨#[]⟩).b = N := ⟨_, rfl⟩
  obtain ⟨S1, hS1⟩ : ∃ S, (doD ⟨l0, s0⟩ (mkT 40 a1 a2) ⟨#[]⟩).s = S := ⟨_, rfl⟩
  obtain ⟨T1, hT1⟩ : ∃ T, doT ⟨l0, s0⟩ (mkT 40 a1 a2) ⟨#[]⟩ = T := ⟨_, rfl⟩
  have HD1 : Hid (∀ v u, Rts u v l0 → Calls Tryd.prog 6 #[dkV v s0, .string (mkT 40 a1 a2), .string ⟨#[]⟩] u fun e w' => ∃ a cp, e = .returned (.tuple #[dkV (.slice a N1.length cp) S1, .string T1, .int .i64 C1]) ∧ Txs w' u.heap.size (.slice a N1.length cp) N1 ∧ Below u.heap.size u w') := fun v u h => do_named v ⟨l0, s0⟩ (mkT 40 a1 a2) ⟨#[]⟩ hk hz1 (by decide) T1 C1 N1 S1 hT1 hC1 hN1 hS1 u h
  obtain ⟨C2, hC2⟩ : ∃ C, doC ⟨l0, s0⟩ (mkT 40 B a3) ⟨#[]⟩ = C := ⟨_, rfl⟩
  obtain ⟨N2, hN2⟩ : ∃ N, (doD ⟨l0, s0⟩ (mkT 40 B a3) ⟨#[]⟩).b = N := ⟨_, rfl⟩
  obtain ⟨S2, hS2⟩ : ∃ S, (doD ⟨l0, s0⟩ (mkT 40 B a3) ⟨#[]⟩).s = S := ⟨_, rfl⟩
  obtain ⟨T2, hT2⟩ : ∃ T, doT ⟨l0, s0⟩ (mkT 40 B a3) ⟨#[]⟩ = T := ⟨_, rfl⟩
  have HD2 : Hid (∀ v u, Rts u v l0 → Calls Tryd.prog 6 #[dkV v s0, .string (mkT 40 B a3), .string ⟨#[]⟩] u fun e w' => ∃ a cp, e = .returned (.tuple #[dkV (.slice a N2.length cp) S2, .string T2, .int .i64 C2]) ∧ Txs w' u.heap.size (.slice a N2.length cp) N2 ∧ Below u.heap.size u w') := fun v u h => do_named v ⟨l0, s0⟩ (mkT 40 B a3) ⟨#[]⟩ hk hz2 (by decide) T2 C2 N2 S2 hT2 hC2 hN2 hS2 u h
  obtain ⟨C3, hC3⟩ : ∃ C, doC ⟨l0, s0⟩ (mkT 40 a1 (a2 + a3)) ⟨#[]⟩ = C := ⟨_, rfl⟩
  obtain ⟨N3, hN3⟩ : ∃ N, (doD ⟨l0, s0⟩ (mkT 40 a1 (a2 + a3)) ⟨#[]⟩).b = N := ⟨_, rfl⟩
  obtain ⟨S3, hS3⟩ : ∃ S, (doD ⟨l0, s0⟩ (mkT 40 a1 (a2 + a3)) ⟨#[]⟩).s = S := ⟨_, rfl⟩
  obtain ⟨T3, hT3⟩ : ∃ T, doT ⟨l0, s0⟩ (mkT 40 a1 (a2 + a3)) ⟨#[]⟩ = T := ⟨_, rfl⟩
  have HD3 : Hid (∀ v u, Rts u v l0 → Calls Tryd.prog 6 #[dkV v s0, .string (mkT 40 a1 (a2 + a3)), .string ⟨#[]⟩] u fun e w' => ∃ a cp, e = .returned (.tuple #[dkV (.slice a N3.length cp) S3, .string T3, .int .i64 C3]) ∧ Txs w' u.heap.size (.slice a N3.length cp) N3 ∧ Below u.heap.size u w') := fun v u h => do_named v ⟨l0, s0⟩ (mkT 40 a1 (a2 + a3)) ⟨#[]⟩ hk hz3 (by decide) T3 C3 N3 S3 hT3 hC3 hN3 hS3 u h
  by_cases q4 : C3 ≠ 0
  · have e4 : (C3 != 0) = true := by simp [q4]
    clear q4 HW
    clear hC1 hC2 hC3 hN1 hN2 hN3 hS1 hS2 hS3 hT1 hT2 hT3 hz1 hz2 hz3 hk w4 m1 m2 m3 hB hB0 hK1
    generalize hn0 : l0.length = n0 at *
    generalize mkT 40 a1 a2 = Ca at *
    generalize mkT 40 B a3 = Cb at *
    generalize mkT 40 a1 (a2 + a3) = Cc at *
    go_enter Tryd.func3, Tryd.ntmps3
    go_wp2_with fail
    refine (HM1.out _).mono ?_
    rintro e y1 ⟨rfl, hb⟩
    replace HR : Hid (Rts y1 (.slice xa n0 xc) l0 ∧ Below w.heap.size w y1 ∧ y1.heap[w.heap.size]? = some (dkO (.slice xa n0 xc) s0)) := ⟨HR.out.1.below hb, bsq HR.out.2.1 hb, keep HR.out.2.2 hb⟩
    clear hb HM1
    go_wp2_with fail
    refine (HLV.out _).mono ?_
    rintro e y2 ⟨rfl, hb⟩
    replace HR : Hid (Rts y2 (.slice xa n0 xc) l0 ∧ Below w.heap.size w y2 ∧ y2.heap[w.heap.size]? = some (dkO (.slice xa n0 xc) s0)) := ⟨HR.out.1.below hb, bsq HR.out.2.1 hb, keep HR.out.2.2 hb⟩
    clear hb HLV
    go_wp2_with fail
    refine (HM2.out _).mono ?_
    rintro e y3 ⟨rfl, hb⟩
    replace HR : Hid (Rts y3 (.slice xa n0 xc) l0 ∧ Below w.heap.size w y3 ∧ y3.heap[w.heap.size]? = some (dkO (.slice xa n0 xc) s0)) := ⟨HR.out.1.below hb, bsq HR.out.2.1 hb, keep HR.out.2.2 hb⟩
    clear hb HM2
    go_wp2_with fail
    refine (HM3.out _).mono ?_
    rintro e y4 ⟨rfl, hb⟩
    replace HR : Hid (Rts y4 (.slice xa n0 xc) l0 ∧ Below w.heap.size w y4 ∧ y4.heap[w.heap.size]? = some (dkO (.slice xa n0 xc) s0)) := ⟨HR.out.1.below hb, bsq HR.out.2.1 hb, keep HR.out.2.2 hb⟩
    clear hb HM3 x0 x1 f0 f1
    obtain ⟨⟨_, x0, x1⟩, f0, f1⟩ := boxD HR.out.2.2
    go_wp2_with fail
    refine (HD1.out _ _ HR.out.1).mono ?_
    rintro e r1 ⟨va1, vc1, rfl, ht, hb⟩
    obtain ⟨p1, t1, hp1, ht1, hX4, hX5, hbf⟩ := dk_param r1 (.slice va1 N1.length vc1) S1
    clear x0 x1 f0 f1
    obtain ⟨⟨_, i0, i1⟩, j0, j1⟩ := boxD hX4
    replace HR : Hid (Rts t1 (.slice xa n0 xc) l0 ∧ Below w.heap.size w t1 ∧ t1.heap[w.heap.size]? = some (dkO (.slice xa n0 xc) s0)) := ⟨HR.out.1.below (bsq hb hbf), bsq HR.out.2.1 (bsq hb hbf), keep HR.out.2.2 (bsq hb hbf)⟩
    clear HD1 ht hb hX4 hX5 hbf
    have hkeep1 := hp1
    clear hkeep1
    obtain ⟨⟨_, x0, x1⟩, f0, f1⟩ := boxD HR.out.2.2
    go_wp2_with fail
    clear i0 i1 j0 j1
    refine (HD2.out _ _ HR.out.1).mono ?_
    rintro e r2 ⟨va2, vc2, rfl, ht, hb⟩
    obtain ⟨p2, t2, hp2, ht2, hX4, hX5, hbf⟩ := dk_param r2 (.slice va2 N2.length vc2) S2
    clear x0 x1 f0 f1
    obtain ⟨⟨_, i0, i1⟩, j0, j1⟩ := boxD hX4
    replace HR : Hid (Rts t2 (.slice xa n0 xc) l0 ∧ Below w.heap.size w t2 ∧ t2.heap[w.heap.size]? = some (dkO (.slice xa n0 xc) s0)) := ⟨HR.out.1.below (bsq hb hbf), bsq HR.out.2.1 (bsq hb hbf), keep HR.out.2.2 (bsq hb hbf)⟩
    clear HD2 ht hb hX4 hX5 hbf
    have hkeep2 := hp2
    clear hkeep2
    obtain ⟨⟨_, x0, x1⟩, f0, f1⟩ := boxD HR.out.2.2
    go_wp2_with fail
    clear i0 i1 j0 j1
    refine (HD3.out _ _ HR.out.1).mono ?_
    rintro e r3 ⟨va3, vc3, rfl, ht, hb⟩
    obtain ⟨p3, t3, hp3, ht3, hX4, hX5, hbf⟩ := dk_param r3 (.slice va3 N3.length vc3) S3
    clear x0 x1 f0 f1
    obtain ⟨⟨_, i0, i1⟩, j0, j1⟩ := boxD hX4
    replace HR : Hid (Rts t3 (.slice xa n0 xc) l0 ∧ Below w.heap.size w t3 ∧ t3.heap[w.heap.size]? = some (dkO (.slice xa n0 xc) s0)) := ⟨HR.out.1.below (bsq hb hbf), bsq HR.out.2.1 (bsq hb hbf), keep HR.out.2.2 (bsq hb hbf)⟩
    clear HD3 ht hb hX4 hX5 hbf
    go_wp2
    go_ret
    exact ⟨rfl, HR.out.2.1⟩
  have q4 : C3 = 0 := Classical.not_not.1 q4
  subst q4
  obtain ⟨h0, hfit⟩ := read_done m3 hC3
  have hl64 : l0.length ≤ 64 := ((chk_iff _).1 h0).2.1
  have hl64' : l0.length ≤ 64 := hl64
  have hfit' : a1.toNat + (a2 + a3).toNat ≤ l0.length := hfit
  have hBe : B = a1 + a2 := by rw [← hB, Int.min_def, if_pos (by omega)]
  have k1 := read_ok (d := ⟨l0, s0⟩) (x := ⟨#[]⟩) m1 h0 (by show _ ≤ l0.length; omega)
  have k2 := read_ok (d := ⟨l0, s0⟩) (x := ⟨#[]⟩) m2 h0 (by show _ ≤ l0.length; rw [hBe]; omega)
  have k3 := read_ok (d := ⟨l0, s0⟩) (x := ⟨#[]⟩) m3 h0 hfit
  have e5 : a1.toNat + a2.toNat = B.toNat := by omega
  have e6 : (a2 + a3).toNat = a2.toNat + a3.toNat := by omega
  have h16 : ∀ y ∈ l0, y.size = 16 := ((chk_iff _).1 h0).2.2.1
  have s1024 : ∀ i n, (cat ((l0.drop i).take n)).size ≤ 1024 := fun i n => by
    rw [size16 _ fun y hy => h16 y (List.mem_of_mem_drop (List.mem_of_mem_take hy)), List.length_take, List.length_drop]; omega
  have t1024 : T1.size ≤ 1024 := by rw [← hT1, k1.2.2]; exact s1024 _ _
  have t2048 : T2.size ≤ 1024 := by rw [← hT2, k2.2.2]; exact s1024 _ _
  have hcatT : T3 = T1 ++ T2 := by
    rw [← hT1, ← hT2, ← hT3, k1.2.2, k2.2.2, k3.2.2]
    apply ext_list
    rw [ByteArray.data_append, Array.toList_append, e6, read_parts l0, e5]
  have HCT : Hid (T3 = T1 ++ T2) := hcatT
  have hne := toList_bne T3 (T1 ++ T2)
  rw [decide_eq_true hcatT] at hne
  have heq := toList_beq T3 (T1 ++ T2)
  rw [decide_eq_true hcatT] at heq
  have hw4 := w4
  unfold maxLen at hw4
  by_cases q5 : (a4.size : Int) ≠ 16 * (a2 + a3)
  · have e7 : ((a4.size : Int) != 16 * (a2 + a3)) = true := by rw [bne_iff_ne]; exact q5
    clear q5 HW h0 hfit hl64 hfit' hBe k1 k2 k3 e5 e6 h16 s1024 hcatT
    clear hC1 hC2 hC3 hN1 hN2 hN3 hS1 hS2 hS3 hT1 hT2 hT3 hz1 hz2 hz3 hk w4 m1 m2 m3 hB hB0 hK1
    generalize hn0 : l0.length = n0 at *
    generalize mkT 40 a1 a2 = Ca at *
    generalize mkT 40 B a3 = Cb at *
    generalize mkT 40 a1 (a2 + a3) = Cc at *
    go_enter Tryd.func3, Tryd.ntmps3
    go_wp2_with fail
    refine (HM1.out _).mono ?_
    rintro e y1 ⟨rfl, hb⟩
    replace HR : Hid (Rts y1 (.slice xa n0 xc) l0 ∧ Below w.heap.size w y1 ∧ y1.heap[w.heap.size]? = some (dkO (.slice xa n0 xc) s0)) := ⟨HR.out.1.below hb, bsq HR.out.2.1 hb, keep HR.out.2.2 hb⟩
    clear hb HM1
    go_wp2_with fail
    refine (HLV.out _).mono ?_
    rintro e y2 ⟨rfl, hb⟩
    replace HR : Hid (Rts y2 (.slice xa n0 xc) l0 ∧ Below w.heap.size w y2 ∧ y2.heap[w.heap.size]? = some (dkO (.slice xa n0 xc) s0)) := ⟨HR.out.1.below hb, bsq HR.out.2.1 hb, keep HR.out.2.2 hb⟩
    clear hb HLV
    go_wp2_with fail
    refine (HM2.out _).mono ?_
    rintro e y3 ⟨rfl, hb⟩
    replace HR : Hid (Rts y3 (.slice xa n0 xc) l0 ∧ Below w.heap.size w y3 ∧ y3.heap[w.heap.size]? = some (dkO (.slice xa n0 xc) s0)) := ⟨HR.out.1.below hb, bsq HR.out.2.1 hb, keep HR.out.2.2 hb⟩
    clear hb HM2
    go_wp2_with fail
    refine (HM3.out _).mono ?_
    rintro e y4 ⟨rfl, hb⟩
    replace HR : Hid (Rts y4 (.slice xa n0 xc) l0 ∧ Below w.heap.size w y4 ∧ y4.heap[w.heap.size]? = some (dkO (.slice xa n0 xc) s0)) := ⟨HR.out.1.below hb, bsq HR.out.2.1 hb, keep HR.out.2.2 hb⟩
    clear hb HM3 x0 x1 f0 f1
    obtain ⟨⟨_, x0, x1⟩, f0, f1⟩ := boxD HR.out.2.2
    go_wp2_with fail
    refine (HD1.out _ _ HR.out.1).mono ?_
    rintro e r1 ⟨va1, vc1, rfl, ht, hb⟩
    obtain ⟨p1, t1, hp1, ht1, hX4, hX5, hbf⟩ := dk_param r1 (.slice va1 N1.length vc1) S1
    clear x0 x1 f0 f1
    obtain ⟨⟨_, i0, i1⟩, j0, j1⟩ := boxD hX4
    replace HR : Hid (Rts t1 (.slice xa n0 xc) l0 ∧ Below w.heap.size w t1 ∧ t1.heap[w.heap.size]? = some (dkO (.slice xa n0 xc) s0)) := ⟨HR.out.1.below (bsq hb hbf), bsq HR.out.2.1 (bsq hb hbf), keep HR.out.2.2 (bsq hb hbf)⟩
    clear HD1 ht hb hX4 hX5 hbf
    have hkeep1 := hp1
    clear hkeep1
    obtain ⟨⟨_, x0, x1⟩, f0, f1⟩ := boxD HR.out.2.2
    go_wp2_with fail
    clear i0 i1 j0 j1
    refine (HD2.out _ _ HR.out.1).mono ?_
    rintro e r2 ⟨va2, vc2, rfl, ht, hb⟩
    obtain ⟨p2, t2, hp2, ht2, hX4, hX5, hbf⟩ := dk_param r2 (.slice va2 N2.length vc2) S2
    clear x0 x1 f0 f1
    obtain ⟨⟨_, i0, i1⟩, j0, j1⟩ := boxD hX4
    replace HR : Hid (Rts t2 (.slice xa n0 xc) l0 ∧ Below w.heap.size w t2 ∧ t2.heap[w.heap.size]? = some (dkO (.slice xa n0 xc) s0)) := ⟨HR.out.1.below (bsq hb hbf), bsq HR.out.2.1 (bsq hb hbf), keep HR.out.2.2 (bsq hb hbf)⟩
    clear HD2 ht hb hX4 hX5 hbf
    have hkeep2 := hp2
    clear hkeep2
    obtain ⟨⟨_, x0, x1⟩, f0, f1⟩ := boxD HR.out.2.2
    go_wp2_with fail
    clear i0 i1 j0 j1
    refine (HD3.out _ _ HR.out.1).mono ?_
    rintro e r3 ⟨va3, vc3, rfl, ht, hb⟩
    obtain ⟨p3, t3, hp3, ht3, hX4, hX5, hbf⟩ := dk_param r3 (.slice va3 N3.length vc3) S3
    clear x0 x1 f0 f1
    obtain ⟨⟨_, i0, i1⟩, j0, j1⟩ := boxD hX4
    replace HR : Hid (Rts t3 (.slice xa n0 xc) l0 ∧ Below w.heap.size w t3 ∧ t3.heap[w.heap.size]? = some (dkO (.slice xa n0 xc) s0)) := ⟨HR.out.1.below (bsq hb hbf), bsq HR.out.2.1 (bsq hb hbf), keep HR.out.2.2 (bsq hb hbf)⟩
    clear HD3 ht hb hX4 hX5 hbf
    go_wp2
    go_ret
    exact ⟨rfl, HR.out.2.1⟩
  have q5 : (a4.size : Int) = 16 * (a2 + a3) := Classical.not_not.1 q5
  have e7 : ((a4.size : Int) != 16 * (a2 + a3)) = false := by rw [bne_eq_false_iff_eq]; exact q5
  have m1' : mkB 42 a1 a2 = true := (mk_both 42 40 _ _ rfl rfl).trans m1
  have m2' : mkB 42 B a3 = true := (mk_both 42 40 _ _ rfl rfl).trans m2
  have m3' : mkB 42 a1 (a2 + a3) = true := (mk_both 42 40 _ _ rfl rfl).trans m3
  have hsz : a4.size = 16 * (a2.toNat + a3.toNat) := by omega
  obtain ⟨d1, hd1⟩ : ∃ d, a4.extract 0 (16 * a2.toNat) = d := ⟨_, rfl⟩
  obtain ⟨d2, hd2⟩ : ∃ d, a4.extract (16 * a2.toNat) a4.size = d := ⟨_, rfl⟩
  have sd1 : d1.size = 16 * a2.toNat := by rw [← hd1, ByteArray.size_extract]; omega
  have sd2 : d2.size = 16 * a3.toNat := by rw [← hd2, ByteArray.size_extract]; omega
  have g1 := write_ok (d := ⟨l0, s0⟩) (x := d1) m1' h0 (by show _ ≤ l0.length; omega) sd1
  obtain ⟨uaa, fa, uba, da, ta⟩ := write_do m1' g1
  obtain ⟨P1, hP1⟩ : ∃ P, wrB l0 a1.toNat a2.toNat d1 = P := ⟨_, rfl⟩
  have lP1 : P1.length = l0.length := by rw [← hP1]; exact wr_length fa
  have cP1 : chkC ⟨P1, 0⟩ = 0 := by rw [← hP1]; exact wr_right (d := ⟨l0, s0⟩) h0 fa sd1
  have g2 := write_ok (d := ⟨P1, 0⟩) (x := d2) m2' cP1 (by show _ ≤ P1.length; rw [lP1, hBe]; omega) sd2
  obtain ⟨uab, fb, ubb, db, tb⟩ := write_do m2' g2
  obtain ⟨P2, hP2⟩ : ∃ P, wrB P1 B.toNat a3.toNat d2 = P := ⟨_, rfl⟩
  have lP2 : P2.length = l0.length := by rw [← hP2, wr_length fb]; exact lP1
  have g3 := write_ok (d := ⟨l0, s0⟩) (x := a4) m3' h0 hfit (by rw [e6]; exact hsz)
  obtain ⟨uac, fc, ubc, dc, tc⟩ := write_do m3' g3
  have hP3 : wrB l0 a1.toNat (a2 + a3).toNat a4 = P2 := by
    rw [← hP2, ← hP1, ← hd1, ← hd2, ← e5, e6]
    exact (wr_parts (by omega) hsz).symm
  have hE1 : Hid (∀ v u, Rts u v l0 → Calls Tryd.prog 6 #[dkV v s0, .string (mkT 42 a1 a2), .string d1] u fun e w' => ∃ a cp, e = .returned (.tuple #[dkV (.slice a l0.length cp) 0, .string ⟨#[]⟩, .int .i64 0]) ∧ Txs w' u.heap.size (.slice a l0.length cp) P1 ∧ Below u.heap.size u w') := fun v u h => by
    have := do_named v ⟨l0, s0⟩ (mkT 42 a1 a2) d1 hk (mk_max _ _ _) (by unfold maxLen; omega) ⟨#[]⟩ 0 P1 0 ta g1 (by rw [da]; exact hP1) (by rw [da]) u h
    rw [lP1] at this
    exact this
  have hE2 : Hid (∀ v u, Rts u v P1 → Calls Tryd.prog 6 #[dkV v 0, .string (mkT 42 B a3), .string d2] u fun e w' => ∃ a cp, e = .returned (.tuple #[dkV (.slice a l0.length cp) 0, .string ⟨#[]⟩, .int .i64 0]) ∧ Txs w' u.heap.size (.slice a l0.length cp) P2 ∧ Below u.heap.size u w') := fun v u h => by
    have := do_named v ⟨P1, 0⟩ (mkT 42 B a3) d2 (by show P1.length * 16 ≤ _; rw [lP1]; exact hk) (mk_max _ _ _) (by unfold maxLen; omega) ⟨#[]⟩ 0 P2 0 tb g2 (by rw [db]; exact hP2) (by rw [db]) u h
    rw [lP2] at this
    exact this
  have hE3 : Hid (∀ v u, Rts u v l0 → Calls Tryd.prog 6 #[dkV v s0, .string (mkT 42 a1 (a2 + a3)), .string a4] u fun e w' => ∃ a cp, e = .returned (.tuple #[dkV (.slice a l0.length cp) 0, .string ⟨#[]⟩, .int .i64 0]) ∧ Txs w' u.heap.size (.slice a l0.length cp) P2 ∧ Below u.heap.size u w') := fun v u h => by
    have := do_named v ⟨l0, s0⟩ (mkT 42 a1 (a2 + a3)) a4 hk (mk_max _ _ _) w4 ⟨#[]⟩ 0 P2 0 tc g3 (by rw [dc]; exact hP3) (by rw [dc]) u h
    rw [lP2] at this
    exact this
  have hR1 : Hid (∀ u, Below w.heap.size w u → Calls Tryd.prog 7 #[.string (mkT 40 a1 a2), .string ⟨#[40]⟩, .string ⟨#[42]⟩, .int .i64 1] u fun e w' => e = .returned (.string (mkT 42 a1 a2)) ∧ Below u.heap.size u w') := fun u hb => rep_any m1 m0 u (HW.out u hb)
  have hR2 : Hid (∀ u, Below w.heap.size w u → Calls Tryd.prog 7 #[.string (mkT 40 B a3), .string ⟨#[40]⟩, .string ⟨#[42]⟩, .int .i64 1] u fun e w' => e = .returned (.string (mkT 42 B a3)) ∧ Below u.heap.size u w') := fun u hb => rep_any m2 m0 u (HW.out u hb)
  have hR3 : Hid (∀ u, Below w.heap.size w u → Calls Tryd.prog 7 #[.string (mkT 40 a1 (a2 + a3)), .string ⟨#[40]⟩, .string ⟨#[42]⟩, .int .i64 1] u fun e w' => e = .returned (.string (mkT 42 a1 (a2 + a3))) ∧ Below u.heap.size u w') := fun u hb => rep_any m3 m0 u (HW.out u hb)
  have hwr : IntKind.i64.wrap (16 * a2) = 16 * a2 := by rw [IntKind.wrap_i64]; omega
  have hsl1 : ∀ W, (Instr.slice 9 (.string a4) none (some (.int .i64 (16 * a2))) none).run Tryd.prog W = .ok (.string d1) W := fun W => by
    have := run_slice_string_h (P := Tryd.prog) (w := W) 9 a4 Tryd.underlying9 .i64 (16 * a2) (by omega) (by omega)
    rw [this, ← hd1]
    congr 3; omega
  have hsl2 : ∀ W, (Instr.slice 9 (.string a4) (some (.int .i64 (16 * a2))) none none).run Tryd.prog W = .ok (.string d2) W := fun W => by
    have := run_slice_string_l (P := Tryd.prog) (w := W) 9 a4 Tryd.underlying9 .i64 (16 * a2) (by omega) (by omega)
    rw [this, ← hd2]
    congr 3; omega
  clear uaa uba uab ubb uac ubc
  clear q5 HW h0 hfit hl64 hfit' hBe k1 k2 k3 e5 e6 h16 s1024 hcatT g1 g2 g3 fa fb fc da db dc ta tb tc hP1 hP2 hP3 lP1 lP2 cP1 m1' m2' m3' sd1 sd2 hd1 hd2 hsz
  clear hC1 hC2 hC3 hN1 hN2 hN3 hS1 hS2 hS3 hT1 hT2 hT3 hz1 hz2 hz3 hk w4 m1 m2 m3 hB hB0 hK1
  generalize hn0 : l0.length = n0 at *
  generalize mkT 40 a1 a2 = Ca at *
  generalize mkT 40 B a3 = Cb at *
  generalize mkT 40 a1 (a2 + a3) = Cc at *
  generalize mkT 42 a1 a2 = Da at *
  generalize mkT 42 B a3 = Db at *
  generalize mkT 42 a1 (a2 + a3) = Dc at *
  go_enter Tryd.func3, Tryd.ntmps3
  go_wp2_with fail
  refine (HM1.out _).mono ?_
  rintro e y1 ⟨rfl, hb⟩
  replace HR : Hid (Rts y1 (.slice xa n0 xc) l0 ∧ Below w.heap.size w y1 ∧ y1.heap[w.heap.size]? = some (dkO (.slice xa n0 xc) s0)) := ⟨HR.out.1.below hb, bsq HR.out.2.1 hb, keep HR.out.2.2 hb⟩
  clear hb HM1
  go_wp2_with fail
  refine (HLV.out _).mono ?_
  rintro e y2 ⟨rfl, hb⟩
  replace HR : Hid (Rts y2 (.slice xa n0 xc) l0 ∧ Below w.heap.size w y2 ∧ y2.heap[w.heap.size]? = some (dkO (.slice xa n0 xc) s0)) := ⟨HR.out.1.below hb, bsq HR.out.2.1 hb, keep HR.out.2.2 hb⟩
  clear hb HLV
  go_wp2_with fail
  refine (HM2.out _).mono ?_
  rintro e y3 ⟨rfl, hb⟩
  replace HR : Hid (Rts y3 (.slice xa n0 xc) l0 ∧ Below w.heap.size w y3 ∧ y3.heap[w.heap.size]? = some (dkO (.slice xa n0 xc) s0)) := ⟨HR.out.1.below hb, bsq HR.out.2.1 hb, keep HR.out.2.2 hb⟩
  clear hb HM2
  go_wp2_with fail
  refine (HM3.out _).mono ?_
  rintro e y4 ⟨rfl, hb⟩
  replace HR : Hid (Rts y4 (.slice xa n0 xc) l0 ∧ Below w.heap.size w y4 ∧ y4.heap[w.heap.size]? = some (dkO (.slice xa n0 xc) s0)) := ⟨HR.out.1.below hb, bsq HR.out.2.1 hb, keep HR.out.2.2 hb⟩
  clear hb HM3 x0 x1 f0 f1
  obtain ⟨⟨_, x0, x1⟩, f0, f1⟩ := boxD HR.out.2.2
  go_wp2_with fail
  refine (HD1.out _ _ HR.out.1).mono ?_
  rintro e r1 ⟨va1, vc1, rfl, ht, hb⟩
  obtain ⟨p1, t1, hp1, ht1, hX4, hX5, hbf⟩ := dk_param r1 (.slice va1 N1.length vc1) S1
  clear x0 x1 f0 f1
  obtain ⟨⟨_, i0, i1⟩, j0, j1⟩ := boxD hX4
  replace HR : Hid (Rts t1 (.slice xa n0 xc) l0 ∧ Below w.heap.size w t1 ∧ t1.heap[w.heap.size]? = some (dkO (.slice xa n0 xc) s0)) := ⟨HR.out.1.below (bsq hb hbf), bsq HR.out.2.1 (bsq hb hbf), keep HR.out.2.2 (bsq hb hbf)⟩
  clear HD1 ht hb hX4 hX5 hbf
  have hkeep1 := hp1
  clear hkeep1
  obtain ⟨⟨_, x0, x1⟩, f0, f1⟩ := boxD HR.out.2.2
  go_wp2_with fail
  clear i0 i1 j0 j1
  refine (HD2.out _ _ HR.out.1).mono ?_
  rintro e r2 ⟨va2, vc2, rfl, ht, hb⟩
  obtain ⟨p2, t2, hp2, ht2, hX4, hX5, hbf⟩ := dk_param r2 (.slice va2 N2.length vc2) S2
  clear x0 x1 f0 f1
  obtain ⟨⟨_, i0, i1⟩, j0, j1⟩ := boxD hX4
  replace HR : Hid (Rts t2 (.slice xa n0 xc) l0 ∧ Below w.heap.size w t2 ∧ t2.heap[w.heap.size]? = some (dkO (.slice xa n0 xc) s0)) := ⟨HR.out.1.below (bsq hb hbf), bsq HR.out.2.1 (bsq hb hbf), keep HR.out.2.2 (bsq hb hbf)⟩
  clear HD2 ht hb hX4 hX5 hbf
  have hkeep2 := hp2
  clear hkeep2
  obtain ⟨⟨_, x0, x1⟩, f0, f1⟩ := boxD HR.out.2.2
  go_wp2_with fail
  clear i0 i1 j0 j1
  refine (HD3.out _ _ HR.out.1).mono ?_
  rintro e r3 ⟨va3, vc3, rfl, ht, hb⟩
  obtain ⟨p3, t3, hp3, ht3, hX4, hX5, hbf⟩ := dk_param r3 (.slice va3 N3.length vc3) S3
  clear x0 x1 f0 f1
  obtain ⟨⟨_, i0, i1⟩, j0, j1⟩ := boxD hX4
  replace HR : Hid (Rts t3 (.slice xa n0 xc) l0 ∧ Below w.heap.size w t3 ∧ t3.heap[w.heap.size]? = some (dkO (.slice xa n0 xc) s0)) := ⟨HR.out.1.below (bsq hb hbf), bsq HR.out.2.1 (bsq hb hbf), keep HR.out.2.2 (bsq hb hbf)⟩
  clear HD3 ht hb hX4 hX5 hbf
  have hz9 := (Array.getElem?_eq_some_iff.1 HR.out.2.2).1
  go_upto_region 13 with (fail)
  clear i0 i1 j0 j1
  go_cut [26, 27, 12] from 128 (fun pv tv ev wx => ∃ (P : Nat) (pa : Option Addr) (pc : Nat), pv = .pointer (some ⟨P, 0, none⟩) ∧ ev = .int .i64 0 ∧ Hid (Below t3.heap.size t3 wx ∧ t3.heap.size ≤ P ∧ wx.heap[P]? = some (dkO (.slice pa n0 pc) 0) ∧ Rts wx (.slice pa n0 pc) P1))
  case first =>
    have HXD : Hid (∀ W, Below t3.heap.size t3 W → W.heap[w.heap.size]? = some (dkO (.slice xa n0 xc) s0)) := fun W hW => keep HR.out.2.2 hW
    refine wp_abs (fun a0 => a0.tmps.size = 176 ∧ (∀ h, a0.tmps[5]'h = .pointer (some ⟨w.heap.size, 0, none⟩)) ∧ (∀ h, a0.tmps[11]'h = .string Ca) ∧ (∀ h, a0.tmps[4]'h = .string a4) ∧ (∀ h, a0.tmps[2]'h = .int .i64 a2)) ⟨rfl, fun _ => rfl, fun _ => rfl, fun _ => rfl, fun _ => rfl⟩ ?_
    rintro a0 ⟨hsz, s5, s11, s4, s2⟩ ha0
    refine wp_region_held (S := fun W => Below t3.heap.size t3 W) (by kernel_rfl) ?_
    have hS0 : Below t3.heap.size t3 t3.drew := (Below.refl _ _).drew
    refine h_take (i := 0) (dkV (.slice xa n0 xc) s0) rfl (by kernel_rfl) (by kernel_rfl) (by kernel_rfl) (fun _ _ _ h => h) rfl hS0 (fun W hW => by obtain ⟨⟨_, b0, b1⟩, _⟩ := boxD (HXD.out W hW); simp [execOp, go_sem, Act.put, hsz, s5, s11, s4, s2, b0, b1]) ?_
    refine h_take (i := 1) (.string Ca) rfl (by kernel_rfl) (by kernel_rfl) (by kernel_rfl) (fun _ _ _ h => h) rfl hS0 (fun W hW => by simp [execOp, go_sem, Act.put, hsz, s5, s11, s4, s2]) ?_
    refine h_take (i := 3) (.string a4) rfl (by kernel_rfl) (by kernel_rfl) (by kernel_rfl) (fun _ _ _ h => h) rfl hS0 (fun W hW => by simp [execOp, go_sem, Act.put, hsz, s5, s11, s4, s2]) ?_
    refine h_take (i := 4) (.int .i64 a2) rfl (by kernel_rfl) (by kernel_rfl) (by kernel_rfl) (fun _ _ _ h => h) rfl hS0 (fun W hW => by simp [execOp, go_sem, Act.put, hsz, s5, s11, s4, s2]) ?_
    refine h_take (i := 5) (.int .i64 (16 * a2)) rfl (by kernel_rfl) (by kernel_rfl) (by kernel_rfl) (fun _ _ _ h => h) rfl hS0 (fun W hW => by simp [execOp, go_sem, Act.put, hsz, s5, s11, s4, s2, hwr]) ?_
    refine h_take (i := 6) (.string d1) rfl (by kernel_rfl) (by kernel_rfl) (by kernel_rfl) (fun _ _ _ h => h) rfl hS0 (fun W hW => by simp [execOp, go_sem, Act.put, hsz, s5, s11, s4, s2, hsl1]) ?_
    refine h_two 2 12 (by kernel_rfl) ?_ ?_
    · refine o_call 7 #[.string Ca, .string ⟨#[40]⟩, .string ⟨#[42]⟩, .int .i64 1] rfl rfl (by simp [execOp, go_sem, Act.put, hsz, s5, s11, s4, s2]) ((hR1.out _ (bsq HR.out.2.1 hS0)).mono ?_)
      rintro e v0 ⟨rfl, hb⟩
      have hS1 : Below t3.heap.size t3 v0 := bsq hS0 hb
      refine ⟨_, rfl, hS1, ?_⟩
      refine h_two 7 12 (by kernel_rfl) ?_ ?_
      · refine o_call 6 #[dkV (.slice xa n0 xc) s0, .string Da, .string d1] rfl rfl (by simp [execOp, go_sem, Act.put, hsz, s5, s11, s4, s2]) ((hE1.out _ _ (HR.out.1.below hS1)).mono ?_)
        rintro e v3 ⟨pa, pc, rfl, ht, hb3⟩
        have hS3 : Below t3.heap.size t3 v3 := bsq hS1 hb3
        refine ⟨_, rfl, hS3, ?_⟩
        obtain ⟨v4, vf, hv4, hvf, hX4, hXf, hbf⟩ := dk_param v3 (.slice pa n0 pc) 0
        obtain ⟨⟨zm, c0, c1⟩, l1, l2⟩ := boxD hX4
        have hS4 : Below t3.heap.size t3 v4 := bsq hS3 (by rw [← hv4]; exact balloc _ _)
        have hSf : Below t3.heap.size t3 vf := bsq hS3 hbf
        have HE : Hid (Below t3.heap.size t3 vf ∧ t3.heap.size ≤ v3.heap.size ∧ vf.heap[v3.heap.size]? = some (dkO (.slice pa n0 pc) 0) ∧ Rts vf (.slice pa n0 pc) P1) := ⟨hSf, hS3.size, hXf, ht.rts.below hbf⟩
        refine h_take (i := 8) (.tuple #[dkV (.slice pa n0 pc) 0, .string ⟨#[]⟩, .int .i64 0]) rfl (by kernel_rfl) (by kernel_rfl) (by kernel_rfl) (fun _ _ _ h => h) rfl hS3 (fun W hW => by simp [execOp, go_sem, Act.put, hsz, s5, s11, s4, s2]) ?_
        refine h_take (i := 9) (dkV (.slice pa n0 pc) 0) rfl (by kernel_rfl) (by kernel_rfl) (by kernel_rfl) (fun _ _ _ h => h) rfl hS3 (fun W hW => by simp [execOp, go_sem, Act.put, hsz, s5, s11, s4, s2]) ?_
        refine h_take (i := 10) (.string ⟨#[]⟩) rfl (by kernel_rfl) (by kernel_rfl) (by kernel_rfl) (fun _ _ _ h => h) rfl hS3 (fun W hW => by simp [execOp, go_sem, Act.put, hsz, s5, s11, s4, s2]) ?_
        refine h_take (i := 11) (.int .i64 0) rfl (by kernel_rfl) (by kernel_rfl) (by kernel_rfl) (fun _ _ _ h => h) rfl hS3 (fun W hW => by simp [execOp, go_sem, Act.put, hsz, s5, s11, s4, s2]) ?_
        refine h_value (i := 12) (w' := v4) (.pointer (some ⟨v3.heap.size, 0, none⟩)) rfl (by kernel_rfl) rfl (by rw [← hv4]; simp [execOp, go_sem, Act.put, hsz, s5, s11, s4, s2]) hS4 ?_
        refine h_skip (i := 13) (w' := vf) rfl (by kernel_rfl) rfl (by rw [← hvf]; simp [execOp, go_sem, Act.put, hsz, s5, s11, s4, s2, zm, c0, c1, l1, l2]) hSf ?_
        refine h_take (i := 14) (.string ⟨#[]⟩) rfl (by kernel_rfl) (by kernel_rfl) (by kernel_rfl) (fun _ _ _ h => h) rfl hSf (fun W hW => by simp [execOp, go_sem, Act.put, hsz, s5, s11, s4, s2]) ?_
        refine h_take (i := 15) (.int .i64 0) rfl (by kernel_rfl) (by kernel_rfl) (by kernel_rfl) (fun _ _ _ h => h) rfl hSf (fun W hW => by simp [execOp, go_sem, Act.put, hsz, s5, s11, s4, s2]) ?_
        refine wpAnyH_done (by kernel_rfl) ?_ _
        subst ha0
        clear hsz s5 s11 s4 s2 hS0 HXD
        go_simp
        go_wp2_with fail
        go_meet
        case rel => exact ⟨_, _, _, rfl, rfl, HE.out⟩
      · obtain ⟨v1, hv1, hP, hbp⟩ := dk_named v0 (.slice none 0 0) 0
        have hS2 : Below t3.heap.size t3 v1 := bsq hS1 hbp
        refine o_value (w' := v1) (.pointer (some ⟨v0.heap.size, 0, none⟩)) rfl rfl (by rw [← hv1]; simp [execOp, go_sem, Act.put, hsz, s5, s11, s4, s2]) ⟨hS2, ?_⟩
        refine h_call (i := 7) 6 #[dkV (.slice xa n0 xc) s0, .string Da, .string d1] rfl (by kernel_rfl) rfl (by simp [execOp, go_sem, Act.put, hsz, s5, s11, s4, s2]) ((hE1.out _ _ (HR.out.1.below hS2)).mono ?_)
        rintro e v3 ⟨pa, pc, rfl, ht, hb3⟩
        have hS3 : Below t3.heap.size t3 v3 := bsq hS2 hb3
        refine ⟨_, rfl, hS3, ?_⟩
        have hP3 := keep hP hb3
        have hPl := (Array.getElem?_eq_some_iff.1 hP).1
        obtain ⟨vf, hvf, hXf, hBf, hkf, hsf⟩ := dk_put v3 v0.heap.size _ _ (.slice pa n0 pc) 0 hP3
        obtain ⟨⟨zm, c0, c1⟩, l1, l2⟩ := boxD hP3
        have hSf : Below t3.heap.size t3 vf := hBf _ _ hS1.size hS3
        have HE : Hid (Below t3.heap.size t3 vf ∧ t3.heap.size ≤ v0.heap.size ∧ vf.heap[v0.heap.size]? = some (dkO (.slice pa n0 pc) 0) ∧ Rts vf (.slice pa n0 pc) P1) := ⟨hSf, hS1.size, hXf, by rw [← hvf]; exact (txs_setX (txs_setX ht hPl _ _) hPl _ _).rts⟩
        refine h_take (i := 8) (.tuple #[dkV (.slice pa n0 pc) 0, .string ⟨#[]⟩, .int .i64 0]) rfl (by kernel_rfl) (by kernel_rfl) (by kernel_rfl) (fun _ _ _ h => h) rfl hS3 (fun W hW => by simp [execOp, go_sem, Act.put, hsz, s5, s11, s4, s2]) ?_
        refine h_take (i := 9) (dkV (.slice pa n0 pc) 0) rfl (by kernel_rfl) (by kernel_rfl) (by kernel_rfl) (fun _ _ _ h => h) rfl hS3 (fun W hW => by simp [execOp, go_sem, Act.put, hsz, s5, s11, s4, s2]) ?_
        refine h_take (i := 10) (.string ⟨#[]⟩) rfl (by kernel_rfl) (by kernel_rfl) (by kernel_rfl) (fun _ _ _ h => h) rfl hS3 (fun W hW => by simp [execOp, go_sem, Act.put, hsz, s5, s11, s4, s2]) ?_
        refine h_take (i := 11) (.int .i64 0) rfl (by kernel_rfl) (by kernel_rfl) (by kernel_rfl) (fun _ _ _ h => h) rfl hS3 (fun W hW => by simp [execOp, go_sem, Act.put, hsz, s5, s11, s4, s2]) ?_
        refine h_skip (i := 13) (w' := vf) rfl (by kernel_rfl) rfl (by rw [← hvf]; simp [execOp, go_sem, Act.put, hsz, s5, s11, s4, s2, zm, c0, c1, l1, l2]) hSf ?_
        refine h_take (i := 14) (.string ⟨#[]⟩) rfl (by kernel_rfl) (by kernel_rfl) (by kernel_rfl) (fun _ _ _ h => h) rfl hSf (fun W hW => by simp [execOp, go_sem, Act.put, hsz, s5, s11, s4, s2]) ?_
        refine h_take (i := 15) (.int .i64 0) rfl (by kernel_rfl) (by kernel_rfl) (by kernel_rfl) (fun _ _ _ h => h) rfl hSf (fun W hW => by simp [execOp, go_sem, Act.put, hsz, s5, s11, s4, s2]) ?_
        refine wpAnyH_done (by kernel_rfl) ?_ _
        subst ha0
        clear hsz s5 s11 s4 s2 hS0 HXD
        go_simp
        go_wp2_with fail
        go_meet
        case rel => exact ⟨_, _, _, rfl, rfl, HE.out⟩
    · obtain ⟨v1, hv1, hP, hbp⟩ := dk_named t3.drew (.slice none 0 0) 0
      rw [show t3.drew.heap.size = t3.heap.size from rfl] at hP hbp
      have hS1 : Below t3.heap.size t3 v1 := bsq hS0 hbp
      refine o_value (w' := v1) (.pointer (some ⟨t3.heap.size, 0, none⟩)) rfl rfl (by rw [← hv1]; simp [execOp, go_sem, Act.put, hsz, s5, s11, s4, s2]) ⟨hS1, ?_⟩
      refine h_call (i := 2) 7 #[.string Ca, .string ⟨#[40]⟩, .string ⟨#[42]⟩, .int .i64 1] rfl (by kernel_rfl) rfl (by simp [execOp, go_sem, Act.put, hsz, s5, s11, s4, s2]) ((hR1.out _ (bsq HR.out.2.1 hS1)).mono ?_)
      rintro e v2 ⟨rfl, hb⟩
      have hS2 : Below t3.heap.size t3 v2 := bsq hS1 hb
      refine ⟨_, rfl, hS2, ?_⟩
      have hP2 := keep hP hb
      refine h_call (i := 7) 6 #[dkV (.slice xa n0 xc) s0, .string Da, .string d1] rfl (by kernel_rfl) rfl (by simp [execOp, go_sem, Act.put, hsz, s5, s11, s4, s2]) ((hE1.out _ _ (HR.out.1.below hS2)).mono ?_)
      rintro e v3 ⟨pa, pc, rfl, ht, hb3⟩
      have hS3 : Below t3.heap.size t3 v3 := bsq hS2 hb3
      refine ⟨_, rfl, hS3, ?_⟩
      have hP3 := keep hP2 hb3
      have hPl := (Array.getElem?_eq_some_iff.1 hP2).1
      obtain ⟨vf, hvf, hXf, hBf, hkf, hsf⟩ := dk_put v3 t3.heap.size _ _ (.slice pa n0 pc) 0 hP3
      obtain ⟨⟨zm, c0, c1⟩, l1, l2⟩ := boxD hP3
      have hSf : Below t3.heap.size t3 vf := hBf _ _ (Nat.le_refl _) hS3
      have HE : Hid (Below t3.heap.size t3 vf ∧ t3.heap.size ≤ t3.heap.size ∧ vf.heap[t3.heap.size]? = some (dkO (.slice pa n0 pc) 0) ∧ Rts vf (.slice pa n0 pc) P1) := ⟨hSf, Nat.le_refl _, hXf, by rw [← hvf]; exact (txs_setX (txs_setX ht hPl _ _) hPl _ _).rts⟩
      refine h_take (i := 8) (.tuple #[dkV (.slice pa n0 pc) 0, .string ⟨#[]⟩, .int .i64 0]) rfl (by kernel_rfl) (by kernel_rfl) (by kernel_rfl) (fun _ _ _ h => h) rfl hS3 (fun W hW => by simp [execOp, go_sem, Act.put, hsz, s5, s11, s4, s2]) ?_
      refine h_take (i := 9) (dkV (.slice pa n0 pc) 0) rfl (by kernel_rfl) (by kernel_rfl) (by kernel_rfl) (fun _ _ _ h => h) rfl hS3 (fun W hW => by simp [execOp, go_sem, Act.put, hsz, s5, s11, s4, s2]) ?_
      refine h_take (i := 10) (.string ⟨#[]⟩) rfl (by kernel_rfl) (by kernel_rfl) (by kernel_rfl) (fun _ _ _ h => h) rfl hS3 (fun W hW => by simp [execOp, go_sem, Act.put, hsz, s5, s11, s4, s2]) ?_
      refine h_take (i := 11) (.int .i64 0) rfl (by kernel_rfl) (by kernel_rfl) (by kernel_rfl) (fun _ _ _ h => h) rfl hS3 (fun W hW => by simp [execOp, go_sem, Act.put, hsz, s5, s11, s4, s2]) ?_
      refine h_skip (i := 13) (w' := vf) rfl (by kernel_rfl) rfl (by rw [← hvf]; simp [execOp, go_sem, Act.put, hsz, s5, s11, s4, s2, zm, c0, c1, l1, l2]) hSf ?_
      refine h_take (i := 14) (.string ⟨#[]⟩) rfl (by kernel_rfl) (by kernel_rfl) (by kernel_rfl) (fun _ _ _ h => h) rfl hSf (fun W hW => by simp [execOp, go_sem, Act.put, hsz, s5, s11, s4, s2]) ?_
      refine h_take (i := 15) (.int .i64 0) rfl (by kernel_rfl) (by kernel_rfl) (by kernel_rfl) (fun _ _ _ h => h) rfl hSf (fun W hW => by simp [execOp, go_sem, Act.put, hsz, s5, s11, s4, s2]) ?_
      refine wpAnyH_done (by kernel_rfl) ?_ _
      subst ha0
      clear hsz s5 s11 s4 s2 hS0 HXD
      go_simp
      go_wp2_with fail
      go_meet
      case rel => exact ⟨_, _, _, rfl, rfl, HE.out⟩
  case rest =>
  obtain ⟨P, pa, pc, rfl, rfl, HP⟩ := hcut
  rename World => g1
  obtain ⟨⟨_, i0, i1⟩, j0, j1⟩ := boxD HP.out.2.2.1
  go_wp2_with fail
  go_upto_region 14 with (fail)
  go_cut [14] from 140 (fun ev wx => ∃ (pb : Option Addr) (pd : Nat), ev = .int .i64 0 ∧ Hid (Below t3.heap.size t3 wx ∧ t3.heap.size ≤ P ∧ wx.heap[P]? = some (dkO (.slice pb n0 pd) 0) ∧ Rts wx (.slice pb n0 pd) P2))
  case first =>
    refine wp_abs (fun a0 => a0.tmps.size = 176 ∧ (∀ h, a0.tmps[26]'h = .pointer (some ⟨P, 0, none⟩)) ∧ (∀ h, a0.tmps[13]'h = .string Cb) ∧ (∀ h, a0.tmps[4]'h = .string a4) ∧ (∀ h, a0.tmps[2]'h = .int .i64 a2)) ⟨rfl, fun _ => rfl, fun _ => rfl, fun _ => rfl, fun _ => rfl⟩ ?_
    rintro a0 ⟨hsz, s26, s13, s4, s2⟩ ha0
    refine wp_region_held (S := fun W => True) (by kernel_rfl) ?_
    have hS : True := trivial
    refine h_take (i := 1) (.string Cb) rfl (by kernel_rfl) (by kernel_rfl) (by kernel_rfl) (fun _ _ _ h => h) rfl hS (fun W hW => by simp [execOp, go_sem, Act.put, hsz, s26, s13, s4, s2]) ?_
    refine h_take (i := 3) (.string a4) rfl (by kernel_rfl) (by kernel_rfl) (by kernel_rfl) (fun _ _ _ h => h) rfl hS (fun W hW => by simp [execOp, go_sem, Act.put, hsz, s26, s13, s4, s2]) ?_
    refine h_take (i := 4) (.int .i64 a2) rfl (by kernel_rfl) (by kernel_rfl) (by kernel_rfl) (fun _ _ _ h => h) rfl hS (fun W hW => by simp [execOp, go_sem, Act.put, hsz, s26, s13, s4, s2]) ?_
    refine h_take (i := 5) (.int .i64 (16 * a2)) rfl (by kernel_rfl) (by kernel_rfl) (by kernel_rfl) (fun _ _ _ h => h) rfl hS (fun W hW => by simp [execOp, go_sem, Act.put, hsz, s26, s13, s4, s2, hwr]) ?_
    refine h_take (i := 6) (.string d2) rfl (by kernel_rfl) (by kernel_rfl) (by kernel_rfl) (fun _ _ _ h => h) rfl hS (fun W hW => by simp [execOp, go_sem, Act.put, hsz, s26, s13, s4, s2, hsl2]) ?_
    refine h_two 0 2 (by kernel_rfl) ?_ ?_
    · refine o_value (w' := g1.drew) (dkV (.slice pa n0 pc) 0) rfl rfl (by simp [execOp, go_sem, Act.put, hsz, s26, s13, s4, s2, i0, i1]) ⟨hS, ?_⟩
      refine h_call (i := 2) 7 #[.string Cb, .string ⟨#[40]⟩, .string ⟨#[42]⟩, .int .i64 1] rfl (by kernel_rfl) rfl (by simp [execOp, go_sem, Act.put, hsz, s26, s13, s4, s2]) ((hR2.out _ (bsq HR.out.2.1 HP.out.1.drew)).mono ?_)
      rintro e v2 ⟨rfl, hb⟩
      refine ⟨_, rfl, hS, ?_⟩
      have hb2 : Below t3.heap.size t3 v2 := bsq HP.out.1.drew hb
      have hbd : Below g1.heap.size g1 v2 := bsq (Below.refl _ _).drew hb
      have hP2 := keep HP.out.2.2.1 hbd
      have hr2 := HP.out.2.2.2.below hbd
      refine h_call (i := 7) 6 #[dkV (.slice pa n0 pc) 0, .string Db, .string d2] rfl (by kernel_rfl) rfl (by simp [execOp, go_sem, Act.put, hsz, s26, s13, s4, s2]) ((hE2.out _ _ hr2).mono ?_)
      rintro e v3 ⟨pb, pd, rfl, ht, hb3⟩
      refine ⟨_, rfl, hS, ?_⟩
      have hP3 := keep hP2 hb3
      have hPl := (Array.getElem?_eq_some_iff.1 hP2).1
      obtain ⟨vf, hvf, hXf, hBf, hkf, hsf⟩ := dk_put v3 P _ _ (.slice pb n0 pd) 0 hP3
      obtain ⟨⟨zm, c0, c1⟩, l1, l2⟩ := boxD hP3
      have HE : Hid (Below t3.heap.size t3 vf ∧ t3.heap.size ≤ P ∧ vf.heap[P]? = some (dkO (.slice pb n0 pd) 0) ∧ Rts vf (.slice pb n0 pd) P2) := ⟨hBf _ _ HP.out.2.1 (bsq hb2 hb3), HP.out.2.1, hXf, by rw [← hvf]; exact (txs_setX (txs_setX ht hPl _ _) hPl _ _).rts⟩
      refine h_take (i := 8) (.tuple #[dkV (.slice pb n0 pd) 0, .string ⟨#[]⟩, .int .i64 0]) rfl (by kernel_rfl) (by kernel_rfl) (by kernel_rfl) (fun _ _ _ h => h) rfl hS (fun W hW => by simp [execOp, go_sem, Act.put, hsz, s26, s13, s4, s2]) ?_
      refine h_take (i := 9) (dkV (.slice pb n0 pd) 0) rfl (by kernel_rfl) (by kernel_rfl) (by kernel_rfl) (fun _ _ _ h => h) rfl hS (fun W hW => by simp [execOp, go_sem, Act.put, hsz, s26, s13, s4, s2]) ?_
      refine h_take (i := 10) (.string ⟨#[]⟩) rfl (by kernel_rfl) (by kernel_rfl) (by kernel_rfl) (fun _ _ _ h => h) rfl hS (fun W hW => by simp [execOp, go_sem, Act.put, hsz, s26, s13, s4, s2]) ?_
      refine h_take (i := 11) (.int .i64 0) rfl (by kernel_rfl) (by kernel_rfl) (by kernel_rfl) (fun _ _ _ h => h) rfl hS (fun W hW => by simp [execOp, go_sem, Act.put, hsz, s26, s13, s4, s2]) ?_
      refine h_skip (i := 12) (w' := vf) rfl (by kernel_rfl) rfl (by rw [← hvf]; simp [execOp, go_sem, Act.put, hsz, s26, s13, s4, s2, zm, c0, c1, l1, l2]) hS ?_
      refine h_take (i := 13) (.int .i64 0) rfl (by kernel_rfl) (by kernel_rfl) (by kernel_rfl) (fun _ _ _ h => h) rfl hS (fun W hW => by simp [execOp, go_sem, Act.put, hsz, s26, s13, s4, s2]) ?_
      refine wpAnyH_done (by kernel_rfl) ?_ _
      subst ha0
      clear hsz s26 s13 s4 s2
      go_simp
      go_wp2_with fail
      go_meet
      case rel => exact ⟨_, _, rfl, HE.out⟩
    · refine o_call 7 #[.string Cb, .string ⟨#[40]⟩, .string ⟨#[42]⟩, .int .i64 1] rfl rfl (by simp [execOp, go_sem, Act.put, hsz, s26, s13, s4, s2]) ((hR2.out _ (bsq HR.out.2.1 HP.out.1.drew)).mono ?_)
      rintro e v2 ⟨rfl, hb⟩
      refine ⟨_, rfl, hS, ?_⟩
      have hb2 : Below t3.heap.size t3 v2 := bsq HP.out.1.drew hb
      have hbd : Below g1.heap.size g1 v2 := bsq (Below.refl _ _).drew hb
      have hP2 := keep HP.out.2.2.1 hbd
      have hr2 := HP.out.2.2.2.below hbd
      obtain ⟨⟨_, k0, k1⟩, _⟩ := boxD hP2
      refine h_value (i := 0) (w' := v2) (dkV (.slice pa n0 pc) 0) rfl (by kernel_rfl) rfl (by simp [execOp, go_sem, Act.put, hsz, s26, s13, s4, s2, k0, k1]) hS ?_
      refine h_call (i := 7) 6 #[dkV (.slice pa n0 pc) 0, .string Db, .string d2] rfl (by kernel_rfl) rfl (by simp [execOp, go_sem, Act.put, hsz, s26, s13, s4, s2]) ((hE2.out _ _ hr2).mono ?_)
      rintro e v3 ⟨pb, pd, rfl, ht, hb3⟩
      refine ⟨_, rfl, hS, ?_⟩
      have hP3 := keep hP2 hb3
      have hPl := (Array.getElem?_eq_some_iff.1 hP2).1
      obtain ⟨vf, hvf, hXf, hBf, hkf, hsf⟩ := dk_put v3 P _ _ (.slice pb n0 pd) 0 hP3
      obtain ⟨⟨zm, c0, c1⟩, l1, l2⟩ := boxD hP3
      have HE : Hid (Below t3.heap.size t3 vf ∧ t3.heap.size ≤ P ∧ vf.heap[P]? = some (dkO (.slice pb n0 pd) 0) ∧ Rts vf (.slice pb n0 pd) P2) := ⟨hBf _ _ HP.out.2.1 (bsq hb2 hb3), HP.out.2.1, hXf, by rw [← hvf]; exact (txs_setX (txs_setX ht hPl _ _) hPl _ _).rts⟩
      refine h_take (i := 8) (.tuple #[dkV (.slice pb n0 pd) 0, .string ⟨#[]⟩, .int .i64 0]) rfl (by kernel_rfl) (by kernel_rfl) (by kernel_rfl) (fun _ _ _ h => h) rfl hS (fun W hW => by simp [execOp, go_sem, Act.put, hsz, s26, s13, s4, s2]) ?_
      refine h_take (i := 9) (dkV (.slice pb n0 pd) 0) rfl (by kernel_rfl) (by kernel_rfl) (by kernel_rfl) (fun _ _ _ h => h) rfl hS (fun W hW => by simp [execOp, go_sem, Act.put, hsz, s26, s13, s4, s2]) ?_
      refine h_take (i := 10) (.string ⟨#[]⟩) rfl (by kernel_rfl) (by kernel_rfl) (by kernel_rfl) (fun _ _ _ h => h) rfl hS (fun W hW => by simp [execOp, go_sem, Act.put, hsz, s26, s13, s4, s2]) ?_
      refine h_take (i := 11) (.int .i64 0) rfl (by kernel_rfl) (by kernel_rfl) (by kernel_rfl) (fun _ _ _ h => h) rfl hS (fun W hW => by simp [execOp, go_sem, Act.put, hsz, s26, s13, s4, s2]) ?_
      refine h_skip (i := 12) (w' := vf) rfl (by kernel_rfl) rfl (by rw [← hvf]; simp [execOp, go_sem, Act.put, hsz, s26, s13, s4, s2, zm, c0, c1, l1, l2]) hS ?_
      refine h_take (i := 13) (.int .i64 0) rfl (by kernel_rfl) (by kernel_rfl) (by kernel_rfl) (fun _ _ _ h => h) rfl hS (fun W hW => by simp [execOp, go_sem, Act.put, hsz, s26, s13, s4, s2]) ?_
      refine wpAnyH_done (by kernel_rfl) ?_ _
      subst ha0
      clear hsz s26 s13 s4 s2
      go_simp
      go_wp2_with fail
      go_meet
      case rel => exact ⟨_, _, rfl, HE.out⟩
  case rest =>
  obtain ⟨pb, pd, rfl, HQ⟩ := hcut
  rename World => g2
  clear i0 i1 j0 j1 HP
  obtain ⟨⟨_, i0, i1⟩, j0, j1⟩ := boxD (keep HR.out.2.2 HQ.out.1)
  go_wp2_with fail
  go_upto_region 15 with (fail)
  go_cut [28, 29, 16] from 152 (fun qv tv ev wx => ∃ (Q : Nat) (qa : Option Addr) (qc : Nat), qv = .pointer (some ⟨Q, 0, none⟩) ∧ ev = .int .i64 0 ∧ Hid (Below g2.heap.size g2 wx ∧ wx.heap[Q]? = some (dkO (.slice qa n0 qc) 0) ∧ Rts wx (.slice qa n0 qc) P2))
  case first =>
    have HXD : Hid (∀ W, Below g2.heap.size g2 W → W.heap[w.heap.size]? = some (dkO (.slice xa n0 xc) s0)) := fun W hW => keep (keep HR.out.2.2 HQ.out.1) hW
    have HRD : Hid (∀ W, Below g2.heap.size g2 W → Rts W (.slice xa n0 xc) l0) := fun W hW => (HR.out.1.below HQ.out.1).below hW
    have HBD : Hid (Below w.heap.size w g2) := bsq HR.out.2.1 HQ.out.1
    refine wp_abs (fun a0 => a0.tmps.size = 176 ∧ (∀ h, a0.tmps[5]'h = .pointer (some ⟨w.heap.size, 0, none⟩)) ∧ (∀ h, a0.tmps[15]'h = .string Cc) ∧ (∀ h, a0.tmps[4]'h = .string a4)) ⟨rfl, fun _ => rfl, fun _ => rfl, fun _ => rfl⟩ ?_
    rintro a0 ⟨hsz, s5, s15, s4⟩ ha0
    refine wp_region_held (S := fun W => Below g2.heap.size g2 W) (by kernel_rfl) ?_
    have hS0 : Below g2.heap.size g2 g2.drew := (Below.refl _ _).drew
    refine h_take (i := 0) (dkV (.slice xa n0 xc) s0) rfl (by kernel_rfl) (by kernel_rfl) (by kernel_rfl) (fun _ _ _ h => h) rfl hS0 (fun W hW => by obtain ⟨⟨_, b0, b1⟩, _⟩ := boxD (HXD.out W hW); simp [execOp, go_sem, Act.put, hsz, s5, s15, s4, b0, b1]) ?_
    refine h_take (i := 1) (.string Cc) rfl (by kernel_rfl) (by kernel_rfl) (by kernel_rfl) (fun _ _ _ h => h) rfl hS0 (fun W hW => by simp [execOp, go_sem, Act.put, hsz, s5, s15, s4]) ?_
    refine h_take (i := 3) (.string a4) rfl (by kernel_rfl) (by kernel_rfl) (by kernel_rfl) (fun _ _ _ h => h) rfl hS0 (fun W hW => by simp [execOp, go_sem, Act.put, hsz, s5, s15, s4]) ?_
    refine h_two 2 9 (by kernel_rfl) ?_ ?_
    · refine o_call 7 #[.string Cc, .string ⟨#[40]⟩, .string ⟨#[42]⟩, .int .i64 1] rfl rfl (by simp [execOp, go_sem, Act.put, hsz, s5, s15, s4]) ((hR3.out _ (bsq HBD.out hS0)).mono ?_)
      rintro e v0 ⟨rfl, hb⟩
      have hS1 : Below g2.heap.size g2 v0 := bsq hS0 hb
      refine ⟨_, rfl, hS1, ?_⟩
      refine h_two 4 9 (by kernel_rfl) ?_ ?_
      · refine o_call 6 #[dkV (.slice xa n0 xc) s0, .string Dc, .string a4] rfl rfl (by simp [execOp, go_sem, Act.put, hsz, s5, s15, s4]) ((hE3.out _ _ (HRD.out _ hS1)).mono ?_)
        rintro e v3 ⟨qa, qc, rfl, ht, hb3⟩
        have hS3 : Below g2.heap.size g2 v3 := bsq hS1 hb3
        refine ⟨_, rfl, hS3, ?_⟩
        obtain ⟨v4, vf, hv4, hvf, hX4, hXf, hbf⟩ := dk_param v3 (.slice qa n0 qc) 0
        obtain ⟨⟨zm, c0, c1⟩, l1, l2⟩ := boxD hX4
        have hS4 : Below g2.heap.size g2 v4 := bsq hS3 (by rw [← hv4]; exact balloc _ _)
        have hSf : Below g2.heap.size g2 vf := bsq hS3 hbf
        have HE : Hid (Below g2.heap.size g2 vf ∧ vf.heap[v3.heap.size]? = some (dkO (.slice qa n0 qc) 0) ∧ Rts vf (.slice qa n0 qc) P2) := ⟨hSf, hXf, ht.rts.below hbf⟩
        refine h_take (i := 5) (.tuple #[dkV (.slice qa n0 qc) 0, .string ⟨#[]⟩, .int .i64 0]) rfl (by kernel_rfl) (by kernel_rfl) (by kernel_rfl) (fun _ _ _ h => h) rfl hS3 (fun W hW => by simp [execOp, go_sem, Act.put, hsz, s5, s15, s4]) ?_
        refine h_take (i := 6) (dkV (.slice qa n0 qc) 0) rfl (by kernel_rfl) (by kernel_rfl) (by kernel_rfl) (fun _ _ _ h => h) rfl hS3 (fun W hW => by simp [execOp, go_sem, Act.put, hsz, s5, s15, s4]) ?_
        refine h_take (i := 7) (.string ⟨#[]⟩) rfl (by kernel_rfl) (by kernel_rfl) (by kernel_rfl) (fun _ _ _ h => h) rfl hS3 (fun W hW => by simp [execOp, go_sem, Act.put, hsz, s5, s15, s4]) ?_
        refine h_take (i := 8) (.int .i64 0) rfl (by kernel_rfl) (by kernel_rfl) (by kernel_rfl) (fun _ _ _ h => h) rfl hS3 (fun W hW => by simp [execOp, go_sem, Act.put, hsz, s5, s15, s4]) ?_
        refine h_value (i := 9) (w' := v4) (.pointer (some ⟨v3.heap.size, 0, none⟩)) rfl (by kernel_rfl) rfl (by rw [← hv4]; simp [execOp, go_sem, Act.put, hsz, s5, s15, s4]) hS4 ?_
        refine h_skip (i := 10) (w' := vf) rfl (by kernel_rfl) rfl (by rw [← hvf]; simp [execOp, go_sem, Act.put, hsz, s5, s15, s4, zm, c0, c1, l1, l2]) hSf ?_
        refine h_take (i := 11) (.string ⟨#[]⟩) rfl (by kernel_rfl) (by kernel_rfl) (by kernel_rfl) (fun _ _ _ h => h) rfl hSf (fun W hW => by simp [execOp, go_sem, Act.put, hsz, s5, s15, s4]) ?_
        refine h_take (i := 12) (.int .i64 0) rfl (by kernel_rfl) (by kernel_rfl) (by kernel_rfl) (fun _ _ _ h => h) rfl hSf (fun W hW => by simp [execOp, go_sem, Act.put, hsz, s5, s15, s4]) ?_
        refine wpAnyH_done (by kernel_rfl) ?_ _
        subst ha0
        clear hsz s5 s15 s4 hS0 HXD HRD HBD
        go_simp
        go_wp2_with fail
        go_meet
        case rel => exact ⟨_, _, _, rfl, rfl, HE.out⟩
      · obtain ⟨v1, hv1, hP, hbp⟩ := dk_named v0 (.slice none 0 0) 0
        have hS2 : Below g2.heap.size g2 v1 := bsq hS1 hbp
        refine o_value (w' := v1) (.pointer (some ⟨v0.heap.size, 0, none⟩)) rfl rfl (by rw [← hv1]; simp [execOp, go_sem, Act.put, hsz, s5, s15, s4]) ⟨hS2, ?_⟩
        refine h_call (i := 4) 6 #[dkV (.slice xa n0 xc) s0, .string Dc, .string a4] rfl (by kernel_rfl) rfl (by simp [execOp, go_sem, Act.put, hsz, s5, s15, s4]) ((hE3.out _ _ (HRD.out _ hS2)).mono ?_)
        rintro e v3 ⟨qa, qc, rfl, ht, hb3⟩
        have hS3 : Below g2.heap.size g2 v3 := bsq hS2 hb3
        refine ⟨_, rfl, hS3, ?_⟩
        have hP3 := keep hP hb3
        have hPl := (Array.getElem?_eq_some_iff.1 hP).1
        obtain ⟨vf, hvf, hXf, hBf, hkf, hsf⟩ := dk_put v3 v0.heap.size _ _ (.slice qa n0 qc) 0 hP3
        obtain ⟨⟨zm, c0, c1⟩, l1, l2⟩ := boxD hP3
        have hSf : Below g2.heap.size g2 vf := hBf _ _ hS1.size hS3
        have HE : Hid (Below g2.heap.size g2 vf ∧ vf.heap[v0.heap.size]? = some (dkO (.slice qa n0 qc) 0) ∧ Rts vf (.slice qa n0 qc) P2) := ⟨hSf, hXf, by rw [← hvf]; exact (txs_setX (txs_setX ht hPl _ _) hPl _ _).rts⟩
        refine h_take (i := 5) (.tuple #[dkV (.slice qa n0 qc) 0, .string ⟨#[]⟩, .int .i64 0]) rfl (by kernel_rfl) (by kernel_rfl) (by kernel_rfl) (fun _ _ _ h => h) rfl hS3 (fun W hW => by simp [execOp, go_sem, Act.put, hsz, s5, s15, s4]) ?_
        refine h_take (i := 6) (dkV (.slice qa n0 qc) 0) rfl (by kernel_rfl) (by kernel_rfl) (by kernel_rfl) (fun _ _ _ h => h) rfl hS3 (fun W hW => by simp [execOp, go_sem, Act.put, hsz, s5, s15, s4]) ?_
        refine h_take (i := 7) (.string ⟨#[]⟩) rfl (by kernel_rfl) (by kernel_rfl) (by kernel_rfl) (fun _ _ _ h => h) rfl hS3 (fun W hW => by simp [execOp, go_sem, Act.put, hsz, s5, s15, s4]) ?_
        refine h_take (i := 8) (.int .i64 0) rfl (by kernel_rfl) (by kernel_rfl) (by kernel_rfl) (fun _ _ _ h => h) rfl hS3 (fun W hW => by simp [execOp, go_sem, Act.put, hsz, s5, s15, s4]) ?_
        refine h_skip (i := 10) (w' := vf) rfl (by kernel_rfl) rfl (by rw [← hvf]; simp [execOp, go_sem, Act.put, hsz, s5, s15, s4, zm, c0, c1, l1, l2]) hSf ?_
        refine h_take (i := 11) (.string ⟨#[]⟩) rfl (by kernel_rfl) (by kernel_rfl) (by kernel_rfl) (fun _ _ _ h => h) rfl hSf (fun W hW => by simp [execOp, go_sem, Act.put, hsz, s5, s15, s4]) ?_
        refine h_take (i := 12) (.int .i64 0) rfl (by kernel_rfl) (by kernel_rfl) (by kernel_rfl) (fun _ _ _ h => h) rfl hSf (fun W hW => by simp [execOp, go_sem, Act.put, hsz, s5, s15, s4]) ?_
        refine wpAnyH_done (by kernel_rfl) ?_ _
        subst ha0
        clear hsz s5 s15 s4 hS0 HXD HRD HBD
        go_simp
        go_wp2_with fail
        go_meet
        case rel => exact ⟨_, _, _, rfl, rfl, HE.out⟩
    · obtain ⟨v1, hv1, hP, hbp⟩ := dk_named g2.drew (.slice none 0 0) 0
      rw [show g2.drew.heap.size = g2.heap.size from rfl] at hP hbp
      have hS1 : Below g2.heap.size g2 v1 := bsq hS0 hbp
      refine o_value (w' := v1) (.pointer (some ⟨g2.heap.size, 0, none⟩)) rfl rfl (by rw [← hv1]; simp [execOp, go_sem, Act.put, hsz, s5, s15, s4]) ⟨hS1, ?_⟩
      refine h_call (i := 2) 7 #[.string Cc, .string ⟨#[40]⟩, .string ⟨#[42]⟩, .int .i64 1] rfl (by kernel_rfl) rfl (by simp [execOp, go_sem, Act.put, hsz, s5, s15, s4]) ((hR3.out _ (bsq HBD.out hS1)).mono ?_)
      rintro e v2 ⟨rfl, hb⟩
      have hS2 : Below g2.heap.size g2 v2 := bsq hS1 hb
      refine ⟨_, rfl, hS2, ?_⟩
      have hP2 := keep hP hb
      refine h_call (i := 4) 6 #[dkV (.slice xa n0 xc) s0, .string Dc, .string a4] rfl (by kernel_rfl) rfl (by simp [execOp, go_sem, Act.put, hsz, s5, s15, s4]) ((hE3.out _ _ (HRD.out _ hS2)).mono ?_)
      rintro e v3 ⟨qa, qc, rfl, ht, hb3⟩
      have hS3 : Below g2.heap.size g2 v3 := bsq hS2 hb3
      refine ⟨_, rfl, hS3, ?_⟩
      have hP3 := keep hP2 hb3
      have hPl := (Array.getElem?_eq_some_iff.1 hP2).1
      obtain ⟨vf, hvf, hXf, hBf, hkf, hsf⟩ := dk_put v3 g2.heap.size _ _ (.slice qa n0 qc) 0 hP3
      obtain ⟨⟨zm, c0, c1⟩, l1, l2⟩ := boxD hP3
      have hSf : Below g2.heap.size g2 vf := hBf _ _ (Nat.le_refl _) hS3
      have HE : Hid (Below g2.heap.size g2 vf ∧ vf.heap[g2.heap.size]? = some (dkO (.slice qa n0 qc) 0) ∧ Rts vf (.slice qa n0 qc) P2) := ⟨hSf, hXf, by rw [← hvf]; exact (txs_setX (txs_setX ht hPl _ _) hPl _ _).rts⟩
      refine h_take (i := 5) (.tuple #[dkV (.slice qa n0 qc) 0, .string ⟨#[]⟩, .int .i64 0]) rfl (by kernel_rfl) (by kernel_rfl) (by kernel_rfl) (fun _ _ _ h => h) rfl hS3 (fun W hW => by simp [execOp, go_sem, Act.put, hsz, s5, s15, s4]) ?_
      refine h_take (i := 6) (dkV (.slice qa n0 qc) 0) rfl (by kernel_rfl) (by kernel_rfl) (by kernel_rfl) (fun _ _ _ h => h) rfl hS3 (fun W hW => by simp [execOp, go_sem, Act.put, hsz, s5, s15, s4]) ?_
      refine h_take (i := 7) (.string ⟨#[]⟩) rfl (by kernel_rfl) (by kernel_rfl) (by kernel_rfl) (fun _ _ _ h => h) rfl hS3 (fun W hW => by simp [execOp, go_sem, Act.put, hsz, s5, s15, s4]) ?_
      refine h_take (i := 8) (.int .i64 0) rfl (by kernel_rfl) (by kernel_rfl) (by kernel_rfl) (fun _ _ _ h => h) rfl hS3 (fun W hW => by simp [execOp, go_sem, Act.put, hsz, s5, s15, s4]) ?_
      refine h_skip (i := 10) (w' := vf) rfl (by kernel_rfl) rfl (by rw [← hvf]; simp [execOp, go_sem, Act.put, hsz, s5, s15, s4, zm, c0, c1, l1, l2]) hSf ?_
      refine h_take (i := 11) (.string ⟨#[]⟩) rfl (by kernel_rfl) (by kernel_rfl) (by kernel_rfl) (fun _ _ _ h => h) rfl hSf (fun W hW => by simp [execOp, go_sem, Act.put, hsz, s5, s15, s4]) ?_
      refine h_take (i := 12) (.int .i64 0) rfl (by kernel_rfl) (by kernel_rfl) (by kernel_rfl) (fun _ _ _ h => h) rfl hSf (fun W hW => by simp [execOp, go_sem, Act.put, hsz, s5, s15, s4]) ?_
      refine wpAnyH_done (by kernel_rfl) ?_ _
      subst ha0
      clear hsz s5 s15 s4 hS0 HXD HRD HBD
      go_simp
      go_wp2_with fail
      go_meet
      case rel => exact ⟨_, _, _, rfl, rfl, HE.out⟩
  case rest =>
  obtain ⟨Q, qa, qc, rfl, rfl, HZ⟩ := hcut
  rename World => g3
  clear i0 i1 j0 j1
  obtain ⟨⟨_, i0, i1⟩, j0, j1⟩ := boxD (keep HQ.out.2.2.1 HZ.out.1)
  obtain ⟨⟨_, k0, k1⟩, _⟩ := boxD HZ.out.2.1
  have HB9 : Hid (Below w.heap.size w g3) := bsq (bsq HR.out.2.1 HQ.out.1) HZ.out.1
  have HE9 : Hid (Calls Tryd.prog 8 #[dkV (.slice pb n0 pd) 0, dkV (.slice qa n0 qc) 0] g3 fun e w' => e = .returned (.bool true) ∧ Below g3.heap.size g3 w') := by
    have := same_any _ _ P2 P2 0 0 g3 (HQ.out.2.2.2.below HZ.out.1) HZ.out.2.2
    rw [decide_eq_true rfl, decide_eq_true rfl] at this
    exact this
  clear HZ HQ HR
  go_wp2_with fail
  refine HE9.out.mono ?_
  rintro e g4 ⟨rfl, hb⟩
  replace HB9 : Hid (Below w.heap.size w g4) := bsq HB9.out hb
  clear hb HE9
  go_wp2
  go_ret
  exact ⟨rfl, HB9.out⟩
end Go.Proofs.YtjmbklbobofciabDoor.scsiParts
