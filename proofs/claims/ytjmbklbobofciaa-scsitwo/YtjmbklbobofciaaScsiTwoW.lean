/- ScsiTwo: the walk. -/
import Derived.Test.YtjmbklbobofciaaScsV
import Derived.Test.YtjmbklbobofciaaScsD
namespace Go.Proofs.Ytjmbklbobofciaa.scsiTwo
open Go.RowKit Go.PlainAid Go.Proofs.Ytjmbklbobofciaa.lane Go.Proofs.Ytjmbklbobofciaa.pipe Go.Proofs.Ytjmbklbobofciaa.strike Go.Proofs.Ytjmbklbobofciaa.scsi
set_option linter.unusedVariables false
set_option linter.unusedSimpArgs false
set_option maxRecDepth 100000

set_option maxHeartbeats 8000000 in
theorem walk (x0 : Value) (l0 : List ByteArray) (s0 : Int) (a1 a2 a3 a4 : Int) (a5 a6 : ByteArray) (w1 : (Lit.int .i64 a1).wf = true) (w2 : (Lit.int .i64 a2).wf = true) (w3 : (Lit.int .i64 a3).wf = true) (w4 : (Lit.int .i64 a4).wf = true) (w5 : a5.size ≤ maxLen) (w6 : a6.size ≤ maxLen) (w : World) (hp : Rts w x0 l0) (hk : l0.length * 16 ≤ reachBytes) :
    Calls Try.prog 8 #[dkV x0 s0, .int .i64 a1, .int .i64 a2, .int .i64 a3, .int .i64 a4, .string a5, .string a6] w fun e w' => e = .returned (.bool true) ∧ Below w.heap.size w w' := by
  clear w1 w2 w3 w4
  have hz1 := mk_max 42 a1 a3
  have hz2 := mk_max 42 a2 a4
  have hz3 := mk_max 40 a2 a4
  obtain ⟨K1, hK1⟩ : ∃ K, mkC 42 a1 a3 = K := ⟨_, rfl⟩
  obtain ⟨K2, hK2⟩ : ∃ K, mkC 42 a2 a4 = K := ⟨_, rfl⟩
  have HM1 : Hid (∀ u, Calls Try.prog 12 #[.int .i64 42, .int .i64 a1, .int .i64 a3] u fun e w' => e = .returned (.tuple #[.string (mkT 42 a1 a3), .int .i64 K1]) ∧ Below u.heap.size u w') := fun u => by
    have := make_any 42 a1 a3 u
    rw [hK1] at this
    exact this
  have HM2 : Hid (∀ u, Calls Try.prog 12 #[.int .i64 42, .int .i64 a2, .int .i64 a4] u fun e w' => e = .returned (.tuple #[.string (mkT 42 a2 a4), .int .i64 K2]) ∧ Below u.heap.size u w') := fun u => by
    have := make_any 42 a2 a4 u
    rw [hK2] at this
    exact this
  have HLV : Hid (∀ u, Calls Try.prog 19 #[] u fun e w' => e = .returned (.bool true) ∧ Below u.heap.size u w') := fun u => lives_any u
  obtain ⟨C1, hC1⟩ : ∃ C, doC ⟨l0, s0⟩ (mkT 42 a1 a3) a5 = C := ⟨_, rfl⟩
  obtain ⟨N1, hN1⟩ : ∃ N, (doD ⟨l0, s0⟩ (mkT 42 a1 a3) a5).b = N := ⟨_, rfl⟩
  obtain ⟨S1, hS1⟩ : ∃ S, (doD ⟨l0, s0⟩ (mkT 42 a1 a3) a5).s = S := ⟨_, rfl⟩
  obtain ⟨T1, hT1⟩ : ∃ T, doT ⟨l0, s0⟩ (mkT 42 a1 a3) a5 = T := ⟨_, rfl⟩
  obtain ⟨C2, hC2⟩ : ∃ C, doC ⟨l0, s0⟩ (mkT 42 a2 a4) a6 = C := ⟨_, rfl⟩
  obtain ⟨N2, hN2⟩ : ∃ N, (doD ⟨l0, s0⟩ (mkT 42 a2 a4) a6).b = N := ⟨_, rfl⟩
  obtain ⟨S2, hS2⟩ : ∃ S, (doD ⟨l0, s0⟩ (mkT 42 a2 a4) a6).s = S := ⟨_, rfl⟩
  obtain ⟨T2, hT2⟩ : ∃ T, doT ⟨l0, s0⟩ (mkT 42 a2 a4) a6 = T := ⟨_, rfl⟩
  have HD1 : Hid (∀ v u, Rts u v l0 → Calls Try.prog 17 #[dkV v s0, .string (mkT 42 a1 a3), .string a5] u fun e w' => ∃ a cp, e = .returned (.tuple #[dkV (.slice a N1.length cp) S1, .string T1, .int .i64 C1]) ∧ Txs w' u.heap.size (.slice a N1.length cp) N1 ∧ Below u.heap.size u w') := fun v u h => do_named v ⟨l0, s0⟩ (mkT 42 a1 a3) a5 hk hz1 w5 T1 C1 N1 S1 hT1 hC1 hN1 hS1 u h
  have HD2 : Hid (∀ v u, Rts u v l0 → Calls Try.prog 17 #[dkV v s0, .string (mkT 42 a2 a4), .string a6] u fun e w' => ∃ a cp, e = .returned (.tuple #[dkV (.slice a N2.length cp) S2, .string T2, .int .i64 C2]) ∧ Txs w' u.heap.size (.slice a N2.length cp) N2 ∧ Below u.heap.size u w') := fun v u h => do_named v ⟨l0, s0⟩ (mkT 42 a2 a4) a6 hk hz2 w6 T2 C2 N2 S2 hT2 hC2 hN2 hS2 u h
  obtain ⟨xa, xc, rfl, _, _⟩ := rts_form hp
  obtain ⟨u0, hu0, hX0, hb0⟩ := dk_named w (.slice xa l0.length xc) s0
  obtain ⟨⟨_, x0, x1⟩, f0, f1⟩ := boxD hX0
  have HR : Hid (Rts u0 (.slice xa l0.length xc) l0 ∧ Below w.heap.size w u0 ∧ u0.heap[w.heap.size]? = some (dkO (.slice xa l0.length xc) s0)) := ⟨hp.below hb0, hb0, hX0⟩
  clear hp hX0 hb0
  by_cases qK1 : K1 ≠ 0
  · have eK1 : (K1 != 0) = true := by simp [qK1]
    clear qK1
    clear hK1 hK2 hC1 hC2 hN1 hN2 hS1 hS2 hT1 hT2 hz1 hz2 hz3 hk w5 w6
    generalize hn0 : l0.length = n0 at *
    generalize hn1 : N1.length = n1 at *
    generalize hn2 : N2.length = n2 at *
    generalize mkT 42 a1 a3 = Ca at *
    generalize mkT 42 a2 a4 = Cb at *
    go_enter Try.func8, Try.ntmps8
    go_wp2_with fail
    refine (HM1.out _).mono ?_
    rintro e y1 ⟨rfl, hb⟩
    replace HR : Hid (Rts y1 (.slice xa n0 xc) l0 ∧ Below w.heap.size w y1 ∧ y1.heap[w.heap.size]? = some (dkO (.slice xa n0 xc) s0)) := ⟨HR.out.1.below hb, bsq HR.out.2.1 hb, keep HR.out.2.2 hb⟩
    clear hb HM1
    go_wp2_with fail
    refine (HM2.out _).mono ?_
    rintro e y2 ⟨rfl, hb⟩
    replace HR : Hid (Rts y2 (.slice xa n0 xc) l0 ∧ Below w.heap.size w y2 ∧ y2.heap[w.heap.size]? = some (dkO (.slice xa n0 xc) s0)) := ⟨HR.out.1.below hb, bsq HR.out.2.1 hb, keep HR.out.2.2 hb⟩
    clear hb HM2 x0 x1 f0 f1
    obtain ⟨⟨_, x0, x1⟩, f0, f1⟩ := boxD HR.out.2.2
    go_wp2_with fail
    refine (HD1.out _ _ HR.out.1).mono ?_
    rintro e y3 ⟨pa, pc, rfl, ht, hb⟩
    obtain ⟨y4, y5, hy4, hy5, hX4, hX5, hbf⟩ := dk_param y3 (.slice pa n1 pc) S1
    obtain ⟨⟨_, i0, i1⟩, j0, j1⟩ := boxD hX4
    obtain ⟨⟨_, k0, k1⟩, l1, l2⟩ := boxD hX5
    have HP : Hid (Rts y5 (.slice pa n1 pc) N1 ∧ y5.heap[y3.heap.size]? = some (dkO (.slice pa n1 pc) S1) ∧ w.heap.size ≤ y3.heap.size) := ⟨ht.rts.below hbf, hX5, Nat.le_trans HR.out.2.1.size hb.size⟩
    replace HR : Hid (Rts y5 (.slice xa n0 xc) l0 ∧ Below w.heap.size w y5 ∧ y5.heap[w.heap.size]? = some (dkO (.slice xa n0 xc) s0)) := ⟨HR.out.1.below (bsq hb hbf), bsq HR.out.2.1 (bsq hb hbf), keep HR.out.2.2 (bsq hb hbf)⟩
    clear HD1 ht hb hX4 hX5 hbf x0 x1 f0 f1
    obtain ⟨⟨_, x0, x1⟩, f0, f1⟩ := boxD HR.out.2.2
    go_wp2_with fail
    refine (HD2.out _ _ HR.out.1).mono ?_
    rintro e y6 ⟨qa, qc, rfl, ht, hb⟩
    obtain ⟨y7, y8, hy7, hy8, hX7, hX8, hbf⟩ := dk_param y6 (.slice qa n2 qc) S2
    clear i0 i1 j0 j1 k0 k1 l1 l2
    obtain ⟨⟨_, i0, i1⟩, j0, j1⟩ := boxD hX7
    obtain ⟨⟨_, k0, k1⟩, l1, l2⟩ := boxD hX8
    have HQ : Hid (Txs y8 y5.heap.size (.slice qa n2 qc) N2 ∧ y8.heap[y6.heap.size]? = some (dkO (.slice qa n2 qc) S2) ∧ y3.heap.size < y6.heap.size ∧ y3.heap.size < y5.heap.size) := ⟨ht.below hbf, hX8, Nat.lt_of_lt_of_le (Array.getElem?_eq_some_iff.1 HP.out.2.1).1 hb.size, (Array.getElem?_eq_some_iff.1 HP.out.2.1).1⟩
    replace HP : Hid (Rts y8 (.slice pa n1 pc) N1 ∧ y8.heap[y3.heap.size]? = some (dkO (.slice pa n1 pc) S1) ∧ w.heap.size ≤ y3.heap.size) := ⟨HP.out.1.below (bsq hb hbf), keep HP.out.2.1 (bsq hb hbf), HP.out.2.2⟩
    have HB : Hid (Below w.heap.size w y8) := bsq HR.out.2.1 (bsq hb hbf)
    clear HD2 ht hb hX7 hX8 hbf x0 x1 f0 f1 HR
    go_wp2_with fail
    refine (HLV.out _).mono ?_
    rintro e y9 ⟨rfl, hb⟩
    replace HP : Hid (Rts y9 (.slice pa n1 pc) N1 ∧ y9.heap[y3.heap.size]? = some (dkO (.slice pa n1 pc) S1) ∧ w.heap.size ≤ y3.heap.size) := ⟨HP.out.1.below hb, keep HP.out.2.1 hb, HP.out.2.2⟩
    replace HQ : Hid (Txs y9 y5.heap.size (.slice qa n2 qc) N2 ∧ y9.heap[y6.heap.size]? = some (dkO (.slice qa n2 qc) S2) ∧ y3.heap.size < y6.heap.size ∧ y3.heap.size < y5.heap.size) := ⟨HQ.out.1.below hb, keep HQ.out.2.1 hb, HQ.out.2.2⟩
    replace HB : Hid (Below w.heap.size w y9) := bsq HB.out hb
    clear hb i0 i1 j0 j1 k0 k1 l1 l2
    clear HP HQ
    go_wp2_with fail
    refine (HLV.out _).mono ?_
    rintro e z1 ⟨rfl, hb⟩
    replace HB : Hid (Below w.heap.size w z1) := bsq HB.out hb
    clear hb HLV
    go_wp2
    go_ret
    exact ⟨rfl, HB.out⟩
  have qK1 : K1 = 0 := Classical.not_not.1 qK1
  subst qK1
  by_cases qK2 : K2 ≠ 0
  · have eK2 : (K2 != 0) = true := by simp [qK2]
    clear qK2
    clear hK1 hK2 hC1 hC2 hN1 hN2 hS1 hS2 hT1 hT2 hz1 hz2 hz3 hk w5 w6
    generalize hn0 : l0.length = n0 at *
    generalize hn1 : N1.length = n1 at *
    generalize hn2 : N2.length = n2 at *
    generalize mkT 42 a1 a3 = Ca at *
    generalize mkT 42 a2 a4 = Cb at *
    go_enter Try.func8, Try.ntmps8
    go_wp2_with fail
    refine (HM1.out _).mono ?_
    rintro e y1 ⟨rfl, hb⟩
    replace HR : Hid (Rts y1 (.slice xa n0 xc) l0 ∧ Below w.heap.size w y1 ∧ y1.heap[w.heap.size]? = some (dkO (.slice xa n0 xc) s0)) := ⟨HR.out.1.below hb, bsq HR.out.2.1 hb, keep HR.out.2.2 hb⟩
    clear hb HM1
    go_wp2_with fail
    refine (HM2.out _).mono ?_
    rintro e y2 ⟨rfl, hb⟩
    replace HR : Hid (Rts y2 (.slice xa n0 xc) l0 ∧ Below w.heap.size w y2 ∧ y2.heap[w.heap.size]? = some (dkO (.slice xa n0 xc) s0)) := ⟨HR.out.1.below hb, bsq HR.out.2.1 hb, keep HR.out.2.2 hb⟩
    clear hb HM2 x0 x1 f0 f1
    obtain ⟨⟨_, x0, x1⟩, f0, f1⟩ := boxD HR.out.2.2
    go_wp2_with fail
    refine (HD1.out _ _ HR.out.1).mono ?_
    rintro e y3 ⟨pa, pc, rfl, ht, hb⟩
    obtain ⟨y4, y5, hy4, hy5, hX4, hX5, hbf⟩ := dk_param y3 (.slice pa n1 pc) S1
    obtain ⟨⟨_, i0, i1⟩, j0, j1⟩ := boxD hX4
    obtain ⟨⟨_, k0, k1⟩, l1, l2⟩ := boxD hX5
    have HP : Hid (Rts y5 (.slice pa n1 pc) N1 ∧ y5.heap[y3.heap.size]? = some (dkO (.slice pa n1 pc) S1) ∧ w.heap.size ≤ y3.heap.size) := ⟨ht.rts.below hbf, hX5, Nat.le_trans HR.out.2.1.size hb.size⟩
    replace HR : Hid (Rts y5 (.slice xa n0 xc) l0 ∧ Below w.heap.size w y5 ∧ y5.heap[w.heap.size]? = some (dkO (.slice xa n0 xc) s0)) := ⟨HR.out.1.below (bsq hb hbf), bsq HR.out.2.1 (bsq hb hbf), keep HR.out.2.2 (bsq hb hbf)⟩
    clear HD1 ht hb hX4 hX5 hbf x0 x1 f0 f1
    obtain ⟨⟨_, x0, x1⟩, f0, f1⟩ := boxD HR.out.2.2
    go_wp2_with fail
    refine (HD2.out _ _ HR.out.1).mono ?_
    rintro e y6 ⟨qa, qc, rfl, ht, hb⟩
    obtain ⟨y7, y8, hy7, hy8, hX7, hX8, hbf⟩ := dk_param y6 (.slice qa n2 qc) S2
    clear i0 i1 j0 j1 k0 k1 l1 l2
    obtain ⟨⟨_, i0, i1⟩, j0, j1⟩ := boxD hX7
    obtain ⟨⟨_, k0, k1⟩, l1, l2⟩ := boxD hX8
    have HQ : Hid (Txs y8 y5.heap.size (.slice qa n2 qc) N2 ∧ y8.heap[y6.heap.size]? = some (dkO (.slice qa n2 qc) S2) ∧ y3.heap.size < y6.heap.size ∧ y3.heap.size < y5.heap.size) := ⟨ht.below hbf, hX8, Nat.lt_of_lt_of_le (Array.getElem?_eq_some_iff.1 HP.out.2.1).1 hb.size, (Array.getElem?_eq_some_iff.1 HP.out.2.1).1⟩
    replace HP : Hid (Rts y8 (.slice pa n1 pc) N1 ∧ y8.heap[y3.heap.size]? = some (dkO (.slice pa n1 pc) S1) ∧ w.heap.size ≤ y3.heap.size) := ⟨HP.out.1.below (bsq hb hbf), keep HP.out.2.1 (bsq hb hbf), HP.out.2.2⟩
    have HB : Hid (Below w.heap.size w y8) := bsq HR.out.2.1 (bsq hb hbf)
    clear HD2 ht hb hX7 hX8 hbf x0 x1 f0 f1 HR
    go_wp2_with fail
    refine (HLV.out _).mono ?_
    rintro e y9 ⟨rfl, hb⟩
    replace HP : Hid (Rts y9 (.slice pa n1 pc) N1 ∧ y9.heap[y3.heap.size]? = some (dkO (.slice pa n1 pc) S1) ∧ w.heap.size ≤ y3.heap.size) := ⟨HP.out.1.below hb, keep HP.out.2.1 hb, HP.out.2.2⟩
    replace HQ : Hid (Txs y9 y5.heap.size (.slice qa n2 qc) N2 ∧ y9.heap[y6.heap.size]? = some (dkO (.slice qa n2 qc) S2) ∧ y3.heap.size < y6.heap.size ∧ y3.heap.size < y5.heap.size) := ⟨HQ.out.1.below hb, keep HQ.out.2.1 hb, HQ.out.2.2⟩
    replace HB : Hid (Below w.heap.size w y9) := bsq HB.out hb
    clear hb i0 i1 j0 j1 k0 k1 l1 l2
    clear HP HQ
    go_wp2_with fail
    refine (HLV.out _).mono ?_
    rintro e z1 ⟨rfl, hb⟩
    replace HB : Hid (Below w.heap.size w z1) := bsq HB.out hb
    clear hb HLV
    go_wp2
    go_ret
    exact ⟨rfl, HB.out⟩
  have qK2 : K2 = 0 := Classical.not_not.1 qK2
  subst qK2
  by_cases qC1 : C1 ≠ 0
  · have eC1 : (C1 != 0) = true := by simp [qC1]
    clear qC1
    clear hK1 hK2 hC1 hC2 hN1 hN2 hS1 hS2 hT1 hT2 hz1 hz2 hz3 hk w5 w6
    generalize hn0 : l0.length = n0 at *
    generalize hn1 : N1.length = n1 at *
    generalize hn2 : N2.length = n2 at *
    generalize mkT 42 a1 a3 = Ca at *
    generalize mkT 42 a2 a4 = Cb at *
    go_enter Try.func8, Try.ntmps8
    go_wp2_with fail
    refine (HM1.out _).mono ?_
    rintro e y1 ⟨rfl, hb⟩
    replace HR : Hid (Rts y1 (.slice xa n0 xc) l0 ∧ Below w.heap.size w y1 ∧ y1.heap[w.heap.size]? = some (dkO (.slice xa n0 xc) s0)) := ⟨HR.out.1.below hb, bsq HR.out.2.1 hb, keep HR.out.2.2 hb⟩
    clear hb HM1
    go_wp2_with fail
    refine (HM2.out _).mono ?_
    rintro e y2 ⟨rfl, hb⟩
    replace HR : Hid (Rts y2 (.slice xa n0 xc) l0 ∧ Below w.heap.size w y2 ∧ y2.heap[w.heap.size]? = some (dkO (.slice xa n0 xc) s0)) := ⟨HR.out.1.below hb, bsq HR.out.2.1 hb, keep HR.out.2.2 hb⟩
    clear hb HM2 x0 x1 f0 f1
    obtain ⟨⟨_, x0, x1⟩, f0, f1⟩ := boxD HR.out.2.2
    go_wp2_with fail
    refine (HD1.out _ _ HR.out.1).mono ?_
    rintro e y3 ⟨pa, pc, rfl, ht, hb⟩
    obtain ⟨y4, y5, hy4, hy5, hX4, hX5, hbf⟩ := dk_param y3 (.slice pa n1 pc) S1
    obtain ⟨⟨_, i0, i1⟩, j0, j1⟩ := boxD hX4
    obtain ⟨⟨_, k0, k1⟩, l1, l2⟩ := boxD hX5
    have HP : Hid (Rts y5 (.slice pa n1 pc) N1 ∧ y5.heap[y3.heap.size]? = some (dkO (.slice pa n1 pc) S1) ∧ w.heap.size ≤ y3.heap.size) := ⟨ht.rts.below hbf, hX5, Nat.le_trans HR.out.2.1.size hb.size⟩
    replace HR : Hid (Rts y5 (.slice xa n0 xc) l0 ∧ Below w.heap.size w y5 ∧ y5.heap[w.heap.size]? = some (dkO (.slice xa n0 xc) s0)) := ⟨HR.out.1.below (bsq hb hbf), bsq HR.out.2.1 (bsq hb hbf), keep HR.out.2.2 (bsq hb hbf)⟩
    clear HD1 ht hb hX4 hX5 hbf x0 x1 f0 f1
    obtain ⟨⟨_, x0, x1⟩, f0, f1⟩ := boxD HR.out.2.2
    go_wp2_with fail
    refine (HD2.out _ _ HR.out.1).mono ?_
    rintro e y6 ⟨qa, qc, rfl, ht, hb⟩
    obtain ⟨y7, y8, hy7, hy8, hX7, hX8, hbf⟩ := dk_param y6 (.slice qa n2 qc) S2
    clear i0 i1 j0 j1 k0 k1 l1 l2
    obtain ⟨⟨_, i0, i1⟩, j0, j1⟩ := boxD hX7
    obtain ⟨⟨_, k0, k1⟩, l1, l2⟩ := boxD hX8
    have HQ : Hid (Txs y8 y5.heap.size (.slice qa n2 qc) N2 ∧ y8.heap[y6.heap.size]? = some (dkO (.slice qa n2 qc) S2) ∧ y3.heap.size < y6.heap.size ∧ y3.heap.size < y5.heap.size) := ⟨ht.below hbf, hX8, Nat.lt_of_lt_of_le (Array.getElem?_eq_some_iff.1 HP.out.2.1).1 hb.size, (Array.getElem?_eq_some_iff.1 HP.out.2.1).1⟩
    replace HP : Hid (Rts y8 (.slice pa n1 pc) N1 ∧ y8.heap[y3.heap.size]? = some (dkO (.slice pa n1 pc) S1) ∧ w.heap.size ≤ y3.heap.size) := ⟨HP.out.1.below (bsq hb hbf), keep HP.out.2.1 (bsq hb hbf), HP.out.2.2⟩
    have HB : Hid (Below w.heap.size w y8) := bsq HR.out.2.1 (bsq hb hbf)
    clear HD2 ht hb hX7 hX8 hbf x0 x1 f0 f1 HR
    go_wp2_with fail
    refine (HLV.out _).mono ?_
    rintro e y9 ⟨rfl, hb⟩
    replace HP : Hid (Rts y9 (.slice pa n1 pc) N1 ∧ y9.heap[y3.heap.size]? = some (dkO (.slice pa n1 pc) S1) ∧ w.heap.size ≤ y3.heap.size) := ⟨HP.out.1.below hb, keep HP.out.2.1 hb, HP.out.2.2⟩
    replace HQ : Hid (Txs y9 y5.heap.size (.slice qa n2 qc) N2 ∧ y9.heap[y6.heap.size]? = some (dkO (.slice qa n2 qc) S2) ∧ y3.heap.size < y6.heap.size ∧ y3.heap.size < y5.heap.size) := ⟨HQ.out.1.below hb, keep HQ.out.2.1 hb, HQ.out.2.2⟩
    replace HB : Hid (Below w.heap.size w y9) := bsq HB.out hb
    clear hb i0 i1 j0 j1 k0 k1 l1 l2
    clear HP HQ
    go_wp2_with fail
    refine (HLV.out _).mono ?_
    rintro e z1 ⟨rfl, hb⟩
    replace HB : Hid (Below w.heap.size w z1) := bsq HB.out hb
    clear hb HLV
    go_wp2
    go_ret
    exact ⟨rfl, HB.out⟩
  have qC1 : C1 = 0 := Classical.not_not.1 qC1
  subst qC1
  by_cases qC2 : C2 ≠ 0
  · have eC2 : (C2 != 0) = true := by simp [qC2]
    clear qC2
    clear hK1 hK2 hC1 hC2 hN1 hN2 hS1 hS2 hT1 hT2 hz1 hz2 hz3 hk w5 w6
    generalize hn0 : l0.length = n0 at *
    generalize hn1 : N1.length = n1 at *
    generalize hn2 : N2.length = n2 at *
    generalize mkT 42 a1 a3 = Ca at *
    generalize mkT 42 a2 a4 = Cb at *
    go_enter Try.func8, Try.ntmps8
    go_wp2_with fail
    refine (HM1.out _).mono ?_
    rintro e y1 ⟨rfl, hb⟩
    replace HR : Hid (Rts y1 (.slice xa n0 xc) l0 ∧ Below w.heap.size w y1 ∧ y1.heap[w.heap.size]? = some (dkO (.slice xa n0 xc) s0)) := ⟨HR.out.1.below hb, bsq HR.out.2.1 hb, keep HR.out.2.2 hb⟩
    clear hb HM1
    go_wp2_with fail
    refine (HM2.out _).mono ?_
    rintro e y2 ⟨rfl, hb⟩
    replace HR : Hid (Rts y2 (.slice xa n0 xc) l0 ∧ Below w.heap.size w y2 ∧ y2.heap[w.heap.size]? = some (dkO (.slice xa n0 xc) s0)) := ⟨HR.out.1.below hb, bsq HR.out.2.1 hb, keep HR.out.2.2 hb⟩
    clear hb HM2 x0 x1 f0 f1
    obtain ⟨⟨_, x0, x1⟩, f0, f1⟩ := boxD HR.out.2.2
    go_wp2_with fail
    refine (HD1.out _ _ HR.out.1).mono ?_
    rintro e y3 ⟨pa, pc, rfl, ht, hb⟩
    obtain ⟨y4, y5, hy4, hy5, hX4, hX5, hbf⟩ := dk_param y3 (.slice pa n1 pc) S1
    obtain ⟨⟨_, i0, i1⟩, j0, j1⟩ := boxD hX4
    obtain ⟨⟨_, k0, k1⟩, l1, l2⟩ := boxD hX5
    have HP : Hid (Rts y5 (.slice pa n1 pc) N1 ∧ y5.heap[y3.heap.size]? = some (dkO (.slice pa n1 pc) S1) ∧ w.heap.size ≤ y3.heap.size) := ⟨ht.rts.below hbf, hX5, Nat.le_trans HR.out.2.1.size hb.size⟩
    replace HR : Hid (Rts y5 (.slice xa n0 xc) l0 ∧ Below w.heap.size w y5 ∧ y5.heap[w.heap.size]? = some (dkO (.slice xa n0 xc) s0)) := ⟨HR.out.1.below (bsq hb hbf), bsq HR.out.2.1 (bsq hb hbf), keep HR.out.2.2 (bsq hb hbf)⟩
    clear HD1 ht hb hX4 hX5 hbf x0 x1 f0 f1
    obtain ⟨⟨_, x0, x1⟩, f0, f1⟩ := boxD HR.out.2.2
    go_wp2_with fail
    refine (HD2.out _ _ HR.out.1).mono ?_
    rintro e y6 ⟨qa, qc, rfl, ht, hb⟩
    obtain ⟨y7, y8, hy7, hy8, hX7, hX8, hbf⟩ := dk_param y6 (.slice qa n2 qc) S2
    clear i0 i1 j0 j1 k0 k1 l1 l2
    obtain ⟨⟨_, i0, i1⟩, j0, j1⟩ := boxD hX7
    obtain ⟨⟨_, k0, k1⟩, l1, l2⟩ := boxD hX8
    have HQ : Hid (Txs y8 y5.heap.size (.slice qa n2 qc) N2 ∧ y8.heap[y6.heap.size]? = some (dkO (.slice qa n2 qc) S2) ∧ y3.heap.size < y6.heap.size ∧ y3.heap.size < y5.heap.size) := ⟨ht.below hbf, hX8, Nat.lt_of_lt_of_le (Array.getElem?_eq_some_iff.1 HP.out.2.1).1 hb.size, (Array.getElem?_eq_some_iff.1 HP.out.2.1).1⟩
    replace HP : Hid (Rts y8 (.slice pa n1 pc) N1 ∧ y8.heap[y3.heap.size]? = some (dkO (.slice pa n1 pc) S1) ∧ w.heap.size ≤ y3.heap.size) := ⟨HP.out.1.below (bsq hb hbf), keep HP.out.2.1 (bsq hb hbf), HP.out.2.2⟩
    have HB : Hid (Below w.heap.size w y8) := bsq HR.out.2.1 (bsq hb hbf)
    clear HD2 ht hb hX7 hX8 hbf x0 x1 f0 f1 HR
    go_wp2_with fail
    refine (HLV.out _).mono ?_
    rintro e y9 ⟨rfl, hb⟩
    replace HP : Hid (Rts y9 (.slice pa n1 pc) N1 ∧ y9.heap[y3.heap.size]? = some (dkO (.slice pa n1 pc) S1) ∧ w.heap.size ≤ y3.heap.size) := ⟨HP.out.1.below hb, keep HP.out.2.1 hb, HP.out.2.2⟩
    replace HQ : Hid (Txs y9 y5.heap.size (.slice qa n2 qc) N2 ∧ y9.heap[y6.heap.size]? = some (dkO (.slice qa n2 qc) S2) ∧ y3.heap.size < y6.heap.size ∧ y3.heap.size < y5.heap.size) := ⟨HQ.out.1.below hb, keep HQ.out.2.1 hb, HQ.out.2.2⟩
    replace HB : Hid (Below w.heap.size w y9) := bsq HB.out hb
    clear hb i0 i1 j0 j1 k0 k1 l1 l2
    clear HP HQ
    go_wp2_with fail
    refine (HLV.out _).mono ?_
    rintro e z1 ⟨rfl, hb⟩
    replace HB : Hid (Below w.heap.size w z1) := bsq HB.out hb
    clear hb HLV
    go_wp2
    go_ret
    exact ⟨rfl, HB.out⟩
  have qC2 : C2 = 0 := Classical.not_not.1 qC2
  subst qC2
  have m1 := mk_code.1 hK1
  have m2 := mk_code.1 hK2
  have m3 : mkB 40 a2 a4 = true := (mk_both 40 42 a2 a4 rfl rfl).trans m2
  obtain ⟨r1, r2, r3, r4⟩ := mk_range m1
  obtain ⟨r5, r6, r7, r8⟩ := mk_range m2
  obtain ⟨h0, fit1, sz1, dd1, tt1⟩ := write_do m1 hC1
  obtain ⟨_, fit2, sz2, dd2, tt2⟩ := write_do m2 hC2
  have hS1' : S1 = 0 := by rw [← hS1, dd1]
  have hS2' : S2 = 0 := by rw [← hS2, dd2]
  subst hS1' hS2'
  have hN1' : N1 = wrB l0 a1.toNat a3.toNat a5 := by rw [← hN1, dd1]
  have hN2' : N2 = wrB l0 a2.toNat a4.toNat a6 := by rw [← hN2, dd2]
  have hl1 : N1.length = l0.length := by rw [hN1']; exact wr_length fit1
  have hl2 : N2.length = l0.length := by rw [hN2']; exact wr_length fit2
  have c1 : chkC ⟨N1, 0⟩ = 0 := by rw [hN1']; exact wr_right (d := ⟨l0, s0⟩) h0 fit1 sz1
  have c2 : chkC ⟨N2, 0⟩ = 0 := by rw [hN2']; exact wr_right (d := ⟨l0, s0⟩) h0 fit2 sz2
  have k3 := write_ok (d := ⟨N1, 0⟩) m2 c1 (by show _ ≤ N1.length; rw [hl1]; exact fit2) sz2
  have k4 := write_ok (d := ⟨N2, 0⟩) m1 c2 (by show _ ≤ N2.length; rw [hl2]; exact fit1) sz1
  obtain ⟨_, fit3, _, dd3, tt3⟩ := write_do m2 k3
  obtain ⟨_, fit4, _, dd4, tt4⟩ := write_do m1 k4
  obtain ⟨N3, hN3⟩ : ∃ N, wrB N1 a2.toNat a4.toNat a6 = N := ⟨_, rfl⟩
  obtain ⟨N4, hN4⟩ : ∃ N, wrB N2 a1.toNat a3.toNat a5 = N := ⟨_, rfl⟩
  have hl3 : N3.length = l0.length := by rw [← hN3, wr_length fit3]; exact hl1
  have hl4 : N4.length = l0.length := by rw [← hN4, wr_length fit4]; exact hl2
  have c3 : chkC ⟨N3, 0⟩ = 0 := by rw [← hN3]; exact wr_right (d := ⟨N1, 0⟩) c1 fit3 sz2
  have k5 := read_ok (d := ⟨N3, 0⟩) (x := ⟨#[]⟩) m3 c3 (by show _ ≤ N3.length; rw [hl3]; exact fit2)
  have hT5 : cat ((N3.drop a2.toNat).take a4.toNat) = a6 := by rw [← hN3]; exact wr_read fit3 sz2
  have hl64 : l0.length ≤ 64 := ((chk_iff _).1 h0).2.1
  have HSM : Hid (¬ (a1 < a2 + a4 ∧ a2 < a1 + a3) → N3 = N4) := fun q => by
    rw [← hN3, ← hN4, hN1', hN2']
    exact wr_comm fit1 fit2 (by omega)
  have HD3 : Hid (∀ v u, Rts u v N1 → Calls Try.prog 17 #[dkV v 0, .string (mkT 42 a2 a4), .string a6] u fun e w' => ∃ a cp, e = .returned (.tuple #[dkV (.slice a N3.length cp) 0, .string ⟨#[]⟩, .int .i64 0]) ∧ Txs w' u.heap.size (.slice a N3.length cp) N3 ∧ Below u.heap.size u w') := fun v u h => do_named v ⟨N1, 0⟩ (mkT 42 a2 a4) a6 (by unfold reachBytes; show N1.length * 16 ≤ _; omega) hz2 w6 ⟨#[]⟩ 0 N3 0 tt3 k3 (by rw [dd3]; exact hN3) (by rw [dd3]) u h
  have HD4 : Hid (∀ v u, Rts u v N2 → Calls Try.prog 17 #[dkV v 0, .string (mkT 42 a1 a3), .string a5] u fun e w' => ∃ a cp, e = .returned (.tuple #[dkV (.slice a N4.length cp) 0, .string ⟨#[]⟩, .int .i64 0]) ∧ Txs w' u.heap.size (.slice a N4.length cp) N4 ∧ Below u.heap.size u w') := fun v u h => do_named v ⟨N2, 0⟩ (mkT 42 a1 a3) a5 (by unfold reachBytes; show N2.length * 16 ≤ _; omega) hz1 w5 ⟨#[]⟩ 0 N4 0 tt4 k4 (by rw [dd4]; exact hN4) (by rw [dd4]) u h
  have HD5 : Hid (∀ v u, Rts u v N3 → Calls Try.prog 17 #[dkV v 0, .string (mkT 40 a2 a4), .string ⟨#[]⟩] u fun e w' => ∃ a cp, e = .returned (.tuple #[dkV (.slice a N3.length cp) 0, .string a6, .int .i64 0]) ∧ Txs w' u.heap.size (.slice a N3.length cp) N3 ∧ Below u.heap.size u w') := fun v u h => do_named v ⟨N3, 0⟩ (mkT 40 a2 a4) ⟨#[]⟩ (by unfold reachBytes; show N3.length * 16 ≤ _; omega) hz3 (by decide) a6 0 N3 0 (k5.2.2.trans hT5) k5.1 (by rw [k5.2.1]) (by rw [k5.2.1]) u h
  have HM3 : Hid (∀ u, Calls Try.prog 12 #[.int .i64 40, .int .i64 a2, .int .i64 a4] u fun e w' => e = .returned (.tuple #[.string (mkT 40 a2 a4), .int .i64 0]) ∧ Below u.heap.size u w') := fun u => by
    have := make_any 40 a2 a4 u
    rw [mk_code.2 m3] at this
    exact this
  have hne := toList_bne a6 a6
  rw [decide_eq_true rfl] at hne
  rw [hl1] at HD1
  rw [hl2] at HD2
  rw [hl3] at HD3 HD5
  rw [hl4] at HD4
  clear m1 m2 m3 h0 fit1 sz1 dd1 tt1 fit2 sz2 dd2 tt2 hN1' hN2' hl1 hl2 c1 c2 k3 k4 fit3 dd3 tt3 fit4 dd4 tt4 hN3 hN4 hl3 hl4 c3 k5 hT5
  clear hK1 hK2 hC1 hC2 hN1 hN2 hS1 hS2 hT1 hT2 hz1 hz2 hz3 hk w5 w6
  generalize hn0 : l0.length = n0 at *
  generalize mkT 42 a1 a3 = Ca at *
  generalize mkT 42 a2 a4 = Cb at *
  generalize mkT 40 a2 a4 = Cc at *
  go_enter Try.func8, Try.ntmps8
  go_wp2_with fail
  refine (HM1.out _).mono ?_
  rintro e y1 ⟨rfl, hb⟩
  replace HR : Hid (Rts y1 (.slice xa n0 xc) l0 ∧ Below w.heap.size w y1 ∧ y1.heap[w.heap.size]? = some (dkO (.slice xa n0 xc) s0)) := ⟨HR.out.1.below hb, bsq HR.out.2.1 hb, keep HR.out.2.2 hb⟩
  clear hb HM1
  go_wp2_with fail
  refine (HM2.out _).mono ?_
  rintro e y2 ⟨rfl, hb⟩
  replace HR : Hid (Rts y2 (.slice xa n0 xc) l0 ∧ Below w.heap.size w y2 ∧ y2.heap[w.heap.size]? = some (dkO (.slice xa n0 xc) s0)) := ⟨HR.out.1.below hb, bsq HR.out.2.1 hb, keep HR.out.2.2 hb⟩
  clear hb HM2 x0 x1 f0 f1
  obtain ⟨⟨_, x0, x1⟩, f0, f1⟩ := boxD HR.out.2.2
  go_wp2_with fail
  refine (HD1.out _ _ HR.out.1).mono ?_
  rintro e y3 ⟨pa, pc, rfl, ht, hb⟩
  obtain ⟨y4, y5, hy4, hy5, hX4, hX5, hbf⟩ := dk_param y3 (.slice pa n0 pc) 0
  obtain ⟨⟨_, i0, i1⟩, j0, j1⟩ := boxD hX4
  obtain ⟨⟨_, k0, k1⟩, l1, l2⟩ := boxD hX5
  have HP : Hid (Rts y5 (.slice pa n0 pc) N1 ∧ y5.heap[y3.heap.size]? = some (dkO (.slice pa n0 pc) 0) ∧ w.heap.size ≤ y3.heap.size) := ⟨ht.rts.below hbf, hX5, Nat.le_trans HR.out.2.1.size hb.size⟩
  replace HR : Hid (Rts y5 (.slice xa n0 xc) l0 ∧ Below w.heap.size w y5 ∧ y5.heap[w.heap.size]? = some (dkO (.slice xa n0 xc) s0)) := ⟨HR.out.1.below (bsq hb hbf), bsq HR.out.2.1 (bsq hb hbf), keep HR.out.2.2 (bsq hb hbf)⟩
  clear HD1 ht hb hX4 hX5 hbf x0 x1 f0 f1
  obtain ⟨⟨_, x0, x1⟩, f0, f1⟩ := boxD HR.out.2.2
  go_wp2_with fail
  refine (HD2.out _ _ HR.out.1).mono ?_
  rintro e y6 ⟨qa, qc, rfl, ht, hb⟩
  obtain ⟨y7, y8, hy7, hy8, hX7, hX8, hbf⟩ := dk_param y6 (.slice qa n0 qc) 0
  clear i0 i1 j0 j1 k0 k1 l1 l2
  obtain ⟨⟨_, i0, i1⟩, j0, j1⟩ := boxD hX7
  obtain ⟨⟨_, k0, k1⟩, l1, l2⟩ := boxD hX8
  have HQ : Hid (Txs y8 y5.heap.size (.slice qa n0 qc) N2 ∧ y8.heap[y6.heap.size]? = some (dkO (.slice qa n0 qc) 0) ∧ y3.heap.size < y6.heap.size ∧ y3.heap.size < y5.heap.size) := ⟨ht.below hbf, hX8, Nat.lt_of_lt_of_le (Array.getElem?_eq_some_iff.1 HP.out.2.1).1 hb.size, (Array.getElem?_eq_some_iff.1 HP.out.2.1).1⟩
  replace HP : Hid (Rts y8 (.slice pa n0 pc) N1 ∧ y8.heap[y3.heap.size]? = some (dkO (.slice pa n0 pc) 0) ∧ w.heap.size ≤ y3.heap.size) := ⟨HP.out.1.below (bsq hb hbf), keep HP.out.2.1 (bsq hb hbf), HP.out.2.2⟩
  have HB : Hid (Below w.heap.size w y8) := bsq HR.out.2.1 (bsq hb hbf)
  clear HD2 ht hb hX7 hX8 hbf x0 x1 f0 f1 HR
  go_wp2_with fail
  refine (HLV.out _).mono ?_
  rintro e y9 ⟨rfl, hb⟩
  replace HP : Hid (Rts y9 (.slice pa n0 pc) N1 ∧ y9.heap[y3.heap.size]? = some (dkO (.slice pa n0 pc) 0) ∧ w.heap.size ≤ y3.heap.size) := ⟨HP.out.1.below hb, keep HP.out.2.1 hb, HP.out.2.2⟩
  replace HQ : Hid (Txs y9 y5.heap.size (.slice qa n0 qc) N2 ∧ y9.heap[y6.heap.size]? = some (dkO (.slice qa n0 qc) 0) ∧ y3.heap.size < y6.heap.size ∧ y3.heap.size < y5.heap.size) := ⟨HQ.out.1.below hb, keep HQ.out.2.1 hb, HQ.out.2.2⟩
  replace HB : Hid (Below w.heap.size w y9) := bsq HB.out hb
  clear hb i0 i1 j0 j1 k0 k1 l1 l2
  clear HLV
  have HQ9 := HQ
  obtain ⟨⟨_, x0, x1⟩, f0, f1⟩ := boxD HP.out.2.1
  go_wp2_with fail
  refine (HD3.out _ _ HP.out.1).mono ?_
  rintro e z1 ⟨pb, pd, rfl, ht, hb⟩
  have hX1 := keep HP.out.2.1 hb
  clear x0 x1 f0 f1
  obtain ⟨⟨_, x0, x1⟩, f0, f1⟩ := boxD hX1
  obtain ⟨z2, hz2, hX2, hBf, hkf, hsf⟩ := dk_put z1 y3.heap.size _ _ (.slice pb n0 pd) 0 hX1
  obtain ⟨⟨_, i0, i1⟩, j0, j1⟩ := boxD hX2
  have hTx : Txs z2 y9.heap.size (.slice pb n0 pd) N3 := by rw [← hz2]; exact txs_setX (txs_setX ht (Array.getElem?_eq_some_iff.1 HP.out.2.1).1 _ _) (Array.getElem?_eq_some_iff.1 HP.out.2.1).1 _ _
  have hQb : z2.heap[y6.heap.size]? = some (dkO (.slice qa n0 qc) 0) := (hkf _ (by have := HQ.out.2.2; omega)).trans (keep HQ.out.2.1 hb)
  have hQr : Txs z2 y5.heap.size (.slice qa n0 qc) N2 := by rw [← hz2]; exact txs_setX (txs_setX (HQ.out.1.below hb) HQ.out.2.2.2 _ _) HQ.out.2.2.2 _ _
  replace HB : Hid (Below w.heap.size w z2) := hBf _ _ HP.out.2.2 (bsq HB.out hb)
  replace HQ : Hid (Txs z2 y5.heap.size (.slice qa n0 qc) N2 ∧ z2.heap[y6.heap.size]? = some (dkO (.slice qa n0 qc) 0) ∧ y3.heap.size < y6.heap.size) := ⟨hQr, hQb, HQ.out.2.2.1⟩
  have hy69 : y6.heap.size < y9.heap.size := (Array.getElem?_eq_some_iff.1 HQ9.out.2.1).1
  have HP2 : Hid (Txs z2 y9.heap.size (.slice pb n0 pd) N3 ∧ z2.heap[y3.heap.size]? = some (dkO (.slice pb n0 pd) 0) ∧ w.heap.size ≤ y3.heap.size ∧ y6.heap.size < y9.heap.size) := ⟨hTx, hX2, HP.out.2.2, hy69⟩
  clear HD3 hX1 hX2 hBf hkf hsf hTx hQb hQr ht hb HP HQ9 hy69
  obtain ⟨⟨_, k0, k1⟩, l1, l2⟩ := boxD HQ.out.2.1
  go_wp2_with fail
  try rw [hz2]
  refine (HD4.out _ _ HQ.out.1.rts).mono ?_
  rintro e z3 ⟨qb, qd, rfl, ht, hb⟩
  have hX1 := keep HQ.out.2.1 hb
  clear x0 x1 f0 f1 i0 i1 j0 j1 k0 k1 l1 l2 hz2
  obtain ⟨⟨_, x0, x1⟩, f0, f1⟩ := boxD hX1
  obtain ⟨z4, hz4, hX2, hBf, hkf, hsf⟩ := dk_put z3 y6.heap.size _ _ (.slice qb n0 qd) 0 hX1
  obtain ⟨⟨_, i0, i1⟩, j0, j1⟩ := boxD hX2
  have h6 : y6.heap.size < z2.heap.size := (Array.getElem?_eq_some_iff.1 HQ.out.2.1).1
  have hTx : Txs z4 z2.heap.size (.slice qb n0 qd) N4 := by rw [← hz4]; exact txs_setX (txs_setX ht h6 _ _) h6 _ _
  have hPb : z4.heap[y3.heap.size]? = some (dkO (.slice pb n0 pd) 0) := (hkf _ (by have := HQ.out.2.2; omega)).trans (keep HP2.out.2.1 hb)
  have hPr : Txs z4 y9.heap.size (.slice pb n0 pd) N3 := by rw [← hz4]; exact txs_setX (txs_setX (HP2.out.1.below hb) HP2.out.2.2.2 _ _) HP2.out.2.2.2 _ _
  have HF : Hid (Below w.heap.size w z4 ∧ Rts z4 (.slice pb n0 pd) N3 ∧ Rts z4 (.slice qb n0 qd) N4 ∧ z4.heap[y3.heap.size]? = some (dkO (.slice pb n0 pd) 0) ∧ z4.heap[y6.heap.size]? = some (dkO (.slice qb n0 qd) 0)) := ⟨hBf _ _ (by have := HP2.out.2.2.1; have := HQ.out.2.2; omega) (bsq HB.out hb), hPr.rts, hTx.rts, hPb, hX2⟩
  clear HD4 hX1 hX2 hBf hkf hsf h6 hTx hPb hPr ht hb HP2 HQ HB
  go_wp2_with fail
  try rw [hz4]
  refine (HM3.out _).mono ?_
  rintro e z5 ⟨rfl, hb⟩
  replace HF : Hid (Below w.heap.size w z5 ∧ Rts z5 (.slice pb n0 pd) N3 ∧ Rts z5 (.slice qb n0 qd) N4 ∧ z5.heap[y3.heap.size]? = some (dkO (.slice pb n0 pd) 0) ∧ z5.heap[y6.heap.size]? = some (dkO (.slice qb n0 qd) 0)) := ⟨bsq HF.out.1 hb, HF.out.2.1.below hb, HF.out.2.2.1.below hb, keep HF.out.2.2.2.1 hb, keep HF.out.2.2.2.2 hb⟩
  clear HM3 hb x0 x1 f0 f1 i0 i1 j0 j1 hz4
  obtain ⟨⟨_, x0, x1⟩, f0, f1⟩ := boxD HF.out.2.2.2.1
  go_wp2_with fail
  refine (HD5.out _ _ HF.out.2.1).mono ?_
  rintro e z6 ⟨ra, rc, rfl, ht, hb⟩
  obtain ⟨z7, z8, hz7, hz8, hX7, hX8, hbf⟩ := dk_param z6 (.slice ra n0 rc) 0
  obtain ⟨⟨_, i0, i1⟩, j0, j1⟩ := boxD hX7
  obtain ⟨⟨_, k0, k1⟩, l1, l2⟩ := boxD hX8
  replace HF : Hid (Below w.heap.size w z8 ∧ Rts z8 (.slice pb n0 pd) N3 ∧ Rts z8 (.slice qb n0 qd) N4 ∧ z8.heap[y3.heap.size]? = some (dkO (.slice pb n0 pd) 0) ∧ z8.heap[y6.heap.size]? = some (dkO (.slice qb n0 qd) 0)) := ⟨bsq HF.out.1 (bsq hb hbf), HF.out.2.1.below (bsq hb hbf), HF.out.2.2.1.below (bsq hb hbf), keep HF.out.2.2.2.1 (bsq hb hbf), keep HF.out.2.2.2.2 (bsq hb hbf)⟩
  clear HD5 ht hb hX7 hX8 hbf x0 x1 f0 f1
  obtain ⟨⟨_, x0, x1⟩, f0, f1⟩ := boxD HF.out.2.2.2.1
  obtain ⟨⟨_, p0, p1⟩, _⟩ := boxD HF.out.2.2.2.2
  by_cases qo : a1 < a2 + a4 ∧ a2 < a1 + a3
  · obtain ⟨qo1, qo2⟩ := qo
    have d1 : decide (a1 < a2 + a4) = true := decide_eq_true qo1
    have d2 : decide (a2 < a1 + a3) = true := decide_eq_true qo2
    clear qo1 qo2 HSM
    go_wp2
    go_ret
    exact ⟨rfl, HF.out.1⟩
  · have HE : Hid (Calls Try.prog 14 #[dkV (.slice pb n0 pd) 0, dkV (.slice qb n0 qd) 0] z8 fun e w' => e = .returned (.bool true) ∧ Below z8.heap.size z8 w') := by
      have := same_any _ _ N3 N4 0 0 z8 HF.out.2.1 HF.out.2.2.1
      rw [decide_eq_true rfl, decide_eq_true (HSM.out qo)] at this
      exact this
    clear HSM
    by_cases qo1 : a1 < a2 + a4
    · have d1 : decide (a1 < a2 + a4) = true := decide_eq_true qo1
      have d2 : decide (a2 < a1 + a3) = false := decide_eq_false (fun q => qo ⟨qo1, q⟩)
      clear qo1 qo
      go_wp2_with fail
      refine HE.out.mono ?_
      rintro e z9 ⟨rfl, hb⟩
      have HB9 : Hid (Below w.heap.size w z9) := bsq HF.out.1 hb
      clear hb HE HF
      go_wp2
      go_ret
      exact ⟨rfl, HB9.out⟩
    · have d1 : decide (a1 < a2 + a4) = false := decide_eq_false qo1
      clear qo1 qo
      go_wp2_with fail
      refine HE.out.mono ?_
      rintro e z9 ⟨rfl, hb⟩
      have HB9 : Hid (Below w.heap.size w z9) := bsq HF.out.1 hb
      clear hb HE HF
      go_wp2
      go_ret
      exact ⟨rfl, HB9.out⟩
end Go.Proofs.Ytjmbklbobofciaa.scsiTwo
