/- ScsiBack: the walk. -/
import Derived.Test.YtjmbklbobofciaaScsV
import Derived.Test.YtjmbklbobofciaaScsD
import Derived.BigQuiet
namespace Go.Proofs.Ytjmbklbobofciaa.scsiBack
open Go.RowKit Go.PlainAid Go.Proofs.Ytjmbklbobofciaa.lane Go.Proofs.Ytjmbklbobofciaa.pipe Go.Proofs.Ytjmbklbobofciaa.strike Go.Proofs.Ytjmbklbobofciaa.scsi
set_option linter.unusedVariables false
set_option linter.unusedSimpArgs false
set_option maxRecDepth 100000

set_option maxHeartbeats 8000000 in
theorem walk (x0 : Value) (l0 : List ByteArray) (s0 : Int) (a1 a2 : Int) (a3 : ByteArray) (w1 : (Lit.int .i64 a1).wf = true) (w2 : (Lit.int .i64 a2).wf = true) (w3 : a3.size ≤ maxLen) (w : World) (hp : Rts w x0 l0) (hk : l0.length * 16 ≤ reachBytes) :
    Calls Try.prog 5 #[dkV x0 s0, .int .i64 a1, .int .i64 a2, .string a3] w fun e w' => e = .returned (.bool true) ∧ Below w.heap.size w w' := by
  clear w1 w2
  have hmb := mk_both 42 40 a1 a2 rfl rfl
  have hcz := mk_max 42 a1 a2
  have hcr := mk_max 40 a1 a2
  have hkk : mkC 42 a1 a2 = mkC 40 a1 a2 := by unfold mkC; rw [hmb]
  obtain ⟨K, hK⟩ : ∃ K, mkC 40 a1 a2 = K := ⟨_, rfl⟩
  rw [hK] at hkk
  have HM42 : Hid (∀ u, Calls Try.prog 12 #[.int .i64 42, .int .i64 a1, .int .i64 a2] u fun e w' => e = .returned (.tuple #[.string (mkT 42 a1 a2), .int .i64 K]) ∧ Below u.heap.size u w') := fun u => by
    have := make_any 42 a1 a2 u
    rw [hkk] at this
    exact this
  have HM40 : Hid (∀ u, Calls Try.prog 12 #[.int .i64 40, .int .i64 a1, .int .i64 a2] u fun e w' => e = .returned (.tuple #[.string (mkT 40 a1 a2), .int .i64 K]) ∧ Below u.heap.size u w') := fun u => by
    have := make_any 40 a1 a2 u
    rw [hK] at this
    exact this
  have HLV : Hid (∀ u, Calls Try.prog 19 #[] u fun e w' => e = .returned (.bool true) ∧ Below u.heap.size u w') := fun u => lives_any u
  obtain ⟨xa, xc, rfl, _, _⟩ := rts_form hp
  obtain ⟨u0, hu0, hX0, hb0⟩ := dk_named w (.slice xa l0.length xc) s0
  obtain ⟨⟨_, x0, x1⟩, f0, f1⟩ := boxD hX0
  have HR : Hid (Rts u0 (.slice xa l0.length xc) l0 ∧ Below w.heap.size w u0 ∧ u0.heap[w.heap.size]? = some (dkO (.slice xa l0.length xc) s0)) := ⟨hp.below hb0, hb0, hX0⟩
  clear hp hX0 hb0
  by_cases hK0 : K ≠ 0
  · have e1 : (K != 0) = true := by simp [hK0]
    clear hk hK hkk hK0 hmb
    generalize mkT 42 a1 a2 = Cw at *
    generalize mkT 40 a1 a2 = Cr at *
    go_enter Try.func5, Try.ntmps5
    go_wp2_with fail
    refine (HM42.out _).mono ?_
    rintro e u ⟨rfl, hb⟩
    have HB1 : Hid (Below w.heap.size w u) := bsq HR.out.2.1 hb
    clear hb HM42 HR
    go_wp2_with fail
    refine (HM40.out _).mono ?_
    rintro e u2 ⟨rfl, hb⟩
    have HB2 : Hid (Below w.heap.size w u2) := bsq HB1.out hb
    clear hb HM40 HB1
    go_wp2_with fail
    refine (HLV.out _).mono ?_
    rintro e u3 ⟨rfl, hb⟩
    have HB3 : Hid (Below w.heap.size w u3) := bsq HB2.out hb
    clear hb HB2
    go_wp2_with fail
    refine (HLV.out _).mono ?_
    rintro e u4 ⟨rfl, hb⟩
    have HB4 : Hid (Below w.heap.size w u4) := bsq HB3.out hb
    clear hb HB3
    go_wp2
    go_ret
    exact ⟨rfl, HB4.out⟩
  have hK0 : K = 0 := Classical.not_not.1 hK0
  subst hK0
  have hm42 := mk_code.1 hkk
  have hm40 := mk_code.1 hK
  obtain ⟨r1, r2, r3, r4⟩ := mk_range hm42
  obtain ⟨T, hT⟩ : ∃ T, doT ⟨l0, s0⟩ (mkT 42 a1 a2) a3 = T := ⟨_, rfl⟩
  obtain ⟨C, hC⟩ : ∃ C, doC ⟨l0, s0⟩ (mkT 42 a1 a2) a3 = C := ⟨_, rfl⟩
  obtain ⟨N, hN⟩ : ∃ N, (doD ⟨l0, s0⟩ (mkT 42 a1 a2) a3).b = N := ⟨_, rfl⟩
  obtain ⟨S, hS⟩ : ∃ S, (doD ⟨l0, s0⟩ (mkT 42 a1 a2) a3).s = S := ⟨_, rfl⟩
  have HDO : Hid (∀ v u, Rts u v l0 → Calls Try.prog 17 #[dkV v s0, .string (mkT 42 a1 a2), .string a3] u fun e w' => ∃ a cp, e = .returned (.tuple #[dkV (.slice a N.length cp) S, .string T, .int .i64 C]) ∧ Txs w' u.heap.size (.slice a N.length cp) N ∧ Below u.heap.size u w') := fun v u h => do_named v ⟨l0, s0⟩ (mkT 42 a1 a2) a3 hk hcz w3 T C N S hT hC hN hS u h
  by_cases hC0 : C ≠ 0
  · have hn := do_none (d := ⟨l0, s0⟩) (c := mkT 42 a1 a2) (x := a3) (by rw [hC]; exact hC0)
    have hT2 : T = ⟨#[]⟩ := hT.symm.trans hn.1
    have hN2 : N = l0 := hN.symm.trans hn.2
    subst hT2 hN2
    have e1 : (C != 0) = true := by simp [hC0]
    clear hn hT hC hN hS hC0 hm42 hm40 hmb hkk hK hcz hcr hk
    generalize hnn : N.length = n1 at *
    generalize mkT 42 a1 a2 = Cw at *
    generalize mkT 40 a1 a2 = Cr at *
    by_cases h14 : C = 14
    · subst h14
      go_enter Try.func5, Try.ntmps5
      go_wp2_with fail
      refine (HM42.out _).mono ?_
      rintro e u ⟨rfl, hb⟩
      have HB1 : Hid (Below w.heap.size w u ∧ Rts u (.slice xa n1 xc) N ∧ u.heap[w.heap.size]? = some (dkO (.slice xa n1 xc) s0)) := ⟨bsq HR.out.2.1 hb, HR.out.1.below hb, keep HR.out.2.2 hb⟩
      clear hb HM42 HR
      go_wp2_with fail
      refine (HM40.out _).mono ?_
      rintro e u2 ⟨rfl, hb⟩
      have HB2 : Hid (Below w.heap.size w u2 ∧ Rts u2 (.slice xa n1 xc) N ∧ u2.heap[w.heap.size]? = some (dkO (.slice xa n1 xc) s0)) := ⟨bsq HB1.out.1 hb, HB1.out.2.1.below hb, keep HB1.out.2.2 hb⟩
      clear hb HM40 HB1
      go_wp2_with fail
      refine (HLV.out _).mono ?_
      rintro e u3 ⟨rfl, hb⟩
      have HB3 : Hid (Below w.heap.size w u3 ∧ Rts u3 (.slice xa n1 xc) N ∧ u3.heap[w.heap.size]? = some (dkO (.slice xa n1 xc) s0)) := ⟨bsq HB2.out.1 hb, HB2.out.2.1.below hb, keep HB2.out.2.2 hb⟩
      clear hb HB2 HLV x0 x1 f0 f1
      obtain ⟨⟨_, x0, x1⟩, f0, f1⟩ := boxD HB3.out.2.2
      go_wp2_with fail
      refine (HDO.out _ _ HB3.out.2.1).mono ?_
      rintro e u4 ⟨a, cp, rfl, ht, hb⟩
      obtain ⟨u5, uf, hu5, huf, hX5, hXf, hbf⟩ := dk_param u4 (.slice a n1 cp) S
      obtain ⟨⟨_, y0, y1⟩, g0, g1⟩ := boxD hX5
      obtain ⟨⟨_, i0, i1⟩, j0, j1⟩ := boxD hXf
      obtain ⟨⟨_, p0, p1⟩, _⟩ := boxD (keep HB3.out.2.2 (bsq hb hbf))
      have HB5 : Hid (Below w.heap.size w uf) := bsq HB3.out.1 (bsq hb hbf)
      have HE : Hid (Calls Try.prog 20 #[.slice a n1 cp, .slice xa n1 xc] uf fun e w' => e = .returned (.bool true) ∧ Below uf.heap.size uf w') := by
        have := equalT_any _ _ N N uf (ht.rts.below hbf) (HB3.out.2.1.below (bsq hb hbf))
        rw [decide_eq_true rfl] at this
        exact this
      clear HB3 HDO hb ht hX5 hXf hbf x0 x1 f0 f1
      go_wp2_with fail
      refine HE.out.mono ?_
      rintro e u6 ⟨rfl, hb⟩
      have HB6 : Hid (Below w.heap.size w u6) := bsq HB5.out hb
      clear hb HB5 HE
      go_wp2
      go_ret
      exact ⟨rfl, HB6.out⟩
    · have e2 : (C != 14) = true := by simp [h14]
      clear h14
      go_enter Try.func5, Try.ntmps5
      go_wp2_with fail
      refine (HM42.out _).mono ?_
      rintro e u ⟨rfl, hb⟩
      have HB1 : Hid (Below w.heap.size w u ∧ Rts u (.slice xa n1 xc) N ∧ u.heap[w.heap.size]? = some (dkO (.slice xa n1 xc) s0)) := ⟨bsq HR.out.2.1 hb, HR.out.1.below hb, keep HR.out.2.2 hb⟩
      clear hb HM42 HR
      go_wp2_with fail
      refine (HM40.out _).mono ?_
      rintro e u2 ⟨rfl, hb⟩
      have HB2 : Hid (Below w.heap.size w u2 ∧ Rts u2 (.slice xa n1 xc) N ∧ u2.heap[w.heap.size]? = some (dkO (.slice xa n1 xc) s0)) := ⟨bsq HB1.out.1 hb, HB1.out.2.1.below hb, keep HB1.out.2.2 hb⟩
      clear hb HM40 HB1
      go_wp2_with fail
      refine (HLV.out _).mono ?_
      rintro e u3 ⟨rfl, hb⟩
      have HB3 : Hid (Below w.heap.size w u3 ∧ Rts u3 (.slice xa n1 xc) N ∧ u3.heap[w.heap.size]? = some (dkO (.slice xa n1 xc) s0)) := ⟨bsq HB2.out.1 hb, HB2.out.2.1.below hb, keep HB2.out.2.2 hb⟩
      clear hb HB2 HLV x0 x1 f0 f1
      obtain ⟨⟨_, x0, x1⟩, f0, f1⟩ := boxD HB3.out.2.2
      go_wp2_with fail
      refine (HDO.out _ _ HB3.out.2.1).mono ?_
      rintro e u4 ⟨a, cp, rfl, ht, hb⟩
      obtain ⟨u5, uf, hu5, huf, hX5, hXf, hbf⟩ := dk_param u4 (.slice a n1 cp) S
      obtain ⟨⟨_, y0, y1⟩, g0, g1⟩ := boxD hX5
      obtain ⟨⟨_, i0, i1⟩, j0, j1⟩ := boxD hXf
      obtain ⟨⟨_, p0, p1⟩, _⟩ := boxD (keep HB3.out.2.2 (bsq hb hbf))
      have HB5 : Hid (Below w.heap.size w uf) := bsq HB3.out.1 (bsq hb hbf)
      have HE : Hid (Calls Try.prog 20 #[.slice a n1 cp, .slice xa n1 xc] uf fun e w' => e = .returned (.bool true) ∧ Below uf.heap.size uf w') := by
        have := equalT_any _ _ N N uf (ht.rts.below hbf) (HB3.out.2.1.below (bsq hb hbf))
        rw [decide_eq_true rfl] at this
        exact this
      clear HB3 HDO hb ht hX5 hXf hbf x0 x1 f0 f1
      go_wp2
      go_ret
      exact ⟨rfl, HB5.out⟩
  have hC0 : C = 0 := Classical.not_not.1 hC0
  subst hC0
  obtain ⟨h0, hfit, hsz, hDD, hTT⟩ := write_do hm42 hC
  have hT2 : T = ⟨#[]⟩ := hT.symm.trans hTT
  have hS2 : S = 0 := by rw [← hS, hDD]
  subst hT2 hS2
  have hNN : N = wrB l0 a1.toNat a2.toNat a3 := by rw [← hN, hDD]
  have hwr := wr_right (d := ⟨l0, s0⟩) h0 hfit hsz
  rw [← hNN] at hwr
  have hl64 : N.length ≤ 64 := ((chk_iff _).1 hwr).2.1
  have hll : N.length = l0.length := by rw [hNN]; exact wr_length hfit
  have hrd := read_ok (d := ⟨N, 0⟩) (x := ⟨#[]⟩) hm40 hwr (by show _ ≤ N.length; rw [hll]; exact hfit)
  have hrT : cat ((N.drop a1.toNat).take a2.toNat) = a3 := by rw [hNN]; exact wr_read hfit hsz
  have HSAME : Hid (∀ k : Nat, ¬ (a1.toNat ≤ k ∧ k < a1.toNat + a2.toNat) → N[k]? = l0[k]?) := fun k q => by rw [hNN, wr_at hfit, if_neg q]
  have HD2 : Hid (∀ v u, Rts u v N → Calls Try.prog 17 #[dkV v 0, .string (mkT 40 a1 a2), .string ⟨#[]⟩] u fun e w' => ∃ a cp, e = .returned (.tuple #[dkV (.slice a N.length cp) 0, .string a3, .int .i64 0]) ∧ Txs w' u.heap.size (.slice a N.length cp) N ∧ Below u.heap.size u w') := fun v u h => do_named v ⟨N, 0⟩ (mkT 40 a1 a2) ⟨#[]⟩ (by unfold reachBytes; show N.length * 16 ≤ _; omega) hcr (by decide) a3 0 N 0 (hrd.2.2.trans hrT) hrd.1 (by rw [hrd.2.1]) (by rw [hrd.2.1]) u h
  have hne := toList_bne a3 a3
  rw [decide_eq_true rfl] at hne
  rw [hll] at HDO HD2
  have HLN : Hid (l0.length = N.length) := hll.symm
  clear hT hC hN hS hDD hTT h0 hfit hsz hNN hwr hll hrd hrT hm42 hm40 hmb hkk hK hcz hcr hk
  generalize mkT 42 a1 a2 = Cw at *
  generalize mkT 40 a1 a2 = Cr at *
  obtain ⟨n1, hnn⟩ : ∃ n, l0.length = n := ⟨_, rfl⟩
  have HN1 : Hid (l0.length = n1 ∧ N.length = n1) := ⟨hnn, HLN.out.symm.trans hnn⟩
  rw [hnn] at HDO HD2 HR hu0 x0 ⊢
  have hl : n1 ≤ 64 := by have := HN1.out.2; omega
  clear hl64 HLN hnn
  go_enter Try.func5, Try.ntmps5
  go_wp2_with fail
  refine (HM42.out _).mono ?_
  rintro e u ⟨rfl, hb⟩
  have HB1 : Hid (Below w.heap.size w u ∧ Rts u (.slice xa n1 xc) l0 ∧ u.heap[w.heap.size]? = some (dkO (.slice xa n1 xc) s0)) := ⟨bsq HR.out.2.1 hb, HR.out.1.below hb, keep HR.out.2.2 hb⟩
  clear hb HM42 HR
  go_wp2_with fail
  refine (HM40.out _).mono ?_
  rintro e u2 ⟨rfl, hb⟩
  have HB2 : Hid (Below w.heap.size w u2 ∧ Rts u2 (.slice xa n1 xc) l0 ∧ u2.heap[w.heap.size]? = some (dkO (.slice xa n1 xc) s0)) := ⟨bsq HB1.out.1 hb, HB1.out.2.1.below hb, keep HB1.out.2.2 hb⟩
  clear hb HM40 HB1
  go_wp2_with fail
  refine (HLV.out _).mono ?_
  rintro e u3 ⟨rfl, hb⟩
  have HB3 : Hid (Below w.heap.size w u3 ∧ Rts u3 (.slice xa n1 xc) l0 ∧ u3.heap[w.heap.size]? = some (dkO (.slice xa n1 xc) s0)) := ⟨bsq HB2.out.1 hb, HB2.out.2.1.below hb, keep HB2.out.2.2 hb⟩
  clear hb HB2 HLV x0 x1 f0 f1
  obtain ⟨⟨_, x0, x1⟩, f0, f1⟩ := boxD HB3.out.2.2
  go_wp2_with fail
  refine (HDO.out _ _ HB3.out.2.1).mono ?_
  rintro e u4 ⟨a, cp, rfl, ht, hb⟩
  obtain ⟨u5, uf, hu5, huf, hX5, hXf, hbf⟩ := dk_param u4 (.slice a n1 cp) 0
  obtain ⟨⟨_, y0, y1⟩, g0, g1⟩ := boxD hX5
  obtain ⟨⟨_, i0, i1⟩, j0, j1⟩ := boxD hXf
  have HB5 : Hid (Below w.heap.size w uf ∧ Rts uf (.slice xa n1 xc) l0 ∧ uf.heap[w.heap.size]? = some (dkO (.slice xa n1 xc) s0) ∧ Rts uf (.slice a n1 cp) N ∧ uf.heap[u4.heap.size]? = some (dkO (.slice a n1 cp) 0)) := ⟨bsq HB3.out.1 (bsq hb hbf), HB3.out.2.1.below (bsq hb hbf), keep HB3.out.2.2 (bsq hb hbf), ht.rts.below hbf, hXf⟩
  clear HB3 HDO hb ht hX5 hXf hbf x0 x1 f0 f1
  go_wp2_with fail
  refine (HD2.out _ _ HB5.out.2.2.2.1).mono ?_
  rintro e u6 ⟨b, cq, rfl, ht, hb⟩
  obtain ⟨u7, uf7, hu7, huf7, hX7, hXf7, hbf⟩ := dk_param u6 (.slice b n1 cq) 0
  obtain ⟨⟨_, k0, k1⟩, l1, l2⟩ := boxD hX7
  obtain ⟨⟨_, m0, m1⟩, _⟩ := boxD hXf7
  obtain ⟨⟨_, p0, p1⟩, _⟩ := boxD (keep HB5.out.2.2.1 (bsq hb hbf))
  obtain ⟨⟨_, q0, q1⟩, _⟩ := boxD (keep HB5.out.2.2.2.2 (bsq hb hbf))
  have HB7 : Hid (Below w.heap.size w uf7 ∧ Rts uf7 (.slice xa n1 xc) l0 ∧ uf7.heap[w.heap.size]? = some (dkO (.slice xa n1 xc) s0) ∧ Rts uf7 (.slice a n1 cp) N ∧ uf7.heap[u4.heap.size]? = some (dkO (.slice a n1 cp) 0)) := ⟨bsq HB5.out.1 (bsq hb hbf), HB5.out.2.1.below (bsq hb hbf), keep HB5.out.2.2.1 (bsq hb hbf), HB5.out.2.2.2.1.below (bsq hb hbf), keep HB5.out.2.2.2.2 (bsq hb hbf)⟩
  have HE : Hid (Calls Try.prog 14 #[dkV (.slice a n1 cp) 0, dkV (.slice b n1 cq) 0] uf7 fun e w' => e = .returned (.bool true) ∧ Below uf7.heap.size uf7 w') := by
    have := same_any _ _ N N 0 0 uf7 HB7.out.2.2.2.1 (ht.rts.below hbf)
    rw [decide_eq_true rfl, decide_eq_true rfl] at this
    exact this
  clear HB5 HD2 hb ht hX7 hXf7 hbf y0 y1 g0 g1 i0 i1 j0 j1
  go_wp2_with fail
  refine HE.out.mono ?_
  rintro e u8 ⟨rfl, hb⟩
  have HB8 : Hid (Below w.heap.size w u8) := bsq HB7.out.1 hb
  obtain ⟨pa, pc, hpv, hpc, hpm, hpl⟩ := (HB7.out.2.1.below hb).cell
  obtain ⟨qa, qc, hqv, hqc, hqm, hql⟩ := (HB7.out.2.2.2.1.below hb).cell
  injection hpv with e1 _ e3
  subst e1 e3
  injection hqv with e1 _ e3
  subst e1 e3
  have HPL : Hid (∀ (j : Nat) x, l0[j]? = some x → ∃ g off, xa = some ⟨g, off, none⟩ ∧ u8.cell? ⟨g, off + j, none⟩ = some (.string x)) := hpl
  have HQL : Hid (∀ (j : Nat) x, N[j]? = some x → ∃ g off, a = some ⟨g, off, none⟩ ∧ u8.cell? ⟨g, off + j, none⟩ = some (.string x)) := hql
  clear p0 p1 q0 q1 k0 k1 l1 l2 m0 m1 hpl hql
  obtain ⟨⟨_, p0, p1⟩, _⟩ := boxD (keep HB7.out.2.2.1 hb)
  obtain ⟨⟨_, q0, q1⟩, _⟩ := boxD (keep HB7.out.2.2.2.2 hb)
  have hcp : n1 ≤ xc ∧ n1 ≤ cp := by have := HN1.out; omega
  obtain ⟨hcp1, hcp2⟩ := hcp
  clear hb HB7 HE hne hpc hqc hpm hqm
  go_wp2
  go_loopw [105] (fun iv wr => ∃ k q : Nat, k ≤ n1 ∧ iv = .int .i64 (k : Int) ∧ wr = u8.drewN q) (fun iv _ => n1 - (intOf iv).toNat)
  case atStart => exact ⟨0, 0, Nat.zero_le _, rfl, rfl⟩
  case round =>
    obtain ⟨k, q, hk, rfl, rfl⟩ := hrel
    by_cases hlt : ¬ k < n1
    · go_wp2
      go_ret
      exact ⟨rfl, below_drewN HB8.out _⟩
    have hlt : k < n1 := Classical.not_not.1 hlt
    obtain ⟨y, hy⟩ : ∃ y, l0[k]? = some y := ⟨_, List.getElem?_eq_getElem (by rw [HN1.out.1]; exact hlt)⟩
    obtain ⟨g, off, rfl, cy⟩ := HPL.out k y hy
    by_cases hin : ¬ (a1 ≤ (k : Int) ∧ (k : Int) < a1 + a2)
    · obtain ⟨g', off', rfl, cz⟩ := HQL.out k y ((HSAME.out k (by omega)).trans hy)
      have hyy := toList_bne y y
      rw [decide_eq_true rfl] at hyy
      have hll : (k : Int) < (n1 : Int) := by omega
      by_cases hlow : (k : Int) < a1
      · have d1 : decide ((k : Int) < a1) = true := decide_eq_true hlow
        clear HPL HQL HSAME hy hin hlow HN1
        go_wp2_with fail
        go_quiet (fail)
        go_wp2
        go_roundw
        case rel => exact ⟨k + 1, q + _, by omega, by go_num, rfl⟩
        case measure => simp [intOf]; omega
      · have d1 : decide ((k : Int) < a1) = false := decide_eq_false hlow
        have d2 : decide (a1 + a2 ≤ (k : Int)) = true := decide_eq_true (by omega)
        clear HPL HQL HSAME hy hin hlow HN1
        go_wp2_with fail
        go_quiet (fail)
        go_wp2
        go_roundw
        case rel => exact ⟨k + 1, q + _, by omega, by go_num, rfl⟩
        case measure => simp [intOf]; omega
    · have hin := Classical.not_not.1 hin
      have d1 : decide ((k : Int) < a1) = false := decide_eq_false (by omega)
      have d2 : decide (a1 + a2 ≤ (k : Int)) = false := decide_eq_false (by omega)
      clear HPL HQL HSAME hy hin HN1
      go_wp2_with fail
      go_quiet (fail)
      go_wp2
      go_roundw
      case rel => exact ⟨k + 1, q + _, by omega, by go_num, rfl⟩
      case measure => simp [intOf]; omega
end Go.Proofs.Ytjmbklbobofciaa.scsiBack
