/- ScsiSense: the walk. -/
import Derived.Test.YtjmbklbobofciaaScsP
import Derived.BigQuiet
namespace Go.Proofs.Ytjmbklbobofciaa.scsiSense
open Go.RowKit Go.PlainAid Go.Proofs.Ytjmbklbobofciaa.lane Go.Proofs.Ytjmbklbobofciaa.pipe Go.Proofs.Ytjmbklbobofciaa.strike Go.Proofs.Ytjmbklbobofciaa.scsi
set_option linter.unusedVariables false
set_option linter.unusedSimpArgs false
set_option maxRecDepth 100000

theorem sen_at (s : Int) (h : senR s) (k : Nat) (hk : k < 18) : bt (strOfNums (senL s)) k = (senL s).getD k 0 := by
  rw [bt_nums _ _ (by rw [str_size]; exact hk), nums_str _ (sen_byt s h)]
set_option maxHeartbeats 8000000 in
theorem walk (x0 : Value) (l0 : List ByteArray) (s0 : Int) (a1 a2 : ByteArray) (w1 : a1.size ≤ maxLen) (w2 : a2.size ≤ maxLen) (w : World) (hp : Rts w x0 l0) (hk : l0.length * 16 ≤ reachBytes) :
    Calls Try.prog 7 #[dkV x0 s0, .string a1, .string a2] w fun e w' => e = .returned (.bool true) ∧ Below w.heap.size w w' := by
  obtain ⟨T, hT⟩ : ∃ T, doT ⟨l0, s0⟩ a1 a2 = T := ⟨_, rfl⟩
  obtain ⟨C, hC⟩ : ∃ C, doC ⟨l0, s0⟩ a1 a2 = C := ⟨_, rfl⟩
  obtain ⟨N, hN⟩ : ∃ N, (doD ⟨l0, s0⟩ a1 a2).b = N := ⟨_, rfl⟩
  obtain ⟨S, hS⟩ : ∃ S, (doD ⟨l0, s0⟩ a1 a2).s = S := ⟨_, rfl⟩
  have HDO : Hid (∀ u, Rts u x0 l0 → Calls Try.prog 17 #[dkV x0 s0, .string a1, .string a2] u fun e w' => ∃ a cp, e = .returned (.tuple #[dkV (.slice a N.length cp) S, .string T, .int .i64 C]) ∧ Txs w' u.heap.size (.slice a N.length cp) N ∧ Below u.heap.size u w') := fun u h => do_named x0 ⟨l0, s0⟩ a1 a2 hk w1 w2 T C N S hT hC hN hS u h
  have HLV : Hid (∀ u, Calls Try.prog 19 #[] u fun e w' => e = .returned (.bool true) ∧ Below u.heap.size u w') := fun u => lives_any u
  obtain ⟨xa, xc, rfl, _, _⟩ := rts_form hp
  obtain ⟨u0, hu0, hX0, hb0⟩ := dk_named w (.slice xa l0.length xc) s0
  obtain ⟨⟨_, x0, x1⟩, f0, f1⟩ := boxD hX0
  have HR : Hid (Rts u0 (.slice xa l0.length xc) l0 ∧ Below w.heap.size w u0 ∧ u0.heap[w.heap.size]? = some (dkO (.slice xa l0.length xc) s0)) := ⟨hp.below hb0, hb0, hX0⟩
  clear hp hX0 hb0
  by_cases hcs : ¬ (C = 0 ∨ C = 14)
  · have hD := do_wrong ⟨l0, s0⟩ a1 a2 (by rw [hC]; exact hcs)
    have hN2 : N = l0 := by rw [← hN, hD]
    have hS2 : S = s0 := by rw [← hS, hD]
    subst hN2 hS2
    have e1 : (C != 0) = true := by simp; omega
    have e2 : (C != 14) = true := by simp; omega
    clear hD hN hS hT hC hcs hk
    generalize hnn : N.length = n1 at *
    go_enter Try.func7, Try.ntmps7
    go_wp2_with fail
    refine (HDO.out _ HR.out.1).mono ?_
    rintro e u ⟨a, cp, rfl, ht, hb⟩
    obtain ⟨u1, uf, hu1, huf, hX1, hXf, hbf⟩ := dk_param u (.slice a n1 cp) S
    obtain ⟨⟨_, y0, y1⟩, g0, g1⟩ := boxD hX1
    obtain ⟨⟨_, i0, i1⟩, j0, j1⟩ := boxD hXf
    have HB : Hid (Below w.heap.size w uf ∧ uf.heap[u.heap.size]? = some (dkO (.slice a n1 cp) S) ∧ uf.heap[w.heap.size]? = some (dkO (.slice xa n1 xc) S) ∧ Rts uf (.slice a n1 cp) N ∧ Rts uf (.slice xa n1 xc) N) := ⟨bsq HR.out.2.1 (bsq hb hbf), hXf, keep HR.out.2.2 (bsq hb hbf), ht.rts.below hbf, HR.out.1.below (bsq hb hbf)⟩
    clear HDO HR ht hb hX1 hXf hbf
    go_wp2_with fail
    refine (HLV.out _).mono ?_
    rintro e u2 ⟨rfl, hb⟩
    have HB2 : Hid (Below w.heap.size w u2 ∧ u2.heap[u.heap.size]? = some (dkO (.slice a n1 cp) S) ∧ u2.heap[w.heap.size]? = some (dkO (.slice xa n1 xc) S) ∧ Rts u2 (.slice a n1 cp) N ∧ Rts u2 (.slice xa n1 xc) N) := ⟨bsq HB.out.1 hb, keep HB.out.2.1 hb, keep HB.out.2.2.1 hb, HB.out.2.2.2.1.below hb, HB.out.2.2.2.2.below hb⟩
    clear HB hb x0 x1 f0 f1 y0 y1 g0 g1 i0 i1 j0 j1
    go_wp2_with fail
    refine (HLV.out _).mono ?_
    rintro e u3 ⟨rfl, hb⟩
    have HB3 : Hid (Below w.heap.size w u3) := bsq HB2.out.1 hb
    have HE : Hid (Calls Try.prog 14 #[dkV (.slice a n1 cp) S, dkV (.slice xa n1 xc) S] u3 fun e w' => e = .returned (.bool true) ∧ Below u3.heap.size u3 w') := by
      have := same_any _ _ N N S S u3 (HB2.out.2.2.2.1.below hb) (HB2.out.2.2.2.2.below hb)
      rw [decide_eq_true rfl, decide_eq_true rfl] at this
      exact this
    obtain ⟨⟨_, p0, p1⟩, _⟩ := boxD (keep HB2.out.2.1 hb)
    obtain ⟨⟨_, q0, q1⟩, _⟩ := boxD (keep HB2.out.2.2.1 hb)
    clear HLV HB2 hb
    go_wp2_with fail
    refine HE.out.mono ?_
    rintro e u4 ⟨rfl, hb⟩
    have HB4 : Hid (Below w.heap.size w u4) := bsq HB3.out hb
    clear HE HB3 hb
    go_wp2
    go_ret
    exact ⟨rfl, HB4.out⟩
  have hcs := Classical.not_not.1 hcs
  obtain ⟨h0, hz⟩ := do_case ⟨l0, s0⟩ a1 a2 (by rw [hC]; exact hcs)
  rw [hC, hS] at hz
  have hrt := do_right (c := a1) (x := a2) h0
  have hDN : doD ⟨l0, s0⟩ a1 a2 = ⟨N, S⟩ := by rw [← hN, ← hS]
  rw [hDN] at hrt
  have hl64 : N.length ≤ 64 := ((chk_iff _).1 hrt.1).2.1
  have hsR : senR S := ((chk_iff _).1 hrt.1).2.2.2
  have h2 := sense_do hrt.1
  have hr3 : chkC ⟨N, 0⟩ = 0 := by
    have := (chk_iff _).1 hrt.1
    exact (chk_iff _).2 ⟨this.1, this.2.1, this.2.2.1, .inl rfl⟩
  have h3 := sense_do hr3
  have hrc : N.length * 16 ≤ reachBytes := by unfold reachBytes; omega
  obtain ⟨Y1, hY1⟩ : ∃ Y, strOfNums (senL S) = Y := ⟨_, rfl⟩
  obtain ⟨Y0, hY0⟩ : ∃ Y, strOfNums (senL 0) = Y := ⟨_, rfl⟩
  have HD2 : Hid (∀ v u, Rts u v N → Calls Try.prog 17 #[dkV v S, .string ⟨#[3, 0, 0, 0, 255, 0]⟩, .string ⟨#[]⟩] u fun e w' => ∃ a cp, e = .returned (.tuple #[dkV (.slice a N.length cp) 0, .string Y1, .int .i64 0]) ∧ Txs w' u.heap.size (.slice a N.length cp) N ∧ Below u.heap.size u w') := fun v u h => do_named v ⟨N, S⟩ c03 ⟨#[]⟩ hrc (by decide) (by decide) Y1 0 N 0 (h2.2.1.trans hY1) h2.2.2 (by rw [h2.1]) (by rw [h2.1]) u h
  have HD3 : Hid (∀ v u, Rts u v N → Calls Try.prog 17 #[dkV v 0, .string ⟨#[3, 0, 0, 0, 255, 0]⟩, .string ⟨#[]⟩] u fun e w' => ∃ a cp, e = .returned (.tuple #[dkV (.slice a N.length cp) 0, .string Y0, .int .i64 0]) ∧ Txs w' u.heap.size (.slice a N.length cp) N ∧ Below u.heap.size u w') := fun v u h => do_named v ⟨N, 0⟩ c03 ⟨#[]⟩ hrc (by decide) (by decide) Y0 0 N 0 (h3.2.1.trans hY0) h3.2.2 (by rw [h3.1]) (by rw [h3.1]) u h
  have z1 : Y1.size = 18 := by rw [← hY1]; exact str_size _
  have z0 : Y0.size = 18 := by rw [← hY0]; exact str_size _
  have c12 : bt Y1 12 = S := by rw [← hY1]; exact sen_at S hsR 12 (by omega)
  have c2 : bt Y1 2 = if S = 0 then 0 else 5 := by rw [← hY1]; exact sen_at S hsR 2 (by omega)
  have d12 : bt Y0 12 = 0 := by rw [← hY0]; exact sen_at 0 (.inl rfl) 12 (by omega)
  have d2 : bt Y0 2 = 0 := by rw [← hY0]; exact sen_at 0 (.inl rfl) 2 (by omega)
  have hb1 := get_bt Y1
  have hb0 := get_bt Y0
  clear hY1 hY0 h2 h3 hr3 hrt hDN hN hS hT hC h0 hk hrc hsR hcs
  generalize hln : l0.length = n0 at *
  generalize hnn : N.length = n1 at *
  clear hln hnn
  have hz4 : (C = 0 ∧ S = 0) ∨ (C = 14 ∧ S = 32) ∨ (C = 14 ∧ S = 33) ∨ (C = 14 ∧ S = 36) := by omega
  clear hz
  rcases hz4 with ⟨rfl, rfl⟩ | ⟨rfl, rfl⟩ | ⟨rfl, rfl⟩ | ⟨rfl, rfl⟩
  · rw [if_pos rfl] at c2
    go_enter Try.func7, Try.ntmps7
    go_wp2_with fail
    refine (HDO.out _ HR.out.1).mono ?_
    rintro e u ⟨a, cp, rfl, ht, hb⟩
    obtain ⟨u1, uf, hu1, huf, hX1, hXf, hbf⟩ := dk_param u (.slice a n1 cp) 0
    obtain ⟨⟨_, y0, y1⟩, g0, g1⟩ := boxD hX1
    obtain ⟨⟨_, i0, i1⟩, j0, j1⟩ := boxD hXf
    have HB : Hid (Below w.heap.size w uf ∧ uf.heap[u.heap.size]? = some (dkO (.slice a n1 cp) 0) ∧ Rts uf (.slice a n1 cp) N) := ⟨bsq HR.out.2.1 (bsq hb hbf), hXf, ht.rts.below hbf⟩
    clear HDO HR ht hb hX1 hXf hbf x0 x1 f0 f1
    go_wp2_with fail
    refine (HLV.out _).mono ?_
    rintro e u2 ⟨rfl, hb⟩
    have HB2 : Hid (Below w.heap.size w u2 ∧ u2.heap[u.heap.size]? = some (dkO (.slice a n1 cp) 0) ∧ Rts u2 (.slice a n1 cp) N) := ⟨bsq HB.out.1 hb, keep HB.out.2.1 hb, HB.out.2.2.below hb⟩
    clear HB HLV hb y0 y1 g0 g1 i0 i1 j0 j1
    obtain ⟨⟨_, x0, x1⟩, f0, f1⟩ := boxD HB2.out.2.1
    go_wp2_with fail
    refine (HD2.out _ _ HB2.out.2.2).mono ?_
    rintro e u3 ⟨b, cq, rfl, ht, hb⟩
    obtain ⟨u4, uf4, hu4, huf4, hX4, hXf4, hbf⟩ := dk_param u3 (.slice b n1 cq) 0
    obtain ⟨⟨_, y0, y1⟩, g0, g1⟩ := boxD hX4
    obtain ⟨⟨_, i0, i1⟩, j0, j1⟩ := boxD hXf4
    have HB4 : Hid (Below w.heap.size w uf4 ∧ uf4.heap[u.heap.size]? = some (dkO (.slice a n1 cp) 0) ∧ uf4.heap[u3.heap.size]? = some (dkO (.slice b n1 cq) 0) ∧ Rts uf4 (.slice b n1 cq) N) := ⟨bsq HB2.out.1 (bsq hb hbf), keep HB2.out.2.1 (bsq hb hbf), hXf4, ht.rts.below hbf⟩
    clear HB2 HD2 hb ht hX4 hXf4 hbf x0 x1 f0 f1
    go_wp2_with fail
    refine (HD3.out _ _ HB4.out.2.2.2).mono ?_
    rintro e u5 ⟨b', cr, rfl, ht, hb⟩
    obtain ⟨u6, uf6, hu6, huf6, hX6, hXf6, hbf⟩ := dk_param u5 (.slice b' n1 cr) 0
    obtain ⟨⟨_, k0, k1⟩, l1, l2⟩ := boxD hX6
    obtain ⟨⟨_, m0, m1⟩, _⟩ := boxD hXf6
    obtain ⟨⟨_, p0, p1⟩, _⟩ := boxD (keep HB4.out.2.1 (bsq hb hbf))
    obtain ⟨⟨_, q0, q1⟩, _⟩ := boxD (keep HB4.out.2.2.1 (bsq hb hbf))
    have HB6 : Hid (∀ m, Below w.heap.size w (uf6.drewN m)) := fun m => below_drewN (bsq HB4.out.1 (bsq hb hbf)) m
    clear HB4 HD3 hb ht hX6 hXf6 hbf y0 y1 g0 g1 i0 i1 j0 j1
    go_wp2_with fail
    go_quiet (fail)
    go_wp2
    go_ret
    exact ⟨rfl, HB6.out _⟩
  · rw [if_neg (by decide)] at c2
    go_enter Try.func7, Try.ntmps7
    go_wp2_with fail
    refine (HDO.out _ HR.out.1).mono ?_
    rintro e u ⟨a, cp, rfl, ht, hb⟩
    obtain ⟨u1, uf, hu1, huf, hX1, hXf, hbf⟩ := dk_param u (.slice a n1 cp) 32
    obtain ⟨⟨_, y0, y1⟩, g0, g1⟩ := boxD hX1
    obtain ⟨⟨_, i0, i1⟩, j0, j1⟩ := boxD hXf
    have HB : Hid (Below w.heap.size w uf ∧ uf.heap[u.heap.size]? = some (dkO (.slice a n1 cp) 32) ∧ Rts uf (.slice a n1 cp) N) := ⟨bsq HR.out.2.1 (bsq hb hbf), hXf, ht.rts.below hbf⟩
    clear HDO HR ht hb hX1 hXf hbf x0 x1 f0 f1
    go_wp2_with fail
    refine (HLV.out _).mono ?_
    rintro e u2 ⟨rfl, hb⟩
    have HB2 : Hid (Below w.heap.size w u2 ∧ u2.heap[u.heap.size]? = some (dkO (.slice a n1 cp) 32) ∧ Rts u2 (.slice a n1 cp) N) := ⟨bsq HB.out.1 hb, keep HB.out.2.1 hb, HB.out.2.2.below hb⟩
    clear HB HLV hb y0 y1 g0 g1 i0 i1 j0 j1
    obtain ⟨⟨_, x0, x1⟩, f0, f1⟩ := boxD HB2.out.2.1
    go_wp2_with fail
    refine (HD2.out _ _ HB2.out.2.2).mono ?_
    rintro e u3 ⟨b, cq, rfl, ht, hb⟩
    obtain ⟨u4, uf4, hu4, huf4, hX4, hXf4, hbf⟩ := dk_param u3 (.slice b n1 cq) 0
    obtain ⟨⟨_, y0, y1⟩, g0, g1⟩ := boxD hX4
    obtain ⟨⟨_, i0, i1⟩, j0, j1⟩ := boxD hXf4
    have HB4 : Hid (Below w.heap.size w uf4 ∧ uf4.heap[u.heap.size]? = some (dkO (.slice a n1 cp) 32) ∧ uf4.heap[u3.heap.size]? = some (dkO (.slice b n1 cq) 0) ∧ Rts uf4 (.slice b n1 cq) N) := ⟨bsq HB2.out.1 (bsq hb hbf), keep HB2.out.2.1 (bsq hb hbf), hXf4, ht.rts.below hbf⟩
    clear HB2 HD2 hb ht hX4 hXf4 hbf x0 x1 f0 f1
    go_wp2_with fail
    refine (HD3.out _ _ HB4.out.2.2.2).mono ?_
    rintro e u5 ⟨b', cr, rfl, ht, hb⟩
    obtain ⟨u6, uf6, hu6, huf6, hX6, hXf6, hbf⟩ := dk_param u5 (.slice b' n1 cr) 0
    obtain ⟨⟨_, k0, k1⟩, l1, l2⟩ := boxD hX6
    obtain ⟨⟨_, m0, m1⟩, _⟩ := boxD hXf6
    obtain ⟨⟨_, p0, p1⟩, _⟩ := boxD (keep HB4.out.2.1 (bsq hb hbf))
    obtain ⟨⟨_, q0, q1⟩, _⟩ := boxD (keep HB4.out.2.2.1 (bsq hb hbf))
    have HB6 : Hid (∀ m, Below w.heap.size w (uf6.drewN m)) := fun m => below_drewN (bsq HB4.out.1 (bsq hb hbf)) m
    clear HB4 HD3 hb ht hX6 hXf6 hbf y0 y1 g0 g1 i0 i1 j0 j1
    go_wp2_with fail
    go_quiet (fail)
    go_wp2
    go_ret
    exact ⟨rfl, HB6.out _⟩
  · rw [if_neg (by decide)] at c2
    go_enter Try.func7, Try.ntmps7
    go_wp2_with fail
    refine (HDO.out _ HR.out.1).mono ?_
    rintro e u ⟨a, cp, rfl, ht, hb⟩
    obtain ⟨u1, uf, hu1, huf, hX1, hXf, hbf⟩ := dk_param u (.slice a n1 cp) 33
    obtain ⟨⟨_, y0, y1⟩, g0, g1⟩ := boxD hX1
    obtain ⟨⟨_, i0, i1⟩, j0, j1⟩ := boxD hXf
    have HB : Hid (Below w.heap.size w uf ∧ uf.heap[u.heap.size]? = some (dkO (.slice a n1 cp) 33) ∧ Rts uf (.slice a n1 cp) N) := ⟨bsq HR.out.2.1 (bsq hb hbf), hXf, ht.rts.below hbf⟩
    clear HDO HR ht hb hX1 hXf hbf x0 x1 f0 f1
    go_wp2_with fail
    refine (HLV.out _).mono ?_
    rintro e u2 ⟨rfl, hb⟩
    have HB2 : Hid (Below w.heap.size w u2 ∧ u2.heap[u.heap.size]? = some (dkO (.slice a n1 cp) 33) ∧ Rts u2 (.slice a n1 cp) N) := ⟨bsq HB.out.1 hb, keep HB.out.2.1 hb, HB.out.2.2.below hb⟩
    clear HB HLV hb y0 y1 g0 g1 i0 i1 j0 j1
    obtain ⟨⟨_, x0, x1⟩, f0, f1⟩ := boxD HB2.out.2.1
    go_wp2_with fail
    refine (HD2.out _ _ HB2.out.2.2).mono ?_
    rintro e u3 ⟨b, cq, rfl, ht, hb⟩
    obtain ⟨u4, uf4, hu4, huf4, hX4, hXf4, hbf⟩ := dk_param u3 (.slice b n1 cq) 0
    obtain ⟨⟨_, y0, y1⟩, g0, g1⟩ := boxD hX4
    obtain ⟨⟨_, i0, i1⟩, j0, j1⟩ := boxD hXf4
    have HB4 : Hid (Below w.heap.size w uf4 ∧ uf4.heap[u.heap.size]? = some (dkO (.slice a n1 cp) 33) ∧ uf4.heap[u3.heap.size]? = some (dkO (.slice b n1 cq) 0) ∧ Rts uf4 (.slice b n1 cq) N) := ⟨bsq HB2.out.1 (bsq hb hbf), keep HB2.out.2.1 (bsq hb hbf), hXf4, ht.rts.below hbf⟩
    clear HB2 HD2 hb ht hX4 hXf4 hbf x0 x1 f0 f1
    go_wp2_with fail
    refine (HD3.out _ _ HB4.out.2.2.2).mono ?_
    rintro e u5 ⟨b', cr, rfl, ht, hb⟩
    obtain ⟨u6, uf6, hu6, huf6, hX6, hXf6, hbf⟩ := dk_param u5 (.slice b' n1 cr) 0
    obtain ⟨⟨_, k0, k1⟩, l1, l2⟩ := boxD hX6
    obtain ⟨⟨_, m0, m1⟩, _⟩ := boxD hXf6
    obtain ⟨⟨_, p0, p1⟩, _⟩ := boxD (keep HB4.out.2.1 (bsq hb hbf))
    obtain ⟨⟨_, q0, q1⟩, _⟩ := boxD (keep HB4.out.2.2.1 (bsq hb hbf))
    have HB6 : Hid (∀ m, Below w.heap.size w (uf6.drewN m)) := fun m => below_drewN (bsq HB4.out.1 (bsq hb hbf)) m
    clear HB4 HD3 hb ht hX6 hXf6 hbf y0 y1 g0 g1 i0 i1 j0 j1
    go_wp2_with fail
    go_quiet (fail)
    go_wp2
    go_ret
    exact ⟨rfl, HB6.out _⟩
  · rw [if_neg (by decide)] at c2
    go_enter Try.func7, Try.ntmps7
    go_wp2_with fail
    refine (HDO.out _ HR.out.1).mono ?_
    rintro e u ⟨a, cp, rfl, ht, hb⟩
    obtain ⟨u1, uf, hu1, huf, hX1, hXf, hbf⟩ := dk_param u (.slice a n1 cp) 36
    obtain ⟨⟨_, y0, y1⟩, g0, g1⟩ := boxD hX1
    obtain ⟨⟨_, i0, i1⟩, j0, j1⟩ := boxD hXf
    have HB : Hid (Below w.heap.size w uf ∧ uf.heap[u.heap.size]? = some (dkO (.slice a n1 cp) 36) ∧ Rts uf (.slice a n1 cp) N) := ⟨bsq HR.out.2.1 (bsq hb hbf), hXf, ht.rts.below hbf⟩
    clear HDO HR ht hb hX1 hXf hbf x0 x1 f0 f1
    go_wp2_with fail
    refine (HLV.out _).mono ?_
    rintro e u2 ⟨rfl, hb⟩
    have HB2 : Hid (Below w.heap.size w u2 ∧ u2.heap[u.heap.size]? = some (dkO (.slice a n1 cp) 36) ∧ Rts u2 (.slice a n1 cp) N) := ⟨bsq HB.out.1 hb, keep HB.out.2.1 hb, HB.out.2.2.below hb⟩
    clear HB HLV hb y0 y1 g0 g1 i0 i1 j0 j1
    obtain ⟨⟨_, x0, x1⟩, f0, f1⟩ := boxD HB2.out.2.1
    go_wp2_with fail
    refine (HD2.out _ _ HB2.out.2.2).mono ?_
    rintro e u3 ⟨b, cq, rfl, ht, hb⟩
    obtain ⟨u4, uf4, hu4, huf4, hX4, hXf4, hbf⟩ := dk_param u3 (.slice b n1 cq) 0
    obtain ⟨⟨_, y0, y1⟩, g0, g1⟩ := boxD hX4
    obtain ⟨⟨_, i0, i1⟩, j0, j1⟩ := boxD hXf4
    have HB4 : Hid (Below w.heap.size w uf4 ∧ uf4.heap[u.heap.size]? = some (dkO (.slice a n1 cp) 36) ∧ uf4.heap[u3.heap.size]? = some (dkO (.slice b n1 cq) 0) ∧ Rts uf4 (.slice b n1 cq) N) := ⟨bsq HB2.out.1 (bsq hb hbf), keep HB2.out.2.1 (bsq hb hbf), hXf4, ht.rts.below hbf⟩
    clear HB2 HD2 hb ht hX4 hXf4 hbf x0 x1 f0 f1
    go_wp2_with fail
    refine (HD3.out _ _ HB4.out.2.2.2).mono ?_
    rintro e u5 ⟨b', cr, rfl, ht, hb⟩
    obtain ⟨u6, uf6, hu6, huf6, hX6, hXf6, hbf⟩ := dk_param u5 (.slice b' n1 cr) 0
    obtain ⟨⟨_, k0, k1⟩, l1, l2⟩ := boxD hX6
    obtain ⟨⟨_, m0, m1⟩, _⟩ := boxD hXf6
    obtain ⟨⟨_, p0, p1⟩, _⟩ := boxD (keep HB4.out.2.1 (bsq hb hbf))
    obtain ⟨⟨_, q0, q1⟩, _⟩ := boxD (keep HB4.out.2.2.1 (bsq hb hbf))
    have HB6 : Hid (∀ m, Below w.heap.size w (uf6.drewN m)) := fun m => below_drewN (bsq HB4.out.1 (bsq hb hbf)) m
    clear HB4 HD3 hb ht hX6 hXf6 hbf y0 y1 g0 g1 i0 i1 j0 j1
    go_wp2_with fail
    go_quiet (fail)
    go_wp2
    go_ret
    exact ⟨rfl, HB6.out _⟩
end Go.Proofs.Ytjmbklbobofciaa.scsiSense
