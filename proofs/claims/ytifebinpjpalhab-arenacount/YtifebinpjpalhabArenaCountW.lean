/- ArenaCount: a span that is taken leaves so many units fewer; one that is given back as many more. -/
import Derived.Test.YtifebinpjpalhabAreK
import Derived.Test.YtifebinpjpalhabAreJ
namespace Go.Proofs.Ytifebinpjpalhab.arenaCount
open Go.RowKit Go.Proofs.Ytifebinpjpalhab.arena
set_option linter.unusedVariables false
set_option linter.unusedSimpArgs false
set_option maxRecDepth 100000

theorem at_any (x : Sp) (X : Nat) (p : Int) (u : World) (hX : u.cell? ⟨X, 0, none⟩ = some (.int .i64 p)) (hlt : X < u.heap.size) :
    Calls Try.prog 11 #[spV x.1 x.2, .pointer (some ⟨X, 0, none⟩)] u fun e w' => e = .returned (.bool (x.1 == p)) ∧ Below u.heap.size u w' := by
  obtain ⟨q, s⟩ := x
  simp only
  have hne : X ≠ u.heap.size := by omega
  obtain ⟨b, hb⟩ : ∃ b, (q == p) = b := ⟨_, rfl⟩
  rw [hb]
  go_enter Try.func11, Try.ntmps11
  go_wp2
  go_ret
  exact ⟨rfl, balloc _ _⟩
theorem fr_le {a : Ar} (h : chk a = 0) : 0 ≤ frV a ∧ frV a ≤ 65536 := by
  obtain ⟨h1, h2, _, h4⟩ := chk_ok h
  have := sum_row h4
  have h5 := this.2 (by omega)
  unfold frV
  rw [if_pos h]
  omega
theorem fr_err {a : Ar} (h : ¬ chk a = 0) : frV a = 0 := by unfold frV; rw [if_neg h]
set_option maxHeartbeats 8000000 in
theorem walk (z : Int) (x : Value) (L : List Sp) (s g p : Int) (ws : (Lit.int .i64 s).wf = true) (wg : (Lit.int .i64 g).wf = true) (wp : (Lit.int .i64 p).wf = true) (w : World) (hp : Rss w x L ∧ Inr L) :
    Calls Try.prog 3 #[arV z x, .int .i64 s, .int .i64 g, .int .i64 p] w fun e w' => e = .returned (.bool true) ∧ Below w.heap.size w w' := by
  clear ws wg wp
  obtain ⟨hv, hI⟩ := hp
  obtain ⟨a, c, rfl, hlc, hcm⟩ := hv.form
  obtain ⟨n, hn⟩ : ∃ n, L.length = n := ⟨_, rfl⟩
  have HN : Hid (L.length = n) := hn
  rw [hn] at hv hlc ⊢
  obtain ⟨w1, hw1, hX1, hb1⟩ := named w (arO z (.slice a n c))
  obtain ⟨w2, hw2, hX2, hb2⟩ := named w1 (.cells #[.int .i64 p] 3)
  have hX12 := keep hX1 hb2
  obtain ⟨⟨hz, x0, x1⟩, _⟩ := boxC hX12
  have hb02 := bsq hb1 hb2
  have HW : Hid (∀ u, Below w2.heap.size w2 u → Below w.heap.size w u) := fun u hu => bsq hb02 hu
  have HX : Hid (∀ u, Below w2.heap.size w2 u → u.heap[w.heap.size]? = some (arO z (.slice a n c)) ∧ u.heap[w1.heap.size]? = some (.cells #[.int .i64 p] 3)) := fun u hu => ⟨keep hX12 hu, keep hX2 hu⟩
  have HS : Hid (∀ u, Below w2.heap.size w2 u → Rss u (.slice a n c) L) := fun u hu => hv.below (bsq hb02 hu)
  have HLI : Hid (∀ u, Calls Try.prog 7 #[] u fun e w' => e = .returned (.bool true) ∧ Below u.heap.size u w') := lives_any
  obtain ⟨N, hN⟩ : ∃ N, frV ⟨z, L⟩ = N := ⟨_, rfl⟩
  obtain ⟨k, hk⟩ : ∃ k, chk ⟨z, L⟩ = k := ⟨_, rfl⟩
  have HK : Hid (chk ⟨z, L⟩ = k) := hk
  have HN0 : Hid (frV ⟨z, L⟩ = N) := hN
  have HF : Hid (Calls Try.prog 6 #[arV z (.slice a n c)] w2 fun e w' => e = .returned (.tuple #[.int .i64 N, .int .i64 k]) ∧ Below w2.heap.size w2 w') := by
    have := free_any z (.slice a n c) L w2 (hv.below hb02) hI
    rw [hN, hk] at this
    exact this
  have HTK : Hid (∀ u, Below w2.heap.size w2 u → Calls Try.prog 8 #[arV z (.slice a n c), .int .i64 s, .int .i64 g] u (TAns u (tkV ⟨z, L⟩ s g) (tkP ⟨z, L⟩ s g) (tkC ⟨z, L⟩ s g))) := fun u hu => take_any z (.slice a n c) L s g u (hv.below (bsq hb02 hu)) hI
  obtain ⟨gz, hgz⟩ : ∃ q, (gvV ⟨z, L⟩ p).z = q := ⟨_, rfl⟩
  obtain ⟨gL, hgL⟩ : ∃ q, (gvV ⟨z, L⟩ p).L = q := ⟨_, rfl⟩
  obtain ⟨gk, hgk⟩ : ∃ q, gvC ⟨z, L⟩ p = q := ⟨_, rfl⟩
  have HGVe : Hid (gvV ⟨z, L⟩ p = ⟨gz, gL⟩) := by show _ = _; rw [← hgz, ← hgL]
  have HGC : Hid (gvC ⟨z, L⟩ p = gk) := hgk
  have HGV : Hid (∀ u, Below w2.heap.size w2 u → Calls Try.prog 9 #[arV z (.slice a n c), .int .i64 p] u fun e w' => ∃ v, e = .returned (.tuple #[arV gz v, .int .i64 gk]) ∧ Sps w' u.heap.size v gL ∧ Below u.heap.size u w') := fun u hu => by
    have := give_any z (.slice a n c) L p u (hv.below (bsq hb02 hu)) hI
    rw [hgk, HGVe.out] at this
    exact this
  clear hv hI hn hX1 hX2 hX12 hb1 hb2 hb02 hN hk hgz hgL hgk
  go_enter Try.func3, Try.ntmps3
  go_wp2_with fail
  refine HF.out.mono ?_
  rintro e u1 ⟨rfl, hb1⟩
  have HR1 : Hid (Below w2.heap.size w2 u1) := hb1
  clear hb1 HF
  go_wp2_with fail
  refine (HLI.out _).mono ?_
  rintro e u2 ⟨rfl, hb2⟩
  have HR2 : Hid (Below w2.heap.size w2 u2) := bsq HR1.out hb2
  clear hb2 HR1
  by_cases h0 : ¬ k = 0
  · have e1 : (k != 0) = true := by simpa using h0
    have hN0 : N = 0 := by rw [← HN0.out]; exact fr_err (by rw [HK.out]; exact h0)
    subst hN0
    clear h0
    go_wp2_with fail
    refine (HLI.out _).mono ?_
    rintro e u3 ⟨rfl, hb3⟩
    have HR3 : Hid (Below w2.heap.size w2 u3) := bsq HR2.out hb3
    clear hb3
    go_wp2
    go_ret
    exact ⟨rfl, HW.out _ HR3.out⟩
  have h0 : k = 0 := Classical.not_not.1 h0
  subst h0
  have e1 : ((0 : Int) != 0) = false := rfl
  have HC0 : Hid (chk ⟨z, L⟩ = 0) := HK.out
  have hfl := fr_le HK.out
  rw [HN0.out] at hfl
  obtain ⟨hN1, hN2⟩ := hfl
  obtain ⟨tz, htz⟩ : ∃ q, (tkV ⟨z, L⟩ s g).z = q := ⟨_, rfl⟩
  obtain ⟨tL, htL⟩ : ∃ q, (tkV ⟨z, L⟩ s g).L = q := ⟨_, rfl⟩
  obtain ⟨tk, htk⟩ : ∃ q, tkC ⟨z, L⟩ s g = q := ⟨_, rfl⟩
  obtain ⟨tp, htp⟩ : ∃ q, tkP ⟨z, L⟩ s g = q := ⟨_, rfl⟩
  have HTV : Hid (tkV ⟨z, L⟩ s g = ⟨tz, tL⟩) := by show _ = _; rw [← htz, ← htL]
  have HTC : Hid (tkC ⟨z, L⟩ s g = tk) := htk
  have HT : Hid (Calls Try.prog 8 #[arV z (.slice a n c), .int .i64 s, .int .i64 g] u2 fun e w' => ∃ v, e = .returned (.tuple #[arV tz v, .int .i64 tp, .int .i64 tk]) ∧ Sps w' u2.heap.size v tL ∧ Below u2.heap.size u2 w') := by
    have := HTK.out u2 HR2.out
    rw [htk, htp, HTV.out] at this
    exact this
  obtain ⟨⟨_, d0, d1⟩, _⟩ := boxC (HX.out u2 HR2.out).1
  clear htz htL htk htp HTK
  go_wp2_with fail
  refine HT.out.mono ?_
  rintro e u3 ⟨v3, rfl, hv3, hb3⟩
  obtain ⟨u3', u4, hu3', hu4, hY3, hY4, hb4⟩ := laid2 u3 24 (.int .i64 0) (.slice none 0 0) (.int .i64 tz) v3
  have HR4 : Hid (Below w2.heap.size w2 u4) := bsq HR2.out (bsq hb3 hb4)
  have HV4 : Hid (Rss u4 v3 tL) := hv3.rss.below hb4
  obtain ⟨ta, tn, tc, rfl⟩ : ∃ a n c, v3 = .slice a n c := by obtain ⟨a, c, h, _⟩ := hv3.form; exact ⟨_, _, _, h⟩
  obtain ⟨⟨hz3, t0, t1⟩, ff0, ff1⟩ := boxC hY3
  obtain ⟨⟨hz4, r0, r1⟩, _⟩ := boxC hY4
  clear hv3 hb3 hY3 hY4 hb4 HT
  by_cases ht : ¬ tk = 0
  · have e2 : (tk == 0) = false := by simpa using ht
    clear ht
    go_upto_region 9 with (fail)
    obtain ⟨ur, hur⟩ : ∃ ur, u4 = ur := ⟨_, rfl⟩
    have HR : Hid (Below w2.heap.size w2 ur) := by rw [← hur]; exact HR4.out
    try rw [hu4]
    rw [hur]
    have HGu : Hid (Calls Try.prog 9 #[arV z (.slice a n c), .int .i64 p] ur fun e w' => ∃ v, e = .returned (.tuple #[arV gz v, .int .i64 gk]) ∧ Sps w' ur.heap.size v gL ∧ Below ur.heap.size ur w') := HGV.out ur HR.out
    obtain ⟨q0, q1⟩ := HX.out ur HR.out
    obtain ⟨⟨_, a0, a1⟩, _⟩ := boxC q0
    have c7 : ur.cell? ⟨w1.heap.size, 0, none⟩ = some (.int .i64 p) := by rw [cell_of_row _ _ _ _ _ (0, 0) q1]; rfl
    clear q0 q1
    go_wp2_with fail
    refine HGu.out.mono ?_
    rintro e u5 ⟨v5, rfl, hv5, hb5⟩
    obtain ⟨u6, u7, hu6, hu7, hY6, hY7, hb7⟩ := laid2 u5 24 (.int .i64 0) (.slice none 0 0) (.int .i64 gz) v5
    have HR7 : Hid (Below w2.heap.size w2 u7) := bsq HR.out (bsq hb5 hb7)
    have HV7 : Hid (Rss u7 v5 gL) := hv5.rss.below hb7
    have HY7 : Hid (u7.heap[u5.heap.size]? = some (arO gz v5)) := hY7
    obtain ⟨va, vn, vc, rfl⟩ : ∃ a n c, v5 = .slice a n c := by obtain ⟨a, c, h, _⟩ := hv5.form; exact ⟨_, _, _, h⟩
    obtain ⟨⟨hz6, x0, x1⟩, f0, f1⟩ := boxC hY6
    obtain ⟨⟨hz7, y0, y1⟩, _⟩ := boxC hY7
    clear hv5 hb5 hY6 hY7 hb7 HGu
    by_cases hg : ¬ gk = 0
    · have e5 : (gk != 0) = true := by simpa using hg
      clear hg
      go_wp2
      go_ret
      exact ⟨rfl, HW.out _ HR7.out⟩
    have hg : gk = 0 := Classical.not_not.1 hg
    subst hg
    have e5 : ((0 : Int) != 0) = false := rfl
    obtain ⟨x, hx, hcnt⟩ := count_give HGC.out
    obtain ⟨A, xx, Bq, k1, k2, k3, k4, k5⟩ := gv_facts HGC.out
    have hchk : chk ⟨gz, gL⟩ = 0 := by rw [← HGVe.out]; exact k5
    have HF7 : Hid (Calls Try.prog 6 #[arV gz (.slice va vn vc)] u7 fun e w' => e = .returned (.tuple #[.int .i64 (N + x.2), .int .i64 0]) ∧ Below u7.heap.size u7 w') := by
      have := free_any gz (.slice va vn vc) gL u7 HV7.out (by have := inr_chk hchk; exact this)
      rw [hchk, ← HGVe.out, hcnt, HN0.out] at this
      exact this
    have hmx := row_mem (chk_ok HC0.out).2.2.2 (List.mem_of_getElem? hx)
    have hix : idx L p < L.length := (gv_parts HGC.out).2.1
    obtain ⟨i, hi⟩ : ∃ i, idx L p = i := ⟨_, rfl⟩
    have hx' : L[i]? = some x := by rw [← hi]; exact hx
    have HIXV : Hid (ixV L p = (i : Int)) := by show _ = _; unfold ixV; rw [if_pos hix, hi]
    have hin : i < n := by rw [← hi, ← HN.out]; exact hix
    have hz2 := (chk_ok HC0.out).2.1
    obtain ⟨xp, xs⟩ := x
    simp only at hmx hz2 HF7
    obtain ⟨K, hK⟩ : ∃ K, N + xs = K := ⟨_, rfl⟩
    rw [hK] at HF7
    have hK1 : 0 ≤ xs := by omega
    have hK2 : xs ≤ 65536 := by omega
    clear hx hcnt k1 k2 k3 k4 k5 hchk hix hi hmx hz2
    go_wp2_with fail
    refine HF7.out.mono ?_
    rintro e u8 ⟨rfl, hb8⟩
    have HR8 : Hid (Below w2.heap.size w2 u8) := bsq HR7.out hb8
    obtain ⟨q0, q1⟩ := HX.out u8 HR8.out
    obtain ⟨⟨_, m0, m1⟩, _⟩ := boxC q0
    have HI8 : Hid (Calls Try.prog 10 #[.slice a n c, .func (.func 11) #[] #[.pointer (some ⟨w1.heap.size, 0, none⟩)]] u8 fun e w' => e = .returned (.int .i64 (i : Int)) ∧ Below u8.heap.size u8 w') := by
      have := indexFunc_any 11 w1.heap.size p (.slice a n c) L u8 (HS.out u8 HR8.out) (chk_ok HC0.out).2.2.1 (enters_of Try.func11 (by kernel_rfl) rfl) fun x u' hu' => by
        have h1 := (HX.out u' (bsq HR8.out hu')).2
        exact at_any x w1.heap.size p u' (by rw [cell_of_row _ _ _ _ _ (0, 0) h1]; rfl) (Array.getElem?_eq_some_iff.1 h1).1
      rw [HIXV.out] at this
      exact this
    clear q0 q1 hb8
    go_wp2_with fail
    refine HI8.out.mono ?_
    rintro e u9 ⟨rfl, hb9⟩
    have HR9 : Hid (Below w2.heap.size w2 u9) := bsq HR8.out hb9
    obtain ⟨q0, q1⟩ := HX.out u9 HR9.out
    obtain ⟨⟨_, n0, n1⟩, _⟩ := boxC q0
    obtain ⟨ga, off, rfl, hcell⟩ := (HS.out u9 HR9.out).at i (xp, xs) hx'
    obtain ⟨s0, s1⟩ := hcell u9 (Below.refl _ _)
    simp only at s0 s1
    have e6 : ((0 : Int) == 0) = true := rfl
    have e7 : decide ((i : Int) ≥ 0) = true := by rw [decide_eq_true_eq]; omega
    have e8 : (K == K) = true := by simp
    clear q0 q1 hb9 hcell hx'
    go_wp2
    go_ret
    exact ⟨rfl, HW.out _ HR9.out⟩
  have ht : tk = 0 := Classical.not_not.1 ht
  subst ht
  have e2 : ((0 : Int) == 0) = true := rfl
  have hct := count_take HTC.out
  rw [HTV.out, HN0.out] at hct
  obtain ⟨_, _, _, _, _, kc, _⟩ := tk_facts HTC.out
  rw [HTV.out] at kc
  obtain ⟨hs1, hs2, _⟩ := arg_ok (tk_parts HTC.out).2.1
  have HF4 : Hid (Calls Try.prog 6 #[arV tz (.slice ta tn tc)] u4 fun e w' => e = .returned (.tuple #[.int .i64 (N - s), .int .i64 0]) ∧ Below u4.heap.size u4 w') := by
    have := free_any tz (.slice ta tn tc) tL u4 HV4.out (by have := inr_chk kc; exact this)
    rw [hct, kc] at this
    exact this
  obtain ⟨M, hM⟩ : ∃ M, N - s = M := ⟨_, rfl⟩
  rw [hM] at HF4
  have e3 : (M != M) = false := by simp
  clear hct kc
  go_wp2_with fail
  try rw [hu4]
  refine HF4.out.mono ?_
  rintro e ur ⟨rfl, hbr⟩
  have HR : Hid (Below w2.heap.size w2 ur) := bsq HR4.out hbr
  clear hbr HF4
  go_upto_region 9 with (fail)
  have HGu : Hid (Calls Try.prog 9 #[arV z (.slice a n c), .int .i64 p] ur fun e w' => ∃ v, e = .returned (.tuple #[arV gz v, .int .i64 gk]) ∧ Sps w' ur.heap.size v gL ∧ Below ur.heap.size ur w') := HGV.out ur HR.out
  obtain ⟨q0, q1⟩ := HX.out ur HR.out
  obtain ⟨⟨_, a0, a1⟩, _⟩ := boxC q0
  have c7 : ur.cell? ⟨w1.heap.size, 0, none⟩ = some (.int .i64 p) := by rw [cell_of_row _ _ _ _ _ (0, 0) q1]; rfl
  clear q0 q1
  go_wp2_with fail
  refine HGu.out.mono ?_
  rintro e u5 ⟨v5, rfl, hv5, hb5⟩
  obtain ⟨u6, u7, hu6, hu7, hY6, hY7, hb7⟩ := laid2 u5 24 (.int .i64 0) (.slice none 0 0) (.int .i64 gz) v5
  have HR7 : Hid (Below w2.heap.size w2 u7) := bsq HR.out (bsq hb5 hb7)
  have HV7 : Hid (Rss u7 v5 gL) := hv5.rss.below hb7
  have HY7 : Hid (u7.heap[u5.heap.size]? = some (arO gz v5)) := hY7
  obtain ⟨va, vn, vc, rfl⟩ : ∃ a n c, v5 = .slice a n c := by obtain ⟨a, c, h, _⟩ := hv5.form; exact ⟨_, _, _, h⟩
  obtain ⟨⟨hz6, x0, x1⟩, f0, f1⟩ := boxC hY6
  obtain ⟨⟨hz7, y0, y1⟩, _⟩ := boxC hY7
  clear hv5 hb5 hY6 hY7 hb7 HGu
  by_cases hg : ¬ gk = 0
  · have e5 : (gk != 0) = true := by simpa using hg
    clear hg
    go_wp2
    go_ret
    exact ⟨rfl, HW.out _ HR7.out⟩
  have hg : gk = 0 := Classical.not_not.1 hg
  subst hg
  have e5 : ((0 : Int) != 0) = false := rfl
  obtain ⟨x, hx, hcnt⟩ := count_give HGC.out
  obtain ⟨A, xx, Bq, k1, k2, k3, k4, k5⟩ := gv_facts HGC.out
  have hchk : chk ⟨gz, gL⟩ = 0 := by rw [← HGVe.out]; exact k5
  have HF7 : Hid (Calls Try.prog 6 #[arV gz (.slice va vn vc)] u7 fun e w' => e = .returned (.tuple #[.int .i64 (N + x.2), .int .i64 0]) ∧ Below u7.heap.size u7 w') := by
    have := free_any gz (.slice va vn vc) gL u7 HV7.out (by have := inr_chk hchk; exact this)
    rw [hchk, ← HGVe.out, hcnt, HN0.out] at this
    exact this
  have hmx := row_mem (chk_ok HC0.out).2.2.2 (List.mem_of_getElem? hx)
  have hix : idx L p < L.length := (gv_parts HGC.out).2.1
  obtain ⟨i, hi⟩ : ∃ i, idx L p = i := ⟨_, rfl⟩
  have hx' : L[i]? = some x := by rw [← hi]; exact hx
  have HIXV : Hid (ixV L p = (i : Int)) := by show _ = _; unfold ixV; rw [if_pos hix, hi]
  have hin : i < n := by rw [← hi, ← HN.out]; exact hix
  have hz2 := (chk_ok HC0.out).2.1
  obtain ⟨xp, xs⟩ := x
  simp only at hmx hz2 HF7
  obtain ⟨K, hK⟩ : ∃ K, N + xs = K := ⟨_, rfl⟩
  rw [hK] at HF7
  have hK1 : 0 ≤ xs := by omega
  have hK2 : xs ≤ 65536 := by omega
  clear hx hcnt k1 k2 k3 k4 k5 hchk hix hi hmx hz2
  go_wp2_with fail
  refine HF7.out.mono ?_
  rintro e u8 ⟨rfl, hb8⟩
  have HR8 : Hid (Below w2.heap.size w2 u8) := bsq HR7.out hb8
  obtain ⟨q0, q1⟩ := HX.out u8 HR8.out
  obtain ⟨⟨_, m0, m1⟩, _⟩ := boxC q0
  have HI8 : Hid (Calls Try.prog 10 #[.slice a n c, .func (.func 11) #[] #[.pointer (some ⟨w1.heap.size, 0, none⟩)]] u8 fun e w' => e = .returned (.int .i64 (i : Int)) ∧ Below u8.heap.size u8 w') := by
    have := indexFunc_any 11 w1.heap.size p (.slice a n c) L u8 (HS.out u8 HR8.out) (chk_ok HC0.out).2.2.1 (enters_of Try.func11 (by kernel_rfl) rfl) fun x u' hu' => by
      have h1 := (HX.out u' (bsq HR8.out hu')).2
      exact at_any x w1.heap.size p u' (by rw [cell_of_row _ _ _ _ _ (0, 0) h1]; rfl) (Array.getElem?_eq_some_iff.1 h1).1
    rw [HIXV.out] at this
    exact this
  clear q0 q1 hb8
  go_wp2_with fail
  refine HI8.out.mono ?_
  rintro e u9 ⟨rfl, hb9⟩
  have HR9 : Hid (Below w2.heap.size w2 u9) := bsq HR8.out hb9
  obtain ⟨q0, q1⟩ := HX.out u9 HR9.out
  obtain ⟨⟨_, n0, n1⟩, _⟩ := boxC q0
  obtain ⟨ga, off, rfl, hcell⟩ := (HS.out u9 HR9.out).at i (xp, xs) hx'
  obtain ⟨s0, s1⟩ := hcell u9 (Below.refl _ _)
  simp only at s0 s1
  have e6 : ((0 : Int) == 0) = true := rfl
  have e7 : decide ((i : Int) ≥ 0) = true := by rw [decide_eq_true_eq]; omega
  have e8 : (K == K) = true := by simp
  clear q0 q1 hb9 hcell hx'
  go_wp2
  go_ret
  exact ⟨rfl, HW.out _ HR9.out⟩
end Go.Proofs.Ytifebinpjpalhab.arenaCount
