/- ArenaLeast: at no lower place would it have fit; and where it is full it would have fit at none, or there are too many spans. -/
import Derived.Test.YtifebinpjpalhaaAreK
namespace Go.Proofs.Ytifebinpjpalhaa.arenaLeast
open Go.RowKit Go.Proofs.Ytifebinpjpalhaa.arena
set_option linter.unusedVariables false
set_option linter.unusedSimpArgs false
set_option maxRecDepth 100000

theorem chk_few (a : Ar) : chk a = 0 ∨ chk a = 1 ∨ chk a = 2 ∨ chk a = 4 := by
  unfold chk
  split
  · exact .inr (.inl rfl)
  · split
    · exact .inr (.inr (.inl rfl))
    · split
      · exact .inr (.inr (.inr rfl))
      · exact .inl rfl
theorem tk_eleven {a : Ar} {s g : Int} (h : tkC a s g = 11) (hl : ¬ a.L.length = 64) : chk a = 0 ∧ argB s g = true ∧ (tkF a s g).ok = false := by
  have hf := chk_few a
  by_cases h1 : ¬ chk a = 0
  · rw [tk_chk h1] at h; omega
  have h1 : chk a = 0 := Classical.not_not.1 h1
  cases h2 : argB s g
  · rw [tk_arg h1 h2] at h; omega
  cases h3 : (tkF a s g).ok
  · exact ⟨h1, rfl, rfl⟩
  · rw [tk_good h1 h2 hl h3] at h; omega
set_option maxHeartbeats 8000000 in
theorem walk (z : Int) (x : Value) (L : List Sp) (s g p : Int) (ws : (Lit.int .i64 s).wf = true) (wg : (Lit.int .i64 g).wf = true) (wp : (Lit.int .i64 p).wf = true) (w : World) (hp : Rss w x L ∧ Inr L) :
    Calls Try.prog 7 #[arV z x, .int .i64 s, .int .i64 g, .int .i64 p] w fun e w' => e = .returned (.bool true) ∧ Below w.heap.size w w' := by
  clear ws wg wp
  obtain ⟨hv, hI⟩ := hp
  obtain ⟨a, c, rfl, hlc, hcm⟩ := hv.form
  obtain ⟨n, hn⟩ : ∃ n, L.length = n := ⟨_, rfl⟩
  have HN : Hid (L.length = n) := hn
  rw [hn] at hv hlc ⊢
  obtain ⟨w1, hw1, hX1, hb1⟩ := named w (arO z (.slice a n c))
  obtain ⟨⟨hz, x0, x1⟩, _⟩ := boxC hX1
  have HW : Hid (∀ u, Below w1.heap.size w1 u → Below w.heap.size w u) := fun u hu => bsq hb1 hu
  have HX : Hid (∀ u, Below w1.heap.size w1 u → u.heap[w.heap.size]? = some (arO z (.slice a n c))) := fun u hu => keep hX1 hu
  have HSS : Hid (∀ u, Below w1.heap.size w1 u → Rss u (.slice a n c) L) := fun u hu => hv.below (bsq hb1 hu)
  have HLI : Hid (∀ u, Calls Try.prog 19 #[] u fun e w' => e = .returned (.bool true) ∧ Below u.heap.size u w') := lives_any
  obtain ⟨tz, htz⟩ : ∃ q, (tkV ⟨z, L⟩ s g).z = q := ⟨_, rfl⟩
  obtain ⟨tL, htL⟩ : ∃ q, (tkV ⟨z, L⟩ s g).L = q := ⟨_, rfl⟩
  obtain ⟨tk, htk⟩ : ∃ q, tkC ⟨z, L⟩ s g = q := ⟨_, rfl⟩
  obtain ⟨tp, htp⟩ : ∃ q, tkP ⟨z, L⟩ s g = q := ⟨_, rfl⟩
  have HTV : Hid (tkV ⟨z, L⟩ s g = ⟨tz, tL⟩) := by show _ = _; rw [← htz, ← htL]
  have HTC : Hid (tkC ⟨z, L⟩ s g = tk) := htk
  have HTP : Hid (tkP ⟨z, L⟩ s g = tp) := htp
  have HT : Hid (Calls Try.prog 15 #[arV z (.slice a n c), .int .i64 s, .int .i64 g] w1 fun e w' => ∃ v, e = .returned (.tuple #[arV tz v, .int .i64 tp, .int .i64 tk]) ∧ Sps w' w1.heap.size v tL ∧ Below w1.heap.size w1 w') := by
    have := take_any z (.slice a n c) L s g w1 (hv.below hb1) hI
    rw [htk, htp, HTV.out] at this
    exact this
  unfold maxLen at hcm
  clear hv hI hn hX1 hb1 htz htL htk htp
  go_enter Try.func7, Try.ntmps7
  go_wp2_with fail
  refine HT.out.mono ?_
  rintro e u1 ⟨v1, rfl, hv1, hb1⟩
  obtain ⟨u1', u2, hu1', hu2, hY1, hY2, hb2⟩ := laid2 u1 24 (.int .i64 0) (.slice none 0 0) (.int .i64 tz) v1
  have HR2 : Hid (Below w1.heap.size w1 u2) := bsq hb1 hb2
  obtain ⟨ta, tn, tc, rfl⟩ : ∃ a n c, v1 = .slice a n c := by obtain ⟨a, c, h, _⟩ := hv1.form; exact ⟨_, _, _, h⟩
  obtain ⟨⟨hz1, t0, t1⟩, f0, f1⟩ := boxC hY1
  clear hv1 hb1 hY1 hY2 hb2 HT
  go_wp2_with fail
  try rw [hu2]
  clear hu2 hu1' t0 t1 f0 f1
  refine (HLI.out _).mono ?_
  rintro e u3 ⟨rfl, hb3⟩
  have HR3 : Hid (Below w1.heap.size w1 u3) := bsq HR2.out hb3
  obtain ⟨⟨_, a0, a1⟩, _⟩ := boxC (HX.out u3 HR3.out)
  clear hb3 HR2
  by_cases ht : tk = 0
  · subst ht
    have e1 : ((0 : Int) != 0) = false := rfl
    have HCH : Hid (chk ⟨z, L⟩ = 0) := (tk_parts HTC.out).1
    have HAR : Hid (argB s g = true) := (tk_parts HTC.out).2.1
    have HLE : Hid (∀ q, 0 ≤ q → Fit z s g L q → tp ≤ q) := by
      obtain ⟨_, _, _, _, _, _, _, _, k⟩ := tk_facts HTC.out
      rw [HTP.out] at k
      exact k
    go_upto_region 4 with (fail)
    obtain ⟨hzz0, hzz, _, hrow⟩ := chk_ok HCH.out
    simp only at hzz0 hzz hrow
    have HROW : Hid (rowB z 0 L = true) := hrow
    obtain ⟨hs1, hs2, hg1, hg2, hgd⟩ := arg_ok HAR.out
    have hg0 : (g == 0) = false := by rw [beq_eq_false_iff_ne]; omega
    clear hrow hgd
    by_cases h1 : p < 0
    · have d1 : decide (p < 0) = true := decide_eq_true h1
      clear h1
      go_wp2
      go_ret
      exact ⟨rfl, HW.out _ HR3.out⟩
    have d1 : decide (p < 0) = false := decide_eq_false h1
    obtain ⟨D, hD⟩ : ∃ D, z - s = D := ⟨_, rfl⟩
    by_cases h2 : p > D
    · have d2 : decide (p > D) = true := decide_eq_true h2
      clear h2
      go_wp2
      go_ret
      exact ⟨rfl, HW.out _ HR3.out⟩
    have d2 : decide (p > D) = false := decide_eq_false h2
    obtain ⟨M, hM⟩ : ∃ M, p.tmod g = M := ⟨_, rfl⟩
    have hMe : M = p % g := by rw [← hM]; exact Int.tmod_eq_emod_of_nonneg (by omega)
    have hM0 : 0 ≤ M := by rw [hMe]; exact Int.emod_nonneg _ (by omega)
    have hM1 : M ≤ 65536 := by rw [hMe]; have := Int.emod_lt_of_pos p hg1; omega
    by_cases h3 : M ≠ 0
    · have d3 : (M != 0) = true := by simpa using h3
      clear h3 hMe
      go_wp2
      go_ret
      exact ⟨rfl, HW.out _ HR3.out⟩
    have h3 : M = 0 := Classical.not_not.1 h3
    have d3 : (M != 0) = false := by simpa using h3
    obtain ⟨Q1, hQ1⟩ : ∃ M, p.tdiv 4096 = M := ⟨_, rfl⟩
    obtain ⟨Q2, hQ2⟩ : ∃ M, (p + s - 1).tdiv 4096 = M := ⟨_, rfl⟩
    have hq1 : Q1 = p / 4096 := by rw [← hQ1]; exact Int.tdiv_eq_ediv_of_nonneg (by omega)
    have hq2 : Q2 = (p + s - 1) / 4096 := by rw [← hQ2]; exact Int.tdiv_eq_ediv_of_nonneg (by omega)
    have hb1 : 0 ≤ Q1 := by omega
    have hb2 : Q1 ≤ 65536 := by omega
    have hb3 : 0 ≤ Q2 := by omega
    have hb4 : Q2 ≤ 65536 := by omega
    by_cases h4 : Q1 ≠ Q2
    · have d4 : (Q1 != Q2) = true := by simpa using h4
      clear h4 hq1 hq2 hMe h3
      go_wp2
      go_ret
      exact ⟨rfl, HW.out _ HR3.out⟩
    have h4 : Q1 = Q2 := Classical.not_not.1 h4
    have d4 : (Q1 != Q2) = false := by simpa using h4
    have HFT : Hid ((∀ y ∈ L, p + s ≤ y.1 ∨ y.1 + y.2 ≤ p) → Fit z s g L p) := fun h => ⟨by omega, by omega, by omega, h⟩
    have hm1 : 0 ≤ p := by omega
    have hm2 : p ≤ D := by omega
    have hm3 : 0 ≤ p := hm1
    have hm4 : p ≤ 65536 := by omega
    clear h1 h2 h3 h4 hMe hq1 hq2

    have e5 : ((0 : Int) == 0) = true := rfl
    by_cases h5 : p ≥ tp
    · have d5 : decide (p ≥ tp) = true := decide_eq_true h5
      clear h5 hm1 hm2
      go_wp2
      go_ret
      exact ⟨rfl, HW.out _ HR3.out⟩
    have d5 : decide (p ≥ tp) = false := decide_eq_false h5
    have HNF : Hid (¬ ∀ y ∈ L, p + s ≤ y.1 ∨ y.1 + y.2 ≤ p) := fun h => by
      have := HLE.out p hm1 (HFT.out h)
      omega
    clear h5 HFT
    clear hm1 hm2
    go_wp2
    go_loopw [77] (fun i wr => ∃ (k : Nat), k ≤ n ∧ i = .int .i64 (k : Int) ∧ Below w1.heap.size w1 wr ∧ Hid (∀ y ∈ L.take k, p + s ≤ y.1 ∨ y.1 + y.2 ≤ p)) (fun i _ => n - (intOf i).toNat)
    case atStart => exact ⟨0, Nat.zero_le _, rfl, HR3.out, fun y hy => by simp at hy⟩
    case round =>
      obtain ⟨k, hk, rfl, hbr, HA⟩ := hrel
      have HBr : Hid (Below w1.heap.size w1 wr) := hbr
      by_cases hlt : ¬ k < n
      · exfalso
        have h1 := HA.out
        rw [List.take_of_length_le (by have := HN.out; omega)] at h1
        exact HNF.out h1
      have hlt : k < n := by omega
      have hkL : k < L.length := by have := HN.out; omega
      obtain ⟨y, hy⟩ : ∃ y, L[k]? = some y := ⟨L[k], List.getElem?_eq_getElem hkL⟩
      obtain ⟨r1, r2, r3⟩ := row_mem HROW.out (List.mem_of_getElem? hy)
      have HA2 : Hid ((p + s ≤ y.1 ∨ y.1 + y.2 ≤ p) → ∀ x ∈ L.take (k + 1), p + s ≤ x.1 ∨ x.1 + x.2 ≤ p) := fun h x hx => by
        rw [List.take_add_one, hy] at hx
        rcases List.mem_append.1 hx with hx | hx
        · exact HA.out x hx
        · obtain rfl : x = y := by simpa using hx
          exact h
      obtain ⟨ga, off, rfl, hcell⟩ := (HSS.out wr hbr).at k y hy
      obtain ⟨c0, c1⟩ := hcell wr (Below.refl _ _)
      obtain ⟨yp, ys⟩ := y
      simp only at c0 c1 r1 r2 r3 HA2
      obtain ⟨v1, vf, hv1, hvf, hY1, hYf, hbf⟩ := laid2 wr 43 (.int .i64 0) (.int .i64 0) (.int .i64 yp) (.int .i64 ys)
      obtain ⟨⟨hy, y0, y1⟩, g0, g1⟩ := boxC hY1
      obtain ⟨⟨hyf, z0, z1⟩, _⟩ := boxC hYf
      have HBf : Hid (Below w1.heap.size w1 vf) := bsq hbr hbf
      clear hcell hy hkL hbr hbf hY1 hYf HA
      obtain ⟨E1, hE1⟩ : ∃ q, p + s = q := ⟨_, rfl⟩
      obtain ⟨E2, hE2⟩ : ∃ q, yp + ys = q := ⟨_, rfl⟩
      by_cases q1 : yp < E1
      · have f1 : decide (yp < E1) = true := decide_eq_true q1
        by_cases q2 : p < E2
        · have f2 : decide (p < E2) = true := decide_eq_true q2
          clear q1 q2 HA2
          go_wp2_with fail
          try rw [hvf]
          go_wp2
          go_ret
          exact ⟨rfl, HW.out _ HBf.out⟩
        · have f2 : decide (p < E2) = false := decide_eq_false q2
          have HA3 : Hid (∀ x ∈ L.take (k + 1), p + s ≤ x.1 ∨ x.1 + x.2 ≤ p) := HA2.out (.inr (by omega))
          clear q1 q2 HA2
          go_wp2_with fail
          try rw [hvf]
          go_wp2
          go_roundw
          case rel => exact ⟨k + 1, by omega, by go_num, HBf.out, HA3.out⟩
          case measure => simp [intOf]; omega
      · have f1 : decide (yp < E1) = false := decide_eq_false q1
        have HA3 : Hid (∀ x ∈ L.take (k + 1), p + s ≤ x.1 ∨ x.1 + x.2 ≤ p) := HA2.out (.inl (by omega))
        clear q1 HA2
        go_wp2_with fail
        try rw [hvf]
        go_wp2
        go_roundw
        case rel => exact ⟨k + 1, by omega, by go_num, HBf.out, HA3.out⟩
        case measure => simp [intOf]; omega
  have e1 : (tk != 0) = true := by simpa using ht
  by_cases ht2 : tk ≠ 11
  · have e2 : (tk != 11) = true := by simpa using ht2
    clear ht ht2
    go_wp2_with fail
    refine (HLI.out _).mono ?_
    rintro e u4 ⟨rfl, hb4⟩
    have HR4 : Hid (Below w1.heap.size w1 u4) := bsq HR3.out hb4
    clear hb4
    go_wp2
    go_ret
    exact ⟨rfl, HW.out _ HR4.out⟩
  have ht2 : tk = 11 := Classical.not_not.1 ht2
  subst ht2
  have e2 : ((11 : Int) != 11) = false := rfl
  by_cases hn : n = 64
  · have e3 : ((n : Int) == 64) = true := by rw [beq_iff_eq]; omega
    clear ht hn
    go_wp2_with fail
    refine (HLI.out _).mono ?_
    rintro e u4 ⟨rfl, hb4⟩
    have HR4 : Hid (Below w1.heap.size w1 u4) := bsq HR3.out hb4
    clear hb4
    go_wp2
    go_ret
    exact ⟨rfl, HW.out _ HR4.out⟩
  have e3 : ((n : Int) == 64) = false := by rw [beq_eq_false_iff_ne]; omega
  obtain ⟨k1, k2, k3⟩ := tk_eleven HTC.out (by show ¬ L.length = 64; rw [HN.out]; exact hn)
  have HCH : Hid (chk ⟨z, L⟩ = 0) := k1
  have HAR : Hid (argB s g = true) := k2
  have HLE : Hid (∀ q, 0 ≤ q → ¬ Fit z s g L q) := tk_full k1 k2 k3
  clear k1 k2 k3 hn ht
  go_upto_region 4 with (fail)
  obtain ⟨hzz0, hzz, _, hrow⟩ := chk_ok HCH.out
  simp only at hzz0 hzz hrow
  have HROW : Hid (rowB z 0 L = true) := hrow
  obtain ⟨hs1, hs2, hg1, hg2, hgd⟩ := arg_ok HAR.out
  have hg0 : (g == 0) = false := by rw [beq_eq_false_iff_ne]; omega
  clear hrow hgd
  by_cases h1 : p < 0
  · have d1 : decide (p < 0) = true := decide_eq_true h1
    clear h1
    go_wp2
    go_ret
    exact ⟨rfl, HW.out _ HR3.out⟩
  have d1 : decide (p < 0) = false := decide_eq_false h1
  obtain ⟨D, hD⟩ : ∃ D, z - s = D := ⟨_, rfl⟩
  by_cases h2 : p > D
  · have d2 : decide (p > D) = true := decide_eq_true h2
    clear h2
    go_wp2
    go_ret
    exact ⟨rfl, HW.out _ HR3.out⟩
  have d2 : decide (p > D) = false := decide_eq_false h2
  obtain ⟨M, hM⟩ : ∃ M, p.tmod g = M := ⟨_, rfl⟩
  have hMe : M = p % g := by rw [← hM]; exact Int.tmod_eq_emod_of_nonneg (by omega)
  have hM0 : 0 ≤ M := by rw [hMe]; exact Int.emod_nonneg _ (by omega)
  have hM1 : M ≤ 65536 := by rw [hMe]; have := Int.emod_lt_of_pos p hg1; omega
  by_cases h3 : M ≠ 0
  · have d3 : (M != 0) = true := by simpa using h3
    clear h3 hMe
    go_wp2
    go_ret
    exact ⟨rfl, HW.out _ HR3.out⟩
  have h3 : M = 0 := Classical.not_not.1 h3
  have d3 : (M != 0) = false := by simpa using h3
  obtain ⟨Q1, hQ1⟩ : ∃ M, p.tdiv 4096 = M := ⟨_, rfl⟩
  obtain ⟨Q2, hQ2⟩ : ∃ M, (p + s - 1).tdiv 4096 = M := ⟨_, rfl⟩
  have hq1 : Q1 = p / 4096 := by rw [← hQ1]; exact Int.tdiv_eq_ediv_of_nonneg (by omega)
  have hq2 : Q2 = (p + s - 1) / 4096 := by rw [← hQ2]; exact Int.tdiv_eq_ediv_of_nonneg (by omega)
  have hb1 : 0 ≤ Q1 := by omega
  have hb2 : Q1 ≤ 65536 := by omega
  have hb3 : 0 ≤ Q2 := by omega
  have hb4 : Q2 ≤ 65536 := by omega
  by_cases h4 : Q1 ≠ Q2
  · have d4 : (Q1 != Q2) = true := by simpa using h4
    clear h4 hq1 hq2 hMe h3
    go_wp2
    go_ret
    exact ⟨rfl, HW.out _ HR3.out⟩
  have h4 : Q1 = Q2 := Classical.not_not.1 h4
  have d4 : (Q1 != Q2) = false := by simpa using h4
  have HFT : Hid ((∀ y ∈ L, p + s ≤ y.1 ∨ y.1 + y.2 ≤ p) → Fit z s g L p) := fun h => ⟨by omega, by omega, by omega, h⟩
  have hm1 : 0 ≤ p := by omega
  have hm2 : p ≤ D := by omega
  have hm3 : 0 ≤ p := hm1
  have hm4 : p ≤ 65536 := by omega
  clear h1 h2 h3 h4 hMe hq1 hq2

  have e5 : ((11 : Int) == 0) = false := rfl
  have HNF : Hid (¬ ∀ y ∈ L, p + s ≤ y.1 ∨ y.1 + y.2 ≤ p) := fun h => HLE.out p hm1 (HFT.out h)
  clear HFT
  clear hm1 hm2
  go_wp2
  go_loopw [77] (fun i wr => ∃ (k : Nat), k ≤ n ∧ i = .int .i64 (k : Int) ∧ Below w1.heap.size w1 wr ∧ Hid (∀ y ∈ L.take k, p + s ≤ y.1 ∨ y.1 + y.2 ≤ p)) (fun i _ => n - (intOf i).toNat)
  case atStart => exact ⟨0, Nat.zero_le _, rfl, HR3.out, fun y hy => by simp at hy⟩
  case round =>
    obtain ⟨k, hk, rfl, hbr, HA⟩ := hrel
    have HBr : Hid (Below w1.heap.size w1 wr) := hbr
    by_cases hlt : ¬ k < n
    · exfalso
      have h1 := HA.out
      rw [List.take_of_length_le (by have := HN.out; omega)] at h1
      exact HNF.out h1
    have hlt : k < n := by omega
    have hkL : k < L.length := by have := HN.out; omega
    obtain ⟨y, hy⟩ : ∃ y, L[k]? = some y := ⟨L[k], List.getElem?_eq_getElem hkL⟩
    obtain ⟨r1, r2, r3⟩ := row_mem HROW.out (List.mem_of_getElem? hy)
    have HA2 : Hid ((p + s ≤ y.1 ∨ y.1 + y.2 ≤ p) → ∀ x ∈ L.take (k + 1), p + s ≤ x.1 ∨ x.1 + x.2 ≤ p) := fun h x hx => by
      rw [List.take_add_one, hy] at hx
      rcases List.mem_append.1 hx with hx | hx
      · exact HA.out x hx
      · obtain rfl : x = y := by simpa using hx
        exact h
    obtain ⟨ga, off, rfl, hcell⟩ := (HSS.out wr hbr).at k y hy
    obtain ⟨c0, c1⟩ := hcell wr (Below.refl _ _)
    obtain ⟨yp, ys⟩ := y
    simp only at c0 c1 r1 r2 r3 HA2
    obtain ⟨v1, vf, hv1, hvf, hY1, hYf, hbf⟩ := laid2 wr 43 (.int .i64 0) (.int .i64 0) (.int .i64 yp) (.int .i64 ys)
    obtain ⟨⟨hy, y0, y1⟩, g0, g1⟩ := boxC hY1
    obtain ⟨⟨hyf, z0, z1⟩, _⟩ := boxC hYf
    have HBf : Hid (Below w1.heap.size w1 vf) := bsq hbr hbf
    clear hcell hy hkL hbr hbf hY1 hYf HA
    obtain ⟨E1, hE1⟩ : ∃ q, p + s = q := ⟨_, rfl⟩
    obtain ⟨E2, hE2⟩ : ∃ q, yp + ys = q := ⟨_, rfl⟩
    by_cases q1 : yp < E1
    · have f1 : decide (yp < E1) = true := decide_eq_true q1
      by_cases q2 : p < E2
      · have f2 : decide (p < E2) = true := decide_eq_true q2
        clear q1 q2 HA2
        go_wp2_with fail
        try rw [hvf]
        go_wp2
        go_ret
        exact ⟨rfl, HW.out _ HBf.out⟩
      · have f2 : decide (p < E2) = false := decide_eq_false q2
        have HA3 : Hid (∀ x ∈ L.take (k + 1), p + s ≤ x.1 ∨ x.1 + x.2 ≤ p) := HA2.out (.inr (by omega))
        clear q1 q2 HA2
        go_wp2_with fail
        try rw [hvf]
        go_wp2
        go_roundw
        case rel => exact ⟨k + 1, by omega, by go_num, HBf.out, HA3.out⟩
        case measure => simp [intOf]; omega
    · have f1 : decide (yp < E1) = false := decide_eq_false q1
      have HA3 : Hid (∀ x ∈ L.take (k + 1), p + s ≤ x.1 ∨ x.1 + x.2 ≤ p) := HA2.out (.inl (by omega))
      clear q1 HA2
      go_wp2_with fail
      try rw [hvf]
      go_wp2
      go_roundw
      case rel => exact ⟨k + 1, by omega, by go_num, HBf.out, HA3.out⟩
      case measure => simp [intOf]; omega
end Go.Proofs.Ytifebinpjpalhaa.arenaLeast
