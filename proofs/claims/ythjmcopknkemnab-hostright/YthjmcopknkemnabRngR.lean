/- plugref: what Between, Ring and GoneOn answer. -/
import Derived.Test.YthjmcopknkemnabRngG
namespace Go.Proofs.Ythjmcopknkemnab.ring
open Go.RowKit
set_option linter.unusedVariables false
set_option linter.unusedSimpArgs false
set_option maxRecDepth 100000

theorem between_any (a lo hi : Int) (w : World) : Calls Try.prog 49 #[.int .i64 a, .int .i64 lo, .int .i64 hi] w fun e w' => e = .returned (.bool (decide (lo ≤ a) && decide (a ≤ hi))) ∧ w = w' := by
  cases h1 : decide (lo ≤ a) <;> cases h2 : decide (a ≤ hi) <;> (go_enter Try.func49, Try.ntmps49; go_wp2; go_ret; exact ⟨rfl, rfl⟩)
theorem betBit (x : Int) (w : World) : Calls Try.prog 49 #[.int .i64 x, .int .i64 0, .int .i64 1] w fun e w' => e = .returned (.bool (bitB x)) ∧ w = w' := by
  have := between_any x 0 1 w
  rw [bit_between] at this
  exact this
theorem betCn (x : Int) (w : World) : Calls Try.prog 49 #[.int .i64 x, .int .i64 3, .int .i64 64] w fun e w' => e = .returned (.bool (cnB x)) ∧ w = w' := between_any x 3 64 w
theorem refB_eq (n : Nat) (L : List Ce) (pa pb ga gb sn : Int) : ((bitB pb && (bitB gb && (plB n pa && (plB n ga && plB n sn)))) && okC n 0 L) = (okC n 0 L && ((plB n pa && bitB pb) && ((plB n ga && bitB gb) && plB n sn))) := by
  cases okC n 0 L <;> cases bitB pb <;> cases bitB gb <;> cases plB n pa <;> cases plB n ga <;> cases plB n sn <;> rfl
set_option maxHeartbeats 8000000 in
theorem refRing_any (v : Value) (r : Rg) (w : World) (hv : Rcs w v r.C) :
    Calls Try.prog 24 #[rgV v r.pa r.pb r.ga r.gb r.sn] w fun e w' => e = .returned (.int .i64 (chk r)) ∧ Below w.heap.size w w' := by
  obtain ⟨L, pa, pb, ga, gb, sn⟩ := r
  simp only at hv ⊢
  obtain ⟨ad, c, rfl, hlc, hcm⟩ := hv.form
  obtain ⟨n, hn⟩ : ∃ n, L.length = n := ⟨_, rfl⟩
  obtain ⟨z, hz⟩ : ∃ z, chk ⟨L, pa, pb, ga, gb, sn⟩ = z := ⟨_, rfl⟩
  have HK : Hid ((if cnB n = false then (1 : Int) else if ((bitB pb && (bitB gb && (plB n pa && (plB n ga && plB n sn)))) && okC n 0 L) = false then 4 else 0) = z) := by
    show _ = _
    rw [← hz, ← hn, refB_eq]; rfl
  rw [hz]
  rw [hn] at hv hlc ⊢
  obtain ⟨w1, hw1, hX1, hb1⟩ := named w (rgO (.slice ad n c) pa pb ga gb sn)
  obtain ⟨⟨hzz, x0, x1, x2, x3, x4, x5⟩, _⟩ := box6 hX1
  have HB1 : Hid (Below w.heap.size w w1) := hb1
  have HX : Hid (∀ u, Below w1.heap.size w1 u → u.heap[w.heap.size]? = some (rgO (.slice ad n c) pa pb ga gb sn)) := fun u hu => keep hX1 hu
  have HR : Hid (Rcs w1 (.slice ad n c) L) := hv.below hb1
  have HN : Hid (L.length = n) := hn
  have HS : Hid (∀ u, Calls Try.prog 49 #[.int .i64 (n : Int), .int .i64 3, .int .i64 64] u fun e w' => e = .returned (.bool (cnB n)) ∧ u = w') := betCn n
  unfold maxLen at hcm
  cases hs : cnB n
  · rw [hs] at HS HK
    have HQ : Hid ((1 : Int) = z) := HK.out
    clear HK hs hv hX1 hb1 hz hn
    go_enter Try.func24, Try.ntmps24
    go_wp2_with fail
    refine (HS.out _).mono ?_
    rintro e u ⟨rfl, rfl⟩
    go_wp2
    go_ret
    rw [← HQ.out]
    exact ⟨rfl, HB1.out⟩
  have hs2 := cn_iff.1 hs
  have h3 : 3 ≤ n := by omega
  have h64 : n ≤ 64 := by omega
  rw [hs] at HS HK
  have HK2 : Hid ((if ((bitB pb && (bitB gb && (plB n pa && (plB n ga && plB n sn)))) && okC n 0 L) = false then (4 : Int) else 0) = z) := HK.out
  obtain ⟨m, hm⟩ : ∃ m, (n : Int) - 2 = m := ⟨_, rfl⟩
  have HP : Hid (∀ x u, Calls Try.prog 49 #[.int .i64 x, .int .i64 0, .int .i64 m] u fun e w' => e = .returned (.bool (plB n x)) ∧ u = w') := fun x u => by
    have := between_any x 0 m u
    rw [← hm, pl_between, hm] at this
    exact this
  clear HK hs hv hX1 hb1 hz hn hs2
  go_enter Try.func24, Try.ntmps24
  go_wp2_with fail
  refine (HS.out _).mono ?_
  rintro e u ⟨rfl, rfl⟩
  obtain ⟨f0, hf0⟩ : ∃ f, (bitB pb && (bitB gb && (plB n pa && (plB n ga && plB n sn)))) = f := ⟨_, rfl⟩
  have HF : Hid ((bitB pb && (bitB gb && (plB n pa && (plB n ga && plB n sn)))) = f0) := hf0
  rw [hf0] at HK2
  clear hf0
  go_upto_region 4 with (fail)
  go_cut [4] from 10 (fun fv wx => fv = .bool f0 ∧ w1 = wx)
  case first =>
    cases b1 : bitB pb
    · have hF : f0 = false := by rw [← HF.out, b1]; rfl
      go_wp2_with fail
      refine (betBit pb _).mono ?_
      rintro e u ⟨rfl, rfl⟩
      rw [b1]
      go_wp2_with fail
      go_meet
      case rel => exact ⟨by rw [hF], rfl⟩
    cases b2 : bitB gb
    · have hF : f0 = false := by rw [← HF.out, b1, b2]; rfl
      go_wp2_with fail
      refine (betBit pb _).mono ?_
      rintro e u ⟨rfl, rfl⟩
      rw [b1]
      go_wp2_with fail
      refine (betBit gb _).mono ?_
      rintro e u ⟨rfl, rfl⟩
      rw [b2]
      go_wp2_with fail
      go_meet
      case rel => exact ⟨by rw [hF], rfl⟩
    cases b3 : plB n pa
    · have hF : f0 = false := by rw [← HF.out, b1, b2, b3]; rfl
      go_wp2_with fail
      refine (betBit pb _).mono ?_
      rintro e u ⟨rfl, rfl⟩
      rw [b1]
      go_wp2_with fail
      refine (betBit gb _).mono ?_
      rintro e u ⟨rfl, rfl⟩
      rw [b2]
      go_wp2_with fail
      refine (HP.out pa _).mono ?_
      rintro e u ⟨rfl, rfl⟩
      rw [b3]
      go_wp2_with fail
      go_meet
      case rel => exact ⟨by rw [hF], rfl⟩
    cases b4 : plB n ga
    · have hF : f0 = false := by rw [← HF.out, b1, b2, b3, b4]; rfl
      go_wp2_with fail
      refine (betBit pb _).mono ?_
      rintro e u ⟨rfl, rfl⟩
      rw [b1]
      go_wp2_with fail
      refine (betBit gb _).mono ?_
      rintro e u ⟨rfl, rfl⟩
      rw [b2]
      go_wp2_with fail
      refine (HP.out pa _).mono ?_
      rintro e u ⟨rfl, rfl⟩
      rw [b3]
      go_wp2_with fail
      refine (HP.out ga _).mono ?_
      rintro e u ⟨rfl, rfl⟩
      rw [b4]
      go_wp2_with fail
      go_meet
      case rel => exact ⟨by rw [hF], rfl⟩
    have hF : f0 = plB n sn := by rw [← HF.out, b1, b2, b3, b4]; rfl
    go_wp2_with fail
    refine (betBit pb _).mono ?_
    rintro e u ⟨rfl, rfl⟩
    rw [b1]
    go_wp2_with fail
    refine (betBit gb _).mono ?_
    rintro e u ⟨rfl, rfl⟩
    rw [b2]
    go_wp2_with fail
    refine (HP.out pa _).mono ?_
    rintro e u ⟨rfl, rfl⟩
    rw [b3]
    go_wp2_with fail
    refine (HP.out ga _).mono ?_
    rintro e u ⟨rfl, rfl⟩
    rw [b4]
    go_wp2_with fail
    refine (HP.out sn _).mono ?_
    rintro e u ⟨rfl, rfl⟩
    go_wp2_with fail
    go_meet
    case rel => exact ⟨by rw [hF], rfl⟩
  case rest =>
  obtain ⟨rfl, rfl⟩ := hcut
  obtain ⟨q, hq⟩ : ∃ q, (f0 && okC n 0 L) = q := ⟨_, rfl⟩
  rw [hq] at HK2
  have HQ : Hid ((f0 && okC n 0 L) = q) := hq
  clear hq
  go_wp2
  go_loopw [4, 49] (fun fv i wr => ∃ (k : Nat) (f : Bool), k ≤ n ∧ i = .int .i64 (k : Int) ∧ fv = .bool f ∧ Hid (Below w1.heap.size w1 wr ∧ (f && okC n k (L.drop k)) = q)) (fun _ i _ => n - (intOf i).toNat)
  case atStart => exact ⟨0, f0, Nat.zero_le _, rfl, rfl, Below.refl _ _, HQ.out⟩
  case round =>
    obtain ⟨k, f, hk, rfl, rfl, HA⟩ := hrel
    by_cases hlt : ¬ k < n
    · have hfq : f = q := by have := HA.out.2; rw [List.drop_eq_nil_of_le (by have := HN.out; omega)] at this; simpa [okC] using this
      have HBr : Hid (Below w1.heap.size w1 wr) := HA.out.1
      clear HA
      subst hfq
      cases f
      · have HQ2 : Hid ((4 : Int) = z) := HK2.out
        go_wp2
        go_ret
        rw [← HQ2.out]
        exact ⟨rfl, bsq HB1.out HBr.out⟩
      · have HQ2 : Hid ((0 : Int) = z) := HK2.out
        go_wp2
        go_ret
        rw [← HQ2.out]
        exact ⟨rfl, bsq HB1.out HBr.out⟩
    have hlt : k < n := by omega
    have hkL : k < L.length := by have := HN.out; omega
    obtain ⟨x, hx⟩ : ∃ x, L[k]? = some x := ⟨L[k], List.getElem?_eq_getElem hkL⟩
    obtain ⟨f', hf'⟩ : ∃ f', (f && (ceB n k x && (decide (k + 1 < n) || x.1 == 0))) = f' := ⟨_, rfl⟩
    have HA2 : Hid ((f' && okC n (k + 1) (L.drop (k + 1))) = q) := by
      have := HA.out.2
      rw [okC_at hx, ← Bool.and_assoc, hf'] at this
      exact this
    obtain ⟨g, off, rfl, hcell⟩ := HR.out.at k x hx
    obtain ⟨c0, c1, c2⟩ := hcell wr HA.out.1
    obtain ⟨xw, xb, xl⟩ := x
    simp only at c0 c1 c2
    have HF' : Hid ((f && ((bitB xb && (xl == decide (k + 1 = n))) && (decide (k + 1 < n) || xw == 0))) = f') := hf'
    obtain ⟨u1, uf, hu1, huf, hY1, hYf, hbf⟩ := laid3 wr 78 (.int .u64 0) (.int .i64 0) (.bool false) (.int .u64 xw) (.int .i64 xb) (.bool xl)
    obtain ⟨⟨hy, y0, y1, y2⟩, g0, g1, g2⟩ := box3 hY1
    obtain ⟨⟨hyf, t0, t1, t2⟩, _⟩ := box3 hYf
    have HBf : Hid (Below w1.heap.size w1 uf) := bsq HA.out.1 hbf
    have hjn : (k : Int) + 1 ≤ 64 := by omega
    clear hcell hx hkL hbf hY1 hYf HA hf'
    go_upto_region 8 with (fail)
    try rw [huf]
    clear huf hu1 y0 y1 y2 g0 g1 g2 c0 c1 c2
    cases f
    · have hF : f' = false := HF'.out.symm
      go_wp2
      go_roundw
      case rel => exact ⟨k + 1, false, by omega, by go_num, rfl, HBf.out, by have := HA2.out; rw [hF] at this; exact this⟩
      case measure => simp [intOf]; omega
    cases b1 : bitB xb
    · have hF : f' = false := by rw [← HF'.out, b1]; rfl
      go_wp2_with fail
      refine (betBit xb _).mono ?_
      rintro e u ⟨rfl, rfl⟩
      rw [b1]
      go_wp2
      go_roundw
      case rel => exact ⟨k + 1, false, by omega, by go_num, rfl, HBf.out, by have := HA2.out; rw [hF] at this; exact this⟩
      case measure => simp [intOf]; omega
    have d1 : ((k : Int) + 1 == (n : Int)) = decide (k + 1 = n) := by
      by_cases q : k + 1 = n
      · rw [decide_eq_true q]; simp; omega
      · rw [decide_eq_false q]; simp; omega
    cases b2 : (xl == decide (k + 1 = n))
    · have hF : f' = false := by rw [← HF'.out, b1, b2]; rfl
      go_wp2_with fail
      refine (betBit xb _).mono ?_
      rintro e u ⟨rfl, rfl⟩
      rw [b1]
      go_wp2
      go_roundw
      case rel => exact ⟨k + 1, false, by omega, by go_num, rfl, HBf.out, by have := HA2.out; rw [hF] at this; exact this⟩
      case measure => simp [intOf]; omega
    by_cases b3 : k + 1 < n
    · have hF : f' = true := by rw [← HF'.out, b1, b2, decide_eq_true b3]; rfl
      have e3 : decide ((k : Int) + 1 < (n : Int)) = true := by rw [decide_eq_true_eq]; omega
      go_wp2_with fail
      refine (betBit xb _).mono ?_
      rintro e u ⟨rfl, rfl⟩
      rw [b1]
      go_wp2
      go_roundw
      case rel => exact ⟨k + 1, true, by omega, by go_num, rfl, HBf.out, by have := HA2.out; rw [hF] at this; exact this⟩
      case measure => simp [intOf]; omega
    · have hF : f' = (xw == 0) := by rw [← HF'.out, b1, b2, decide_eq_false b3]; simp
      have e3 : decide ((k : Int) + 1 < (n : Int)) = false := by rw [decide_eq_false_iff_not]; omega
      go_wp2_with fail
      refine (betBit xb _).mono ?_
      rintro e u ⟨rfl, rfl⟩
      rw [b1]
      go_wp2
      go_roundw
      case rel => exact ⟨k + 1, (xw == 0), by omega, by go_num, rfl, HBf.out, by have := HA2.out; rw [hF] at this; exact this⟩
      case measure => simp [intOf]; omega
end Go.Proofs.Ythjmcopknkemnab.ring
