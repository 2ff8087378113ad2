/- plugref: what Between, Ring and GoneOn answer. -/
import Derived.Test.YthjmcopknkemnaaRngG
import Derived.Lib.SliceRun
import Derived.Laws.StructEq
import Derived.Test.YthjmcopknkemnaaRngJ
namespace Go.Proofs.Ythjmcopknkemnaa.ring
open Go.RowKit
set_option linter.unusedVariables false
set_option linter.unusedSimpArgs false
set_option maxRecDepth 100000

theorem between_any (a lo hi : Int) (w : World) : Calls Try.prog 32 #[.int .i64 a, .int .i64 lo, .int .i64 hi] w fun e w' => e = .returned (.bool (decide (lo ≤ a) && decide (a ≤ hi))) ∧ w = w' := by
  cases h1 : decide (lo ≤ a) <;> cases h2 : decide (a ≤ hi) <;> (go_enter Try.func32, Try.ntmps32; go_wp2; go_ret; exact ⟨rfl, rfl⟩)
theorem betBit (x : Int) (w : World) : Calls Try.prog 32 #[.int .i64 x, .int .i64 0, .int .i64 1] w fun e w' => e = .returned (.bool (bitB x)) ∧ w = w' := by
  have := between_any x 0 1 w
  rw [bit_between] at this
  exact this
theorem betCn (x : Int) (w : World) : Calls Try.prog 32 #[.int .i64 x, .int .i64 3, .int .i64 64] w fun e w' => e = .returned (.bool (cnB x)) ∧ w = w' := between_any x 3 64 w
theorem refB_eq (n : Nat) (L : List Ce) (pa pb ga gb sn : Int) : ((bitB pb && (bitB gb && (plB n pa && (plB n ga && plB n sn)))) && okC n 0 L) = (okC n 0 L && ((plB n pa && bitB pb) && ((plB n ga && bitB gb) && plB n sn))) := by
  cases okC n 0 L <;> cases bitB pb <;> cases bitB gb <;> cases plB n pa <;> cases plB n ga <;> cases plB n sn <;> rfl
set_option maxHeartbeats 8000000 in
theorem refRing_any (v : Value) (r : Rg) (w : World) (hv : Rcs w v r.C) :
    Calls Try.prog 63 #[rgV v r.pa r.pb r.ga r.gb r.sn] w fun e w' => e = .returned (.int .i64 (chk r)) ∧ Below w.heap.size w w' := by
  obtain ⟨L, pa, pb, ga, gb, sn⟩ := r
  simp only at hv ⊢
  obtain ⟨ad, c, rfl, hlc, hcm⟩ := hv.form
  obtain ⟨n, hn⟩ : ∃ n, L.length = n := ⟨_, rfl⟩
  obtain ⟨z, hz⟩ : ∃ z, chk ⟨L, pa, pb, ga, gb, sn⟩ = z := ⟨_, rfl⟩
  have HK : Hid ((if cnB n = false then (1 : Int) else if ((bitB pb && (bitB gb && (plB n pa && (plB n ga && plB n sn)))) && okC n 0 L) = false then 4 else 0) = z) := by
    show _ = _
    rw [← hz, ← hn, refB_eq]; rfl
  rw [hz]
  rw [hn] at hv hlc ⊢
  obtain ⟨w1, hw1, hX1, hb1⟩ := named w (rgO (.slice ad n c) pa pb ga gb sn)
  obtain ⟨⟨hzz, x0, x1, x2, x3, x4, x5⟩, _⟩ := box6 hX1
  have HB1 : Hid (Below w.heap.size w w1) := hb1
  have HX : Hid (∀ u, Below w1.heap.size w1 u → u.heap[w.heap.size]? = some (rgO (.slice ad n c) pa pb ga gb sn)) := fun u hu => keep hX1 hu
  have HR : Hid (Rcs w1 (.slice ad n c) L) := hv.below hb1
  have HN : Hid (L.length = n) := hn
  have HS : Hid (∀ u, Calls Try.prog 32 #[.int .i64 (n : Int), .int .i64 3, .int .i64 64] u fun e w' => e = .returned (.bool (cnB n)) ∧ u = w') := betCn n
  unfold maxLen at hcm
  cases hs : cnB n
  · rw [hs] at HS HK
    have HQ : Hid ((1 : Int) = z) := HK.out
    clear HK hs hv hX1 hb1 hz hn
    go_enter Try.func63, Try.ntmps63
    go_wp2_with fail
    refine (HS.out _).mono ?_
    rintro e u ⟨rfl, rfl⟩
    go_wp2
    go_ret
    rw [← HQ.out]
    exact ⟨rfl, HB1.out⟩
  have hs2 := cn_iff.1 hs
  have h3 : 3 ≤ n := by omega
  have h64 : n ≤ 64 := by omega
  rw [hs] at HS HK
  have HK2 : Hid ((if ((bitB pb && (bitB gb && (plB n pa && (plB n ga && plB n sn)))) && okC n 0 L) = false then (4 : Int) else 0) = z) := HK.out
  obtain ⟨m, hm⟩ : ∃ m, (n : Int) - 2 = m := ⟨_, rfl⟩
  have HP : Hid (∀ x u, Calls Try.prog 32 #[.int .i64 x, .int .i64 0, .int .i64 m] u fun e w' => e = .returned (.bool (plB n x)) ∧ u = w') := fun x u => by
    have := between_any x 0 m u
    rw [← hm, pl_between, hm] at this
    exact this
  clear HK hs hv hX1 hb1 hz hn hs2
  go_enter Try.func63, Try.ntmps63
  go_wp2_with fail
  refine (HS.out _).mono ?_
  rintro e u ⟨rfl, rfl⟩
  obtain ⟨f0, hf0⟩ : ∃ f, (bitB pb && (bitB gb && (plB n pa && (plB n ga && plB n sn)))) = f := ⟨_, rfl⟩
  have HF : Hid ((bitB pb && (bitB gb && (plB n pa && (plB n ga && plB n sn)))) = f0) := hf0
  rw [hf0] at HK2
  clear hf0
  go_upto_region 4 with (fail)
  go_cut [4] from 10 (fun fv wx => fv = .bool f0 ∧ w1 = wx)
  case first =>
    cases b1 : bitB pb
    · have hF : f0 = false := by rw [← HF.out, b1]; rfl
      go_wp2_with fail
      refine (betBit pb _).mono ?_
      rintro e u ⟨rfl, rfl⟩
      rw [b1]
      go_wp2_with fail
      go_meet
      case rel => exact ⟨by rw [hF], rfl⟩
    cases b2 : bitB gb
    · have hF : f0 = false := by rw [← HF.out, b1, b2]; rfl
      go_wp2_with fail
      refine (betBit pb _).mono ?_
      rintro e u ⟨rfl, rfl⟩
      rw [b1]
      go_wp2_with fail
      refine (betBit gb _).mono ?_
      rintro e u ⟨rfl, rfl⟩
      rw [b2]
      go_wp2_with fail
      go_meet
      case rel => exact ⟨by rw [hF], rfl⟩
    cases b3 : plB n pa
    · have hF : f0 = false := by rw [← HF.out, b1, b2, b3]; rfl
      go_wp2_with fail
      refine (betBit pb _).mono ?_
      rintro e u ⟨rfl, rfl⟩
      rw [b1]
      go_wp2_with fail
      refine (betBit gb _).mono ?_
      rintro e u ⟨rfl, rfl⟩
      rw [b2]
      go_wp2_with fail
      refine (HP.out pa _).mono ?_
      rintro e u ⟨rfl, rfl⟩
      rw [b3]
      go_wp2_with fail
      go_meet
      case rel => exact ⟨by rw [hF], rfl⟩
    cases b4 : plB n ga
    · have hF : f0 = false := by rw [← HF.out, b1, b2, b3, b4]; rfl
      go_wp2_with fail
      refine (betBit pb _).mono ?_
      rintro e u ⟨rfl, rfl⟩
      rw [b1]
      go_wp2_with fail
      refine (betBit gb _).mono ?_
      rintro e u ⟨rfl, rfl⟩
      rw [b2]
      go_wp2_with fail
      refine (HP.out pa _).mono ?_
      rintro e u ⟨rfl, rfl⟩
      rw [b3]
      go_wp2_with fail
      refine (HP.out ga _).mono ?_
      rintro e u ⟨rfl, rfl⟩
      rw [b4]
      go_wp2_with fail
      go_meet
      case rel => exact ⟨by rw [hF], rfl⟩
    have hF : f0 = plB n sn := by rw [← HF.out, b1, b2, b3, b4]; rfl
    go_wp2_with fail
    refine (betBit pb _).mono ?_
    rintro e u ⟨rfl, rfl⟩
    rw [b1]
    go_wp2_with fail
    refine (betBit gb _).mono ?_
    rintro e u ⟨rfl, rfl⟩
    rw [b2]
    go_wp2_with fail
    refine (HP.out pa _).mono ?_
    rintro e u ⟨rfl, rfl⟩
    rw [b3]
    go_wp2_with fail
    refine (HP.out ga _).mono ?_
    rintro e u ⟨rfl, rfl⟩
    rw [b4]
    go_wp2_with fail
    refine (HP.out sn _).mono ?_
    rintro e u ⟨rfl, rfl⟩
    go_wp2_with fail
    go_meet
    case rel => exact ⟨by rw [hF], rfl⟩
  case rest =>
  obtain ⟨rfl, rfl⟩ := hcut
  obtain ⟨q, hq⟩ : ∃ q, (f0 && okC n 0 L) = q := ⟨_, rfl⟩
  rw [hq] at HK2
  have HQ : Hid ((f0 && okC n 0 L) = q) := hq
  clear hq
  go_wp2
  go_loopw [4, 49] (fun fv i wr => ∃ (k : Nat) (f : Bool), k ≤ n ∧ i = .int .i64 (k : Int) ∧ fv = .bool f ∧ Hid (Below w1.heap.size w1 wr ∧ (f && okC n k (L.drop k)) = q)) (fun _ i _ => n - (intOf i).toNat)
  case atStart => exact ⟨0, f0, Nat.zero_le _, rfl, rfl, Below.refl _ _, HQ.out⟩
  case round =>
    obtain ⟨k, f, hk, rfl, rfl, HA⟩ := hrel
    by_cases hlt : ¬ k < n
    · have hfq : f = q := by have := HA.out.2; rw [List.drop_eq_nil_of_le (by have := HN.out; omega)] at this; simpa [okC] using this
      have HBr : Hid (Below w1.heap.size w1 wr) := HA.out.1
      clear HA
      subst hfq
      cases f
      · have HQ2 : Hid ((4 : Int) = z) := HK2.out
        go_wp2
        go_ret
        rw [← HQ2.out]
        exact ⟨rfl, bsq HB1.out HBr.out⟩
      · have HQ2 : Hid ((0 : Int) = z) := HK2.out
        go_wp2
        go_ret
        rw [← HQ2.out]
        exact ⟨rfl, bsq HB1.out HBr.out⟩
    have hlt : k < n := by omega
    have hkL : k < L.length := by have := HN.out; omega
    obtain ⟨x, hx⟩ : ∃ x, L[k]? = some x := ⟨L[k], List.getElem?_eq_getElem hkL⟩
    obtain ⟨f', hf'⟩ : ∃ f', (f && (ceB n k x && (decide (k + 1 < n) || x.1 == 0))) = f' := ⟨_, rfl⟩
    have HA2 : Hid ((f' && okC n (k + 1) (L.drop (k + 1))) = q) := by
      have := HA.out.2
      rw [okC_at hx, ← Bool.and_assoc, hf'] at this
      exact this
    obtain ⟨g, off, rfl, hcell⟩ := HR.out.at k x hx
    obtain ⟨c0, c1, c2⟩ := hcell wr HA.out.1
    obtain ⟨xw, xb, xl⟩ := x
    simp only at c0 c1 c2
    have HF' : Hid ((f && ((bitB xb && (xl == decide (k + 1 = n))) && (decide (k + 1 < n) || xw == 0))) = f') := hf'
    obtain ⟨u1, uf, hu1, huf, hY1, hYf, hbf⟩ := laid3 wr 91 (.int .u64 0) (.int .i64 0) (.bool false) (.int .u64 xw) (.int .i64 xb) (.bool xl)
    obtain ⟨⟨hy, y0, y1, y2⟩, g0, g1, g2⟩ := box3 hY1
    obtain ⟨⟨hyf, t0, t1, t2⟩, _⟩ := box3 hYf
    have HBf : Hid (Below w1.heap.size w1 uf) := bsq HA.out.1 hbf
    have hjn : (k : Int) + 1 ≤ 64 := by omega
    clear hcell hx hkL hbf hY1 hYf HA hf'
    go_upto_region 8 with (fail)
    try rw [huf]
    clear huf hu1 y0 y1 y2 g0 g1 g2 c0 c1 c2
    cases f
    · have hF : f' = false := HF'.out.symm
      go_wp2
      go_roundw
      case rel => exact ⟨k + 1, false, by omega, by go_num, rfl, HBf.out, by have := HA2.out; rw [hF] at this; exact this⟩
      case measure => simp [intOf]; omega
    cases b1 : bitB xb
    · have hF : f' = false := by rw [← HF'.out, b1]; rfl
      go_wp2_with fail
      refine (betBit xb _).mono ?_
      rintro e u ⟨rfl, rfl⟩
      rw [b1]
      go_wp2
      go_roundw
      case rel => exact ⟨k + 1, false, by omega, by go_num, rfl, HBf.out, by have := HA2.out; rw [hF] at this; exact this⟩
      case measure => simp [intOf]; omega
    have d1 : ((k : Int) + 1 == (n : Int)) = decide (k + 1 = n) := by
      by_cases q : k + 1 = n
      · rw [decide_eq_true q]; simp; omega
      · rw [decide_eq_false q]; simp; omega
    cases b2 : (xl == decide (k + 1 = n))
    · have hF : f' = false := by rw [← HF'.out, b1, b2]; rfl
      go_wp2_with fail
      refine (betBit xb _).mono ?_
      rintro e u ⟨rfl, rfl⟩
      rw [b1]
      go_wp2
      go_roundw
      case rel => exact ⟨k + 1, false, by omega, by go_num, rfl, HBf.out, by have := HA2.out; rw [hF] at this; exact this⟩
      case measure => simp [intOf]; omega
    by_cases b3 : k + 1 < n
    · have hF : f' = true := by rw [← HF'.out, b1, b2, decide_eq_true b3]; rfl
      have e3 : decide ((k : Int) + 1 < (n : Int)) = true := by rw [decide_eq_true_eq]; omega
      go_wp2_with fail
      refine (betBit xb _).mono ?_
      rintro e u ⟨rfl, rfl⟩
      rw [b1]
      go_wp2
      go_roundw
      case rel => exact ⟨k + 1, true, by omega, by go_num, rfl, HBf.out, by have := HA2.out; rw [hF] at this; exact this⟩
      case measure => simp [intOf]; omega
    · have hF : f' = (xw == 0) := by rw [← HF'.out, b1, b2, decide_eq_false b3]; simp
      have e3 : decide ((k : Int) + 1 < (n : Int)) = false := by rw [decide_eq_false_iff_not]; omega
      go_wp2_with fail
      refine (betBit xb _).mono ?_
      rintro e u ⟨rfl, rfl⟩
      rw [b1]
      go_wp2
      go_roundw
      case rel => exact ⟨k + 1, (xw == 0), by omega, by go_num, rfl, HBf.out, by have := HA2.out; rw [hF] at this; exact this⟩
      case measure => simp [intOf]; omega
set_option maxHeartbeats 2000000 in
theorem goneOn_any (n : Nat) (x y : Int) (w : World) (hn : 3 ≤ n) (hn2 : n ≤ 64) (hx : 0 ≤ x) (hx2 : x < (n : Int) - 1) (hy : y = 0 ∨ y = 1) :
    Calls Try.prog 43 #[mkV x y, .int .i64 ((n : Int) - 1)] w fun e w' => e = .returned (mkV (on n x y).1 (on n x y).2) ∧ Below w.heap.size w w' := by
  obtain ⟨w1, hw1, hX1, hb1⟩ := named w (mkO x y)
  obtain ⟨w2, hw2, hX2, hb2⟩ := named w1 (mkO 0 0)
  have HB : Hid (Below w.heap.size w w2) := bsq hb1 hb2
  obtain ⟨⟨hz1, x0, x1⟩, _⟩ := box2 (keep hX1 hb2)
  obtain ⟨⟨hz2, y0, y1⟩, f0, f1⟩ := box2 hX2
  have HZ : Hid (w.heap.size ≤ w1.heap.size) := hb1.size
  have HX2 : Hid (w2.heap[w1.heap.size]? = some (mkO 0 0)) := hX2
  unfold on
  obtain ⟨m, hm⟩ : ∃ m, (n : Int) - 1 = m := ⟨_, rfl⟩
  rw [hm] at hx2 ⊢
  have hm2 : m ≤ 63 := by omega
  clear hX1 hX2 hb1 hb2 hm
  by_cases hq : x + 1 = m
  · have e1 : decide (x + 1 < m) = false := by rw [decide_eq_false_iff_not]; omega
    obtain ⟨uf, huf, hXf, hBf, _, _⟩ := put2 w2 w1.heap.size (.int .i64 0) (.int .i64 (1 - y)) HX2.out
    obtain ⟨⟨hzf, t0, t1⟩, _⟩ := box2 hXf
    have HBf : Hid (Below w.heap.size w uf) := hBf _ _ HZ.out HB.out
    rw [if_pos hq]
    have hy0 : 0 ≤ y := by omega
    have hy1 : y ≤ 1 := by omega
    clear hXf hBf hq hy
    go_enter Try.func43, Try.ntmps43
    go_wp2
    try rw [huf]
    exact bodyPost_ret (v := mkV 0 (1 - y)) (by simp [results, Try.results43, go_sem, hzf, t0, t1]) rfl ⟨rfl, HBf.out⟩
  · have e1 : decide (x + 1 < m) = true := by rw [decide_eq_true_eq]; omega
    obtain ⟨uf, huf, hXf, hBf, _, _⟩ := put2 w2 w1.heap.size (.int .i64 (x + 1)) (.int .i64 y) HX2.out
    obtain ⟨⟨hzf, t0, t1⟩, _⟩ := box2 hXf
    have HBf : Hid (Below w.heap.size w uf) := hBf _ _ HZ.out HB.out
    rw [if_neg hq]
    clear hXf hBf hq hy
    go_enter Try.func43, Try.ntmps43
    go_wp2
    try rw [huf]
    exact bodyPost_ret (v := mkV (x + 1) y) (by simp [results, Try.results43, go_sem, hzf, t0, t1]) rfl ⟨rfl, HBf.out⟩
end Go.Proofs.Ythjmcopknkemnaa.ring

/- slices.Equal of cells; marks and cells compared; plugref.SameRing. -/
namespace Go.Proofs.Ythjmcopknkemnaa.ring
open Go.RowKit
set_option linter.unusedVariables false
set_option linter.unusedSimpArgs false
set_option maxRecDepth 100000

theorem undC : Try.prog.underlying 91 = some (.struct (Try.prog.fieldsOf 91)) := by kernel_rfl
theorem stoodC : Try.prog.stoodInHeld 91 = false := by kernel_rfl
theorem eq_ce (a b a' b' : Int) (l l' : Bool) (w : World) : (Op.equalIn 10000 91 (ceV a b l) (ceV a' b' l')).run Try.prog w = .ok (a == a' && (b == b' && l == l')) w := by
  rw [run_equalIn_struct w 9999 91 _ _ undC stoodC]
  simp [go_sem]
  by_cases h1 : a = a' <;> by_cases h2 : b = b' <;> cases l <;> cases l' <;> simp [h1, h2]
theorem neq_ce (a b a' b' : Int) (l l' : Bool) (w : World) : (binOp .neq 91 (ceV a b l) (ceV a' b' l')).run Try.prog w = .ok (.bool (!(a == a' && (b == b' && l == l')))) w := by
  rw [run_neq_struct, eq_ce]; rfl
theorem undM : Try.prog.underlying 33 = some (.struct (Try.prog.fieldsOf 33)) := by kernel_rfl
theorem stoodM : Try.prog.stoodInHeld 33 = false := by kernel_rfl
theorem eq_mk (p s q t : Int) (w : World) : (Op.equalIn 10000 33 (mkV p s) (mkV q t)).run Try.prog w = .ok (p == q && s == t) w := by
  rw [run_equalIn_struct w 9999 33 _ _ undM stoodM]
  simp [go_sem]
  by_cases h1 : p = q <;> by_cases h2 : s = t <;> simp [h1, h2]
theorem eql_mk (p s q t : Int) (w : World) : (binOp .eql 33 (mkV p s) (mkV q t)).run Try.prog w = .ok (.bool (p == q && s == t)) w := by
  rw [run_eql_struct, eq_mk]; rfl
theorem neq_mk (p s q t : Int) (w : World) : (binOp .neq 33 (mkV p s) (mkV q t)).run Try.prog w = .ok (.bool (!(p == q && s == t))) w := by
  rw [run_neq_struct, eq_mk]; rfl
set_option maxHeartbeats 2000000 in
theorem equalC_drew (v1 v2 : Value) (ps qs : List Ce) (w : World) (h1 : Rcs w v1 ps) (h2 : Rcs w v2 qs) :
    Calls Try.prog 66 #[v1, v2] w fun e w' => e = .returned (.bool (decide (ps = qs))) ∧ ∃ m, w' = w.drewN m := by
  obtain ⟨a, c, rfl, hlc, hcm⟩ := h1.form
  obtain ⟨b, d, rfl, hld, hdm⟩ := h2.form
  have HA : Hid (Rcs w (.slice a ps.length c) ps) := h1
  have HB : Hid (Rcs w (.slice b qs.length d) qs) := h2
  unfold maxLen at hcm hdm
  clear h1 h2
  by_cases hlen : ps.length = qs.length
  · have HL : Hid (ps.length = qs.length) := hlen
    obtain ⟨n, hn⟩ : ∃ n, ps.length = n := ⟨_, rfl⟩
    have hm : qs.length = n := by omega
    have HN : Hid (ps.length = n) := hn
    rw [hn] at HA
    rw [hm] at HB
    have HM : Hid (qs.length = n) := hm
    rw [hn] at hlc
    rw [hm] at hld
    rw [hn, hm]
    clear hn hm hlen
    go_enter Try.func66, Try.ntmps66
    go_wp2
    go_loopw [13] (fun i wr => ∃ (k q : Nat), k ≤ n ∧ i = .int .i64 (k : Int) ∧ wr = w.drewN q ∧ Hid (decide (ps.drop k = qs.drop k) = decide (ps = qs))) (fun i _ => n - (intOf i).toNat)
    case atStart => exact ⟨0, 0, Nat.zero_le _, rfl, rfl, rfl⟩
    case round =>
      obtain ⟨k, q, hk, rfl, rfl, HR⟩ := hrel
      by_cases hlt : k < n
      · have hk1 : k < ps.length := by have := HN.out; omega
        have hk2 : k < qs.length := by have := HM.out; omega
        obtain ⟨g, off, rfl, hca⟩ := HA.out.at k ps[k] (List.getElem?_eq_getElem hk1)
        obtain ⟨g', off', rfl, hcb⟩ := HB.out.at k qs[k] (List.getElem?_eq_getElem hk2)
        obtain ⟨c0, c1, c2⟩ := hca w (Below.refl _ _)
        obtain ⟨d0, d1, d2⟩ := hcb w (Below.refl _ _)
        have hR := HR.out
        rw [List.drop_eq_getElem_cons hk1, List.drop_eq_getElem_cons hk2] at hR
        generalize ps[k] = x at c0 c1 c2 hR
        generalize qs[k] = y at d0 d1 d2 hR
        by_cases hxy : x = y
        · subst hxy
          have HR2 : Hid (decide (ps.drop (k + 1) = qs.drop (k + 1)) = decide (ps = qs)) := by
            show _ = _
            rw [← hR]; simp
          obtain ⟨x1, x2, x3⟩ := x
          simp only at c0 c1 c2 d0 d1 d2
          have hneq : ∀ u, (binOp .neq 91 (ceV x1 x2 x3) (ceV x1 x2 x3)).run Try.prog u = .ok (.bool false) u := fun u => by rw [neq_ce]; simp
          clear HA HB HL HN HM HR hR hca hcb
          go_wp2
          go_region
          go_wp2
          go_roundw
          case rel => exact ⟨k + 1, q + _, by omega, by go_num, rfl, HR2.out⟩
          case measure => simp [intOf]; omega
        · have HR2 : Hid (false = decide (ps = qs)) := by
            show _ = _
            rw [← hR]; symm; rw [decide_eq_false_iff_not]
            intro h; exact hxy (by injection h)
          obtain ⟨x1, x2, x3⟩ := x
          obtain ⟨y1, y2, y3⟩ := y
          simp only at c0 c1 c2 d0 d1 d2
          have hneq : ∀ u, (binOp .neq 91 (ceV x1 x2 x3) (ceV y1 y2 y3)).run Try.prog u = .ok (.bool true) u := fun u => by
            rw [neq_ce, show (x1 == y1 && (x2 == y2 && x3 == y3)) = false by
              rw [Bool.and_eq_false_iff, Bool.and_eq_false_iff, beq_eq_false_iff_ne, beq_eq_false_iff_ne, beq_eq_false_iff_ne]
              by_cases q : x1 = y1
              · by_cases q' : x2 = y2
                · exact .inr (.inr fun q2 => hxy (by rw [q, q', q2]))
                · exact .inr (.inl q')
              · exact .inl q]
            rfl
          clear HA HB HL HN HM HR hR hxy hca hcb
          go_wp2
          go_region
          go_wp2
          go_ret
          rw [← HR2.out]
          exact ⟨rfl, _, rfl⟩
      · have hR := HR.out
        rw [List.drop_eq_nil_of_le (by have := HN.out; omega), List.drop_eq_nil_of_le (by have := HM.out; omega)] at hR
        have HR2 : Hid (true = decide (ps = qs)) := by show _ = _; rw [← hR]; simp
        clear HA HB HL HN HM HR hR
        go_wp2
        go_ret
        rw [← HR2.out]
        exact ⟨rfl, _, rfl⟩
  · have e : decide (ps = qs) = false := by rw [decide_eq_false_iff_not]; intro h; exact hlen (by rw [h])
    rw [e]
    have hne : ((ps.length : Int) != (qs.length : Int)) = true := by rw [bne_iff_ne]; omega
    generalize ps.length = n at *
    generalize qs.length = m at *
    clear HA HB e hlen
    go_enter Try.func66, Try.ntmps66
    go_wp2
    go_ret
    exact ⟨rfl, 0, rfl⟩
theorem equalC_any (v1 v2 : Value) (ps qs : List Ce) (w : World) (h1 : Rcs w v1 ps) (h2 : Rcs w v2 qs) :
    Calls Try.prog 66 #[v1, v2] w fun e w' => e = .returned (.bool (decide (ps = qs))) ∧ Below w.heap.size w w' :=
  (equalC_drew v1 v2 ps qs w h1 h2).mono fun e w' ⟨he, m, hw⟩ => ⟨he, by rw [hw]; exact below_drewN (Below.refl _ _) m⟩
abbrev rgW' (v : Value) (r : Rg) : Value := rgV v r.pa r.pb r.ga r.gb r.sn
def samB (a b : Rg) : Bool := (a.pa == b.pa && a.pb == b.pb) && ((a.ga == b.ga && a.gb == b.gb) && ((a.sn == b.sn) && decide (a.C = b.C)))
theorem samB_same (a : Rg) : samB a a = true := by simp [samB]
set_option maxHeartbeats 4000000 in
theorem same_any (a b : Rg) (v1 v2 : Value) (w : World) (h1 : Rcs w v1 a.C) (h2 : Rcs w v2 b.C) :
    Calls Try.prog 40 #[rgV v1 a.pa a.pb a.ga a.gb a.sn, rgV v2 b.pa b.pb b.ga b.gb b.sn] w fun e w' => e = .returned (.bool (samB a b)) ∧ Below w.heap.size w w' := by
  obtain ⟨w1, hw1, hX1, hb1⟩ := named w (rgO v1 a.pa a.pb a.ga a.gb a.sn)
  obtain ⟨w2, hw2, hX2, hb2⟩ := named w1 (rgO v2 b.pa b.pb b.ga b.gb b.sn)
  have hX12 := keep hX1 hb2
  have HB2 : Hid (Below w.heap.size w w2) := bsq hb1 hb2
  have HE : Hid (Calls Try.prog 66 #[v1, v2] w2 fun e w' => e = .returned (.bool (decide (a.C = b.C))) ∧ Below w2.heap.size w2 w') := equalC_any v1 v2 a.C b.C w2 (h1.below (bsq hb1 hb2)) (h2.below (bsq hb1 hb2))
  obtain ⟨a1, c1, n1, rfl⟩ : ∃ a c n, v1 = .slice a n c := by obtain ⟨a, c, h, _⟩ := h1; exact ⟨_, _, _, h⟩
  obtain ⟨a2, c2, n2, rfl⟩ : ∃ a c n, v2 = .slice a n c := by obtain ⟨a, c, h, _⟩ := h2; exact ⟨_, _, _, h⟩
  obtain ⟨⟨hz, x0, x1, x2, x3, x4, x5⟩, _⟩ := box6 hX12
  obtain ⟨⟨hz', y0, y1, y2, y3, y4, y5⟩, _⟩ := box6 hX2
  have q1 := fun u => eql_mk a.pa a.pb b.pa b.pb u
  have q2 := fun u => eql_mk a.ga a.gb b.ga b.gb u
  unfold samB
  generalize decide (a.C = b.C) = d at *
  obtain ⟨aC, apa, apb, aga, agb, asn⟩ := a
  obtain ⟨bC, bpa, bpb, bga, bgb, bsn⟩ := b
  simp only at x0 x1 x2 x3 x4 x5 y0 y1 y2 y3 y4 y5 q1 q2 ⊢
  clear h1 h2 hX1 hX2 hX12 hb1 hb2
  cases hs1 : (apa == bpa && apb == bpb)
  · rw [hs1] at q1
    clear HE hs1 q2
    go_enter Try.func40, Try.ntmps40
    go_wp2
    go_ret
    exact ⟨rfl, HB2.out⟩
  rw [hs1] at q1
  cases hs2 : (aga == bga && agb == bgb)
  · rw [hs2] at q2
    clear HE hs1 hs2
    go_enter Try.func40, Try.ntmps40
    go_wp2
    go_ret
    exact ⟨rfl, HB2.out⟩
  rw [hs2] at q2
  cases hs3 : (asn == bsn)
  · clear HE hs1 hs2
    go_enter Try.func40, Try.ntmps40
    go_wp2
    go_ret
    exact ⟨rfl, HB2.out⟩
  clear hs1 hs2
  go_enter Try.func40, Try.ntmps40
  go_wp2_with fail
  refine HE.out.mono ?_
  rintro e u ⟨rfl, hb⟩
  have HB : Hid (Below w.heap.size w u) := bsq HB2.out hb
  clear hb HE HB2
  go_wp2
  go_ret
  exact ⟨rfl, HB.out⟩
end Go.Proofs.Ythjmcopknkemnaa.ring

/- plugref: what RingPut answers. -/
namespace Go.Proofs.Ythjmcopknkemnaa.ring
open Go Go.RowKit
set_option linter.unusedVariables false
set_option linter.unusedSimpArgs false
set_option maxRecDepth 100000

/-- cell by cell -/
def eA (p k : Nat) (x pb : Int) (c : Ce) : Ce := if k = p then (x, pb, false) else c
def eB (n p k : Nat) (x pb : Int) (c : Ce) : Ce := if k + 1 = n ∧ p + 2 = n then ((eA p k x pb c).1, pb, (eA p k x pb c).2.2) else eA p k x pb c
theorem putL_at {r : Rg} (h : Rt r) (x : Int) {n p k : Nat} (hn : r.C.length = n) (hp : r.pa = (p : Int)) {c : Ce} (hc : r.C[k]? = some c) : (putL r x)[k]? = some (eB n p k x r.pb c) := by
  have hk := (List.getElem?_eq_some_iff.1 hc).1
  have h3 := h.n3
  have hp1 := h.pa1
  rw [hn] at h3 hk hp1
  have hset : (r.C.set p (x, r.pb, false))[k]? = some (eA p k x r.pb c) := by
    unfold eA
    by_cases q : k = p
    · subst q
      rw [if_pos rfl, List.getElem?_set_self (by omega)]
    · rw [if_neg q, List.getElem?_set_ne (by omega)]; exact hc
  unfold putL
  rw [hn, hp, Int.toNat_natCast]
  unfold on eB
  by_cases q : ((p : Int) + 1 = (n : Int) - 1)
  · rw [if_pos q, if_pos rfl]
    by_cases q2 : k + 1 = n
    · rw [if_pos ⟨q2, by omega⟩, show n - 1 = k by omega, List.getElem?_set_self (by rw [List.length_set]; omega)]
      unfold eA
      rw [if_neg (by omega)]
      obtain ⟨_, q4, q5⟩ := h.cell hc
      rw [hn] at q4 q5
      obtain ⟨c1, c2, c3⟩ := c
      simp only at q4 q5 ⊢
      rw [decide_eq_true q2] at q4
      rw [q4]
      rcases q5 with q5 | q5
      · omega
      · rw [q5]
    · rw [if_neg (fun q' => q2 q'.1), List.getElem?_set_ne (by omega)]
      exact hset
  · rw [if_neg q, if_neg (by simp only; omega), if_neg (by omega)]
    exact hset
theorem take_at {α : Type} {L : List α} {k : Nat} {x : α} (h : L[k]? = some x) : L.take k ++ [x] = L.take (k + 1) := by
  have hk := (List.getElem?_eq_some_iff.1 h).1
  have hx := (List.getElem?_eq_some_iff.1 h).2
  rw [List.take_succ_eq_append_getElem hk, hx]
set_option maxHeartbeats 8000000 in
theorem refPut_any (v : Value) (r : Rg) (x : Int) (w : World) (hv : Rcs w v r.C) :
    Calls Try.prog 39 #[rgW v r, .int .u64 x] w fun e w' => ∃ v', e = .returned (.tuple #[rgW v' (ptV r x), .int .i64 (ptC r)]) ∧ Tel w v' (ptV r x) w' := by
  obtain ⟨ad, c, rfl, hlc, hcm⟩ := hv.form
  obtain ⟨n, hn⟩ : ∃ n, r.C.length = n := ⟨_, rfl⟩
  obtain ⟨Z, hZ⟩ : ∃ Z : Ending → World → Prop, (fun e w' => ∃ v', e = .returned (.tuple #[rgW v' (ptV r x), .int .i64 (ptC r)]) ∧ Tel w v' (ptV r x) w') = Z := ⟨_, rfl⟩
  rw [hn] at hv hlc ⊢
  rw [hZ]
  have HZ : Hid (∀ e w', (∃ v', e = .returned (.tuple #[rgW v' (ptV r x), .int .i64 (ptC r)]) ∧ Tel w v' (ptV r x) w') → Z e w') := fun e w' h => by rw [← hZ]; exact h
  obtain ⟨k, hk⟩ : ∃ k, chk r = k := ⟨_, rfl⟩
  have HK : Hid (chk r = k) := hk
  obtain ⟨w1, hw1, hX1, hb1⟩ := named w (rgOf (.slice ad n c) r)
  obtain ⟨w2, hw2, hX2, hb2⟩ := named w1 (rgO (.slice none 0 0) 0 0 0 0 0)
  have hX12 := keep hX1 hb2
  obtain ⟨⟨hz, x0, x1, x2, x3, x4, x5⟩, _⟩ := box6 hX12
  have HB : Hid (Below w.heap.size w w2) := bsq hb1 hb2
  have HX : Hid (∀ u, Below w2.heap.size w2 u → u.heap[w.heap.size]? = some (rgOf (.slice ad n c) r) ∧ u.heap[w1.heap.size]? = some (rgO (.slice none 0 0) 0 0 0 0 0)) := fun u hu => ⟨keep hX12 hu, keep hX2 hu⟩
  have HS : Hid (w.heap.size < w1.heap.size ∧ w1.heap.size < w2.heap.size) := ⟨(Array.getElem?_eq_some_iff.1 hX1).1, (Array.getElem?_eq_some_iff.1 hX2).1⟩
  have HV : Hid (∀ u, Below w2.heap.size w2 u → Rcs u (.slice ad n c) r.C) := fun u hu => hv.below (bsq hb1 (bsq hb2 hu))
  have HC : Hid (Calls Try.prog 63 #[rgW (.slice ad n c) r] w2 fun e w' => e = .returned (.int .i64 k) ∧ Below w2.heap.size w2 w') := by
    have := refRing_any (.slice ad n c) r w2 (hv.below (bsq hb1 hb2))
    rw [hk] at this
    exact this
  have HN : Hid (r.C.length = n) := hn
  obtain ⟨C, pa, pb, ga, gb, sn⟩ := r
  simp only at x0 x1 x2 x3 x4 x5
  unfold maxLen at hcm
  clear hv hn hX1 hX2 hb1 hb2 hX12 hk hZ
  go_enter Try.func39, Try.ntmps39
  go_wp2_with fail
  refine HC.out.mono ?_
  rintro e u ⟨rfl, hb⟩
  have HU : Hid (Below w2.heap.size w2 u) := hb
  obtain ⟨hXu, hRu⟩ := HX.out u hb
  clear x0 x1 x2 x3 x4 x5 hw1 hw2 hb
  have HERR : Hid (∀ W : World, Below w2.heap.size w2 W → ∃ uf, (((((W.setCell ⟨w1.heap.size, 0, none⟩ (.slice none 0 0)).setCell ⟨w1.heap.size, 1, none⟩ (.int .i64 0)).setCell ⟨w1.heap.size, 2, none⟩ (.int .i64 0)).setCell ⟨w1.heap.size, 3, none⟩ (.int .i64 0)).setCell ⟨w1.heap.size, 4, none⟩ (.int .i64 0)).setCell ⟨w1.heap.size, 5, none⟩ (.int .i64 0) = uf ∧ uf.heap[w1.heap.size]? = some (rgO (.slice none 0 0) 0 0 0 0 0) ∧ Below w.heap.size w uf) := fun W hW => by
    obtain ⟨uf, huf, hXf, hBf, _, _⟩ := put6 W w1.heap.size (.slice none 0 0) (.int .i64 0) (.int .i64 0) (.int .i64 0) (.int .i64 0) (.int .i64 0) (HX.out W hW).2
    exact ⟨uf, huf, hXf, hBf _ _ (by have := HS.out; omega) (bsq HB.out hW)⟩
  by_cases h0 : ¬ k = 0
  · have e1 : (k != 0) = true := by simpa using h0
    obtain ⟨uf, huf, hXf, hBf⟩ := HERR.out u HU.out
    have HE : Hid (Z (.returned (.tuple #[rgV (.slice none 0 0) 0 0 0 0 0, .int .i64 k])) uf) := by
      refine HZ.out _ _ ?_
      have h1 : ¬ chk ⟨C, pa, pb, ga, gb, sn⟩ = 0 := by rw [HK.out]; exact h0
      unfold ptV ptC
      rw [if_neg h1, if_neg h1, HK.out]
      exact ⟨_, rfl, Ces.nil _ _, hBf⟩
    obtain ⟨⟨hzr, r0, r1, r2, r3, r4, r5⟩, f0, f1, f2, f3, f4, f5⟩ := box6 hRu
    obtain ⟨⟨hzf, y0, y1, y2, y3, y4, y5⟩, _⟩ := box6 hXf
    clear hXu hRu hXf hBf h0
    go_wp2
    try rw [huf]
    exact bodyPost_ret (v := .tuple #[rgV (.slice none 0 0) 0 0 0 0 0, .int .i64 k]) (by simp [results, Try.results39, go_sem, hzf, y0, y1, y2, y3, y4, y5]) rfl HE.out
  have h0 : k = 0 := Classical.not_not.1 h0
  subst h0
  have e1 : ((0 : Int) != 0) = false := rfl
  have hr := chk_ok.1 HK.out
  have HRT : Hid (Rt ⟨C, pa, pb, ga, gb, sn⟩) := hr
  have h64 : n ≤ 64 := by have := hr.n64; rw [HN.out] at this; exact this
  have h3 : 3 ≤ n := by have := hr.n3; rw [HN.out] at this; exact this
  obtain ⟨p, hp⟩ : ∃ p : Nat, pa = (p : Int) := ⟨pa.toNat, by have : 0 ≤ pa := hr.pa0; omega⟩
  subst hp
  have hpn : p + 1 < n := by have : ((p : Nat) : Int) < (C.length : Int) - 1 := hr.pa1; rw [show C.length = n from HN.out] at this; omega
  obtain ⟨o1, ho1⟩ : ∃ o, (on n (p : Int) pb).1 = o := ⟨_, rfl⟩
  obtain ⟨o2, ho2⟩ : ∃ o, (on n (p : Int) pb).2 = o := ⟨_, rfl⟩
  have HGO : Hid (Calls Try.prog 43 #[mkV (p : Int) pb, .int .i64 ((n : Int) - 1)] u fun e w' => e = .returned (mkV o1 o2) ∧ Below u.heap.size u w') := by
    have := goneOn_any n (p : Int) pb u h3 h64 (by omega) (by omega) hr.pb
    rw [ho1, ho2] at this
    exact this
  have HPB : Hid (putB ⟨C, (p : Int), pb, ga, gb, sn⟩ = !(o1 == sn)) := by show _ = _; unfold putB; rw [show C.length = n from HN.out, ← ho1]
  have HPV : Hid (putV ⟨C, (p : Int), pb, ga, gb, sn⟩ x = ⟨putL ⟨C, (p : Int), pb, ga, gb, sn⟩ x, o1, o2, ga, gb, sn⟩) := by show _ = _; unfold putV; rw [show C.length = n from HN.out, ← ho1, ← ho2]
  obtain ⟨⟨hzu, x0, x1, x2, x3, x4, x5⟩, _⟩ := box6 hXu
  simp only at x0 x1 x2 x3 x4 x5
  clear hr hXu hRu ho1 ho2
  go_wp2_with fail
  refine HGO.out.mono ?_
  rintro e u2 ⟨rfl, hb2⟩
  obtain ⟨u2', u3, hu2', hu3, hM2, hM3, hb3⟩ := laid2 u2 33 (.int .i64 0) (.int .i64 0) (.int .i64 o1) (.int .i64 o2)
  have HU3 : Hid (Below w2.heap.size w2 u3) := bsq HU.out (bsq hb2 hb3)
  have HM : Hid (∀ W, Below u3.heap.size u3 W → W.heap[u2.heap.size]? = some (mkO o1 o2)) := fun W hW => keep hM3 hW
  obtain ⟨hX3, hR3⟩ := HX.out u3 HU3.out
  obtain ⟨⟨hzm, m0, m1⟩, mf0, mf1⟩ := box2 hM2
  obtain ⟨⟨hzm3, n0, n1⟩, _⟩ := box2 hM3
  obtain ⟨⟨hzx3, b0, b1, b2, b3, b4, b5⟩, _⟩ := box6 hX3
  simp only at b0 b1 b2 b3 b4 b5
  clear x0 x1 x2 x3 x4 x5 hb2 hb3 hM2 hM3
  go_upto_region 6 with (fail)
  try rw [hu3]
  clear hu3 hu2' m0 m1 mf0 mf1
  by_cases hq : o1 = sn
  · have e2 : (o1 == sn) = true := by simpa using hq
    obtain ⟨uf, huf, hXf, hBf⟩ := HERR.out u3 HU3.out
    have HE : Hid (Z (.returned (.tuple #[rgV (.slice none 0 0) 0 0 0 0 0, .int .i64 11])) uf) := by
      refine HZ.out _ _ ?_
      unfold ptV ptC
      rw [if_pos HK.out, if_pos HK.out, HPB.out, e2]
      exact ⟨_, rfl, Ces.nil _ _, hBf⟩
    obtain ⟨⟨hzr, r0, r1, r2, r3, r4, r5⟩, f0, f1, f2, f3, f4, f5⟩ := box6 hR3
    obtain ⟨⟨hzf, y0, y1, y2, y3, y4, y5⟩, _⟩ := box6 hXf
    clear hX3 hR3 hXf hBf hq
    go_wp2
    try rw [huf]
    exact bodyPost_ret (v := .tuple #[rgV (.slice none 0 0) 0 0 0 0 0, .int .i64 11]) (by simp [results, Try.results39, go_sem, hzf, y0, y1, y2, y3, y4, y5]) rfl HE.out
  have e2 : (o1 == sn) = false := by simpa using hq
  obtain ⟨PL, hPL⟩ : ∃ PL, putL ⟨C, (p : Int), pb, ga, gb, sn⟩ x = PL := ⟨_, rfl⟩
  have HPT : Hid (ptV ⟨C, (p : Int), pb, ga, gb, sn⟩ x = ⟨PL, o1, o2, ga, gb, sn⟩ ∧ ptC ⟨C, (p : Int), pb, ga, gb, sn⟩ = 0) := by
    unfold ptV ptC
    rw [if_pos HK.out, if_pos HK.out, HPB.out, e2, HPV.out, hPL]
    exact ⟨rfl, rfl⟩
  have HPA : Hid (∀ k c, C[k]? = some c → PL[k]? = some (eB n p k x pb c)) := fun k c hc => by rw [← hPL]; exact putL_at HRT.out x HN.out rfl hc
  have HPLl : Hid (PL.length = n) := by show _ = _; rw [← hPL, putL_len]; exact HN.out
  rw [HPT.out.1, HPT.out.2] at HZ
  obtain ⟨u4', u4, hu4', hu4, hO4, hO5, hb4⟩ := laid6 u3 35 (.slice none 0 0) (.int .i64 0) (.int .i64 0) (.int .i64 0) (.int .i64 0) (.int .i64 0) (.slice none 0 0) (.int .i64 o1) (.int .i64 o2) (.int .i64 ga) (.int .i64 gb) (.int .i64 sn)
  have HU4 : Hid (Below w2.heap.size w2 u4 ∧ Below u3.heap.size u3 u4) := ⟨bsq HU3.out hb4, hb4⟩
  have HO : Hid (u4.heap[u3.heap.size]? = some (rgO (.slice none 0 0) o1 o2 ga gb sn)) := hO5
  obtain ⟨hX4, hR4⟩ := HX.out u4 HU4.out.1
  obtain ⟨⟨hzo, q0, q1, q2, q3, q4, q5⟩, of0, of1, of2, of3, of4, of5⟩ := box6 hO4
  obtain ⟨⟨hzx4, d0, d1, d2, d3, d4, d5⟩, _⟩ := box6 hX4
  simp only at d0 d1 d2 d3 d4 d5
  have HXa : Hid (∀ W, Below u3.heap.size u3 W → W.heap[w.heap.size]? = some (rgO (.slice ad n c) (p : Int) pb ga gb sn) ∧ Rcs W (.slice ad n c) C) := fun W hW => ⟨(HX.out W (bsq HU3.out hW)).1, HV.out W (bsq HU3.out hW)⟩
  clear hX3 hR3 hO4 hO5 hb4 hX4 hR4 hq hPL
  go_upto_region 9 with (fail)
  try rw [hu4]
  clear hu4 hu4' q0 q1 q2 q3 q4 q5 of0 of1 of2 of3 of4 of5 b0 b1 b2 b3 b4 b5 n0 n1
  go_wp2
  go_loopw [41] (fun i wr => ∃ k : Nat, k ≤ n ∧ i = .int .i64 (k : Int) ∧ Hid (∃ vo, wr.heap[u3.heap.size]? = some (rgO vo o1 o2 ga gb sn) ∧ Ces wr u3.heap.size vo (PL.take k) ∧ Below u3.heap.size u3 wr)) (fun i _ => n - (intOf i).toNat)
  case atStart => exact ⟨0, Nat.zero_le _, rfl, _, HO.out, Ces.nil _ _, HU4.out.2⟩
  case round =>
    obtain ⟨k, hk, rfl, HA⟩ := hrel
    by_cases hlt : ¬ k < n
    · obtain ⟨vo, hvo⟩ : ∃ vo, Hid (wr.heap[u3.heap.size]? = some (rgO vo o1 o2 ga gb sn) ∧ Ces wr u3.heap.size vo PL ∧ Below u3.heap.size u3 wr) := by
        obtain ⟨vo, a1, a2, a3⟩ := HA.out
        rw [List.take_of_length_le (by have := HPLl.out; omega)] at a2
        exact ⟨vo, a1, a2, a3⟩
      have hRr := (HX.out wr (bsq HU3.out hvo.out.2.2)).2
      obtain ⟨va, vn, vc, rfl⟩ : ∃ a n c, vo = .slice a n c := by obtain ⟨a, c, h, _⟩ := hvo.out.2.1.form; exact ⟨_, _, _, h⟩
      obtain ⟨uf, huf, hXf, hBf, _, _⟩ := put6 wr w1.heap.size (.slice va vn vc) (.int .i64 o1) (.int .i64 o2) (.int .i64 ga) (.int .i64 gb) (.int .i64 sn) hRr
      have HE : Hid (Z (.returned (.tuple #[rgV (.slice va vn vc) o1 o2 ga gb sn, .int .i64 0])) uf) := by
        refine HZ.out _ _ ⟨_, rfl, ?_, hBf _ _ (by have := HS.out; omega) (bsq HB.out (bsq HU3.out hvo.out.2.2))⟩
        rw [← huf]
        exact Ces.mono (own6 hvo.out.2.1 hRr _ _ _ _ _ _) (Nat.le_trans HB.out.size HU3.out.size)
      obtain ⟨⟨hzr, r0, r1, r2, r3, r4, r5⟩, f0, f1, f2, f3, f4, f5⟩ := box6 hRr
      obtain ⟨⟨hzf, y0, y1, y2, y3, y4, y5⟩, _⟩ := box6 hXf
      obtain ⟨⟨hzo, q0, q1, q2, q3, q4, q5⟩, _⟩ := box6 hvo.out.1
      clear hXf hBf hRr HA hvo
      go_wp2
      try rw [huf]
      exact bodyPost_ret (v := .tuple #[rgV (.slice va vn vc) o1 o2 ga gb sn, .int .i64 0]) (by simp [results, Try.results39, go_sem, hzf, y0, y1, y2, y3, y4, y5]) rfl HE.out
    have hlt : k < n := by omega
    obtain ⟨xc, hx⟩ : ∃ xc, C[k]? = some xc := ⟨_, List.getElem?_eq_getElem (by have : C.length = n := HN.out; omega)⟩
    have HEB : Hid (PL[k]? = some (eB n p k x pb xc)) := HPA.out k xc hx
    obtain ⟨vo, hvo⟩ : ∃ vo, Hid (wr.heap[u3.heap.size]? = some (rgO vo o1 o2 ga gb sn) ∧ Ces wr u3.heap.size vo (PL.take k) ∧ Below u3.heap.size u3 wr) := HA.out
    obtain ⟨hXr, hCr⟩ := HXa.out wr hvo.out.2.2
    obtain ⟨g, off, rfl, hcell⟩ := hCr.at k xc hx
    obtain ⟨c0, c1, c2⟩ := hcell wr (Below.refl _ _)
    obtain ⟨cw, cb, cl⟩ := xc
    simp only at c0 c1 c2
    obtain ⟨v1, v2, hv1, hv2, hY1, hY2, hbf⟩ := laid3 wr 91 (.int .u64 0) (.int .i64 0) (.bool false) (.int .u64 cw) (.int .i64 cb) (.bool cl)
    obtain ⟨⟨hy, y0, y1, y2⟩, g0, g1, g2⟩ := box3 hY1
    have HY2 : Hid (v2.heap[wr.heap.size]? = some (ceO cw cb cl) ∧ Below wr.heap.size wr v2) := ⟨hY2, hbf⟩
    clear hcell hx hCr hbf hY1 hY2 HA hXr
    go_upto_region 12 with (fail)
    try rw [hv2]
    clear hv2 hv1 y0 y1 y2 g0 g1 g2 c0 c1 c2
    obtain ⟨eAw, eAb, eAl, hEA⟩ : ∃ a b l, eA p k x pb (cw, cb, cl) = (a, b, l) := ⟨_, _, _, rfl⟩
    have HEA : Hid (eA p k x pb (cw, cb, cl) = (eAw, eAb, eAl)) := hEA
    clear hEA
    obtain ⟨⟨hzx, t0, t1, t2, t3, t4, t5⟩, _⟩ := box6 (HXa.out v2 (bsq hvo.out.2.2 HY2.out.2)).1
    go_upto_if 50 with (fail)
    go_cut [] from 46 to 78 (fun wx => Hid (wx.heap[wr.heap.size]? = some (ceO eAw eAb eAl) ∧ Below wr.heap.size wr wx))
    case first =>
      obtain ⟨⟨hzy, y0, y1, y2⟩, g0, g1, g2⟩ := box3 HY2.out.1
      by_cases hkp : k = p
      · have e3 : ((k : Int) == (p : Int)) = true := by simp; omega
        have he : (eAw, eAb, eAl) = (x, pb, false) := by rw [← HEA.out]; unfold eA; rw [if_pos hkp]
        injection he with he1 he2
        injection he2 with he2 he3
        subst he1 he2 he3
        obtain ⟨v3, hv3, hY3, hB3, _, _⟩ := put3 v2 wr.heap.size (.int .u64 eAw) (.int .i64 eAb) (.bool false) HY2.out.1
        have HR : Hid (v3.heap[wr.heap.size]? = some (ceO eAw eAb false) ∧ Below wr.heap.size wr v3) := ⟨hY3, hB3 _ _ (Nat.le_refl _) HY2.out.2⟩
        clear hY3 hB3 hkp
        go_wp2_with fail
        try rw [hv3]
        go_meet
        case rel => exact HR.out
      · have e3 : ((k : Int) == (p : Int)) = false := by simp; omega
        have he : (eAw, eAb, eAl) = (cw, cb, cl) := by rw [← HEA.out]; unfold eA; rw [if_neg hkp]
        injection he with he1 he2
        injection he2 with he2 he3
        subst he1 he2 he3
        clear hkp
        go_wp2_with fail
        go_meet
        case rel => exact HY2.out
    case rest =>
    rename World => va
    have HYa : Hid (va.heap[wr.heap.size]? = some (ceO eAw eAb eAl) ∧ Below wr.heap.size wr va) := hcut
    clear hcut HY2 t0 t1 t2 t3 t4 t5
    go_upto_region 14 with (fail)
    obtain ⟨eb, heb⟩ : ∃ b, (if k + 1 = n ∧ p + 2 = n then pb else eAb) = b := ⟨_, rfl⟩
    have HEB2 : Hid (PL[k]? = some (eAw, eb, eAl)) := by
      have h1 := HEB.out
      unfold eB at h1
      rw [HEA.out] at h1
      show _ = _
      rw [h1, ← heb]
      split <;> rfl
    have HEb : Hid ((if k + 1 = n ∧ p + 2 = n then pb else eAb) = eb) := heb
    clear heb HEB HEA
    obtain ⟨⟨hzx, t0, t1, t2, t3, t4, t5⟩, _⟩ := box6 (HXa.out va (bsq hvo.out.2.2 HYa.out.2)).1
    go_cut [67] from 46 to 78 (fun bv wx => bv = .bool (decide (k + 1 = n ∧ p + 2 = n)) ∧ va = wx)
    case first =>
      by_cases hk1 : k + 1 = n
      · have e3 : ((k : Int) == (n : Int) - 1) = true := by simp; omega
        by_cases hp2 : p + 2 = n
        · have e4 : ((p : Int) == (n : Int) - 2) = true := by simp; omega
          have he : decide (k + 1 = n ∧ p + 2 = n) = true := decide_eq_true ⟨hk1, hp2⟩
          clear hk1 hp2
          go_wp2_with fail
          go_meet
          case rel => exact ⟨by rw [he], rfl⟩
        · have e4 : ((p : Int) == (n : Int) - 2) = false := by simp; omega
          have he : decide (k + 1 = n ∧ p + 2 = n) = false := decide_eq_false (fun q => hp2 q.2)
          clear hk1 hp2
          go_wp2_with fail
          go_meet
          case rel => exact ⟨by rw [he], rfl⟩
      · have e3 : ((k : Int) == (n : Int) - 1) = false := by simp; omega
        have he : decide (k + 1 = n ∧ p + 2 = n) = false := decide_eq_false (fun q => hk1 q.1)
        clear hk1
        go_wp2_with fail
        go_meet
        case rel => exact ⟨by rw [he], rfl⟩
    case rest =>
    obtain ⟨rfl, rfl⟩ := hcut
    go_upto_if 67 with (fail)
    go_cut [] from 46 to 78 (fun wx => Hid (wx.heap[wr.heap.size]? = some (ceO eAw eb eAl) ∧ Below wr.heap.size wr wx))
    case first =>
      obtain ⟨⟨hzy, y0, y1, y2⟩, g0, g1, g2⟩ := box3 HYa.out.1
      by_cases hk1 : k + 1 = n ∧ p + 2 = n
      · have he : pb = eb := by have := HEb.out; rw [if_pos hk1] at this; exact this
        have he2 : decide (k + 1 = n ∧ p + 2 = n) = true := decide_eq_true hk1
        subst he
        obtain ⟨v3, hv3⟩ : ∃ v3, va.setCell ⟨wr.heap.size, 1, none⟩ (.int .i64 pb) = v3 := ⟨_, rfl⟩
        have HR : Hid (v3.heap[wr.heap.size]? = some (ceO eAw pb eAl) ∧ Below wr.heap.size wr v3) := by rw [← hv3]; exact ⟨csetX 1 _ HYa.out.1 rfl, HYa.out.2.setCell (Nat.le_refl _) _⟩
        rw [he2]
        clear hk1 he2
        go_wp2_with fail
        try rw [hv3]
        go_meet
        case rel => exact HR.out
      · have he : eAb = eb := by have := HEb.out; rw [if_neg hk1] at this; exact this
        have he2 : decide (k + 1 = n ∧ p + 2 = n) = false := decide_eq_false hk1
        subst he
        rw [he2]
        clear hk1 he2
        go_wp2_with fail
        go_meet
        case rel => exact HYa.out
    case rest =>
    rename World => vb
    have HYb : Hid (vb.heap[wr.heap.size]? = some (ceO eAw eb eAl) ∧ Below wr.heap.size wr vb) := hcut
    clear hcut HYa HEb t0 t1 t2 t3 t4 t5
    have HCb : Hid (Ces vb u3.heap.size vo (PL.take k) ∧ Below u3.heap.size u3 vb) := ⟨hvo.out.2.1.below HYb.out.2, bsq hvo.out.2.2 HYb.out.2⟩
    have HOb : Hid (vb.heap[u3.heap.size]? = some (rgO vo o1 o2 ga gb sn)) := keep hvo.out.1 HYb.out.2
    obtain ⟨va', vn, vc, rfl⟩ : ∃ a n c, vo = .slice a n c := by obtain ⟨a, c, h, _⟩ := hvo.out.2.1.form; exact ⟨_, _, _, h⟩
    obtain ⟨⟨hzo, q0, q1, q2, q3, q4, q5⟩, of0, _⟩ := box6 HOb.out
    obtain ⟨⟨hzy, y0, y1, y2⟩, _⟩ := box3 HYb.out.1
    obtain ⟨vd, hvd⟩ : ∃ vd, vb.alloc (.cells #[.int .u64 eAw, .int .i64 eb, .bool eAl] 91) = vd := ⟨_, rfl⟩
    have hbd : Below vb.heap.size vb vd := by rw [← hvd]; exact balloc _ _
    have HRd : Hid (Rcs vd (.slice (some ⟨vb.heap.size, 0, none⟩) 1 1) [(eAw, eb, eAl)] ∧ Ces vd u3.heap.size (.slice va' vn vc) (PL.take k) ∧ Below u3.heap.size u3 vd ∧ vd.heap[u3.heap.size]? = some (rgO (.slice va' vn vc) o1 o2 ga gb sn)) := ⟨by rw [← hvd]; exact rcs_laid vb [(eAw, eb, eAl)] (by simp), HCb.out.1.below hbd, bsq HCb.out.2 hbd, keep HOb.out hbd⟩
    clear hbd
    go_wp2_with
      (at_builtin
       refine wpList_ces _ rfl _ _ rfl u3.heap.size _ (PL.take k) rfl HRd.out.2.1 _ [(eAw, eb, eAl)] rfl HRd.out.1 (by have := HPLl.out; simp; omega) HRd.out.2.2.1.size ?_
       intro v' w' z1 z2 z3
       obtain ⟨na, nn, nc, rfl⟩ : ∃ a n c, v' = .slice a n c := by obtain ⟨a, c, h, _⟩ := z1.form; exact ⟨_, _, _, h⟩
       have hOw : w'.heap[u3.heap.size]? = some (rgO (.slice va' vn vc) o1 o2 ga gb sn) := (z2.block _ (Array.getElem?_eq_some_iff.1 HRd.out.2.2.2).1 (Ne.symm (box_ne HRd.out.2.1 HRd.out.2.2.2 (by decide)))).trans HRd.out.2.2.2
       have HW' : Hid (∀ wf, w'.setCell ⟨u3.heap.size, 0, none⟩ (.slice na nn nc) = wf → wf.heap[u3.heap.size]? = some (rgO (.slice na nn nc) o1 o2 ga gb sn) ∧ Ces wf u3.heap.size (.slice na nn nc) (PL.take (k + 1)) ∧ Below u3.heap.size u3 wf) := fun wf hwf => by rw [← hwf]; exact ⟨csetX 0 _ hOw rfl, by rw [← take_at HEB2.out]; exact ownsRow_setCell_other z1 (box_ne z1 hOw (by decide)) _, (HRd.out.2.2.1.trans z3).setCell (Nat.le_refl _) _⟩
       obtain ⟨⟨hzw, p0, _, _, _, _, _⟩, pf0, _⟩ := box6 hOw
       clear z1 z2 z3 hOw)
    go_wp2
    go_roundw
    case rel => exact ⟨k + 1, by omega, by go_num, _, HW'.out _ rfl⟩
    case measure => simp [intOf]; omega
end Go.Proofs.Ythjmcopknkemnaa.ring
