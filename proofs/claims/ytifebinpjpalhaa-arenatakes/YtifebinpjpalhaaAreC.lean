/- arena: what Check and Free answer. -/
import Derived.Test.YtifebinpjpalhaaAreB
namespace Go.Proofs.Ytifebinpjpalhaa.arena
open Go.RowKit
set_option linter.unusedVariables false
set_option linter.unusedSimpArgs false
set_option maxRecDepth 100000

set_option maxHeartbeats 1000000 in
theorem check_any (z : Int) (v : Value) (L : List Sp) (w : World) (hv : Rss w v L) (hI : Inr L) :
    Calls Try.prog 14 #[arV z v] w fun e w' => e = .returned (.int .i64 (chk ⟨z, L⟩)) ∧ Below w.heap.size w w' := by
  obtain ⟨a, c, rfl, hlc, hcm⟩ := hv.form
  obtain ⟨n, hn⟩ : ∃ n, L.length = n := ⟨_, rfl⟩
  obtain ⟨k, hk⟩ : ∃ k, chk ⟨z, L⟩ = k := ⟨_, rfl⟩
  have HK : Hid ((if szB z = false then (1 : Int) else if 64 < n then 2 else if rowB z 0 L = false then 4 else 0) = k) := by
    show _ = _
    rw [← hk, ← hn]; rfl
  rw [hk]
  rw [hn] at hv hlc ⊢
  obtain ⟨w1, hw1, hX1, hb1⟩ := named w (arO z (.slice a n c))
  obtain ⟨⟨hz, x0, x1⟩, _⟩ := boxC hX1
  have HB1 : Hid (Below w.heap.size w w1) := hb1
  have HS : Hid (Calls Try.prog 21 #[.int .i64 z] w1 fun e w' => e = .returned (.bool (szB z)) ∧ w1 = w') := isSize_any z w1
  have HR : Hid (1 ≤ z → z ≤ 65536 → Calls Try.prog 24 #[arV z (.slice a n c)] w1 fun e w' => e = .returned (.bool (rowB z 0 L)) ∧ Below w1.heap.size w1 w') := fun h1 h2 => isRow_any z _ L w1 (hv.below hb1) hI h1 h2
  unfold maxLen at hcm
  clear hv hn hX1 hb1 hI hk
  cases hs : szB z
  · rw [hs] at HS HK
    have HQ : Hid ((1 : Int) = k) := HK.out
    clear HK HR hs
    go_enter Try.func14, Try.ntmps14
    go_wp2_with fail
    refine HS.out.mono ?_
    rintro e u ⟨rfl, rfl⟩
    go_wp2
    go_ret
    rw [← HQ.out]
    exact ⟨rfl, HB1.out⟩
  have hs2 : 1 ≤ z ∧ z ≤ 65536 := by simpa [szB] using hs
  rw [hs] at HS HK
  by_cases hl : 64 < n
  · have HQ : Hid ((2 : Int) = k) := by have := HK.out; rw [if_neg (by decide), if_pos hl] at this; exact this
    have e1 : decide ((n : Int) > 64) = true := by rw [decide_eq_true_eq]; omega
    clear HK HR hs hl hs2
    go_enter Try.func14, Try.ntmps14
    go_wp2_with fail
    refine HS.out.mono ?_
    rintro e u ⟨rfl, rfl⟩
    go_wp2
    go_ret
    rw [← HQ.out]
    exact ⟨rfl, HB1.out⟩
  have HR2 := HR.out hs2.1 hs2.2
  have HR3 : Hid (Calls Try.prog 24 #[arV z (.slice a n c)] w1 fun e w' => e = .returned (.bool (rowB z 0 L)) ∧ Below w1.heap.size w1 w') := HR2
  have HK2 : Hid ((if rowB z 0 L = false then (4 : Int) else 0) = k) := by have := HK.out; rw [if_neg (by decide), if_neg hl] at this; exact this
  have hl2 : n ≤ 64 := by omega
  have e1 : decide ((n : Int) > 64) = false := by rw [decide_eq_false_iff_not]; omega
  clear HK HR HR2 hs hl hs2
  cases hr : rowB z 0 L
  · rw [hr] at HR3 HK2
    clear hr
    go_enter Try.func14, Try.ntmps14
    go_wp2_with fail
    refine HS.out.mono ?_
    rintro e u ⟨rfl, rfl⟩
    go_wp2_with fail
    refine HR3.out.mono ?_
    rintro e u ⟨rfl, hb⟩
    have HB : Hid (Below w.heap.size w u) := bsq HB1.out hb
    clear hb
    go_wp2
    go_ret
    rw [← HK2.out]
    exact ⟨rfl, HB.out⟩
  · rw [hr] at HR3 HK2
    clear hr
    go_enter Try.func14, Try.ntmps14
    go_wp2_with fail
    refine HS.out.mono ?_
    rintro e u ⟨rfl, rfl⟩
    go_wp2_with fail
    refine HR3.out.mono ?_
    rintro e u ⟨rfl, hb⟩
    have HB : Hid (Below w.heap.size w u) := bsq HB1.out hb
    clear hb
    go_wp2
    go_ret
    rw [← HK2.out]
    exact ⟨rfl, HB.out⟩
theorem sum_at {L : List Sp} {k : Nat} {x : Sp} (h : L[k]? = some x) : sumS (L.drop k) = x.2 + sumS (L.drop (k + 1)) := by
  have hk := (List.getElem?_eq_some_iff.1 h).1
  have hx := (List.getElem?_eq_some_iff.1 h).2
  rw [List.drop_eq_getElem_cons hk, hx, sum_cons]
theorem sum_rest {z : Int} : ∀ {L : List Sp} {f : Int} (k : Nat), rowB z f L = true → 0 ≤ sumS (L.drop k)
  | L, f, 0, h => by rw [List.drop_zero]; exact (sum_row h).1
  | [], f, k + 1, h => by simp [sum_nil]
  | x :: r, f, k + 1, h => by rw [List.drop_succ_cons]; exact sum_rest k (row_cons.1 h).2
set_option maxHeartbeats 2000000 in
theorem free_any (z : Int) (v : Value) (L : List Sp) (w : World) (hv : Rss w v L) (hI : Inr L) :
    Calls Try.prog 10 #[arV z v] w fun e w' => e = .returned (.tuple #[.int .i64 (frV ⟨z, L⟩), .int .i64 (chk ⟨z, L⟩)]) ∧ Below w.heap.size w w' := by
  obtain ⟨a, c, rfl, hlc, hcm⟩ := hv.form
  obtain ⟨n, hn⟩ : ∃ n, L.length = n := ⟨_, rfl⟩
  have HN : Hid (L.length = n) := hn
  obtain ⟨k, hk⟩ : ∃ k, chk ⟨z, L⟩ = k := ⟨_, rfl⟩
  have HK : Hid (chk ⟨z, L⟩ = k) := hk
  rw [hn] at hv hlc ⊢
  obtain ⟨w1, hw1, hX1, hb1⟩ := named w (arO z (.slice a n c))
  obtain ⟨⟨hz, x0, x1⟩, _⟩ := boxC hX1
  have HC : Hid (Calls Try.prog 14 #[arV z (.slice a n c)] w1 fun e w' => e = .returned (.int .i64 k) ∧ Below w1.heap.size w1 w') := by
    have := check_any z (.slice a n c) L w1 (hv.below hb1) hI
    rw [hk] at this
    exact this
  have HB1 : Hid (Below w.heap.size w w1) := hb1
  have HR : Hid (Rss w1 (.slice a n c) L) := hv.below hb1
  have HX : Hid (w1.heap[w.heap.size]? = some (arO z (.slice a n c))) := hX1
  obtain ⟨fv, hfv⟩ : ∃ fv, frV ⟨z, L⟩ = fv := ⟨_, rfl⟩
  have HF : Hid ((if k = 0 then z - sumS L else 0) = fv) := by show _ = _; rw [← hfv, ← hk]; rfl
  rw [hfv, hk]
  unfold maxLen at hcm
  clear hv hn hX1 hb1 hI hk hfv
  go_enter Try.func10, Try.ntmps10
  go_wp2_with fail
  refine HC.out.mono ?_
  rintro e u ⟨rfl, hb⟩
  have HB : Hid (Below w.heap.size w u) := bsq HB1.out hb
  by_cases h0 : ¬ k = 0
  · have e1 : (k != 0) = true := by simpa using h0
    have HQ : Hid ((0 : Int) = fv) := by have := HF.out; rw [if_neg h0] at this; exact this
    clear hb h0 HF
    go_wp2
    go_returns
    rw [← HQ.out]
    exact ⟨rfl, HB.out⟩
  have h0 : k = 0 := Classical.not_not.1 h0
  subst h0
  rw [if_pos rfl] at HF
  obtain ⟨c1, c2, c3, c4⟩ := chk_ok HK.out
  simp only at c1 c2 c3 c4
  have HW : Hid (rowB z 0 L = true) := c4
  have hs := sum_row c4
  have HS : Hid (0 ≤ sumS L ∧ sumS L ≤ z) := ⟨hs.1, by have := hs.2 (by omega); omega⟩
  have HRu : Hid (Rss u (.slice a n c) L) := HR.out.below hb
  have HXu : Hid (u.heap[w.heap.size]? = some (arO z (.slice a n c))) := keep HX.out hb
  obtain ⟨⟨_, d0, d1⟩, _⟩ := boxC HXu.out
  have e1 : ((0 : Int) != 0) = false := rfl
  have hn64 : n ≤ 64 := by have := HN.out; omega
  clear hb c3 c4 hs HC HR HX x0 x1
  go_wp2
  go_loopw [5, 18] (fun f i wr => ∃ (k : Nat) (fr : Int), k ≤ n ∧ i = .int .i64 (k : Int) ∧ f = .int .i64 fr ∧ 0 ≤ fr ∧ fr ≤ z ∧ Below u.heap.size u wr ∧ Hid (fr - sumS (L.drop k) = fv)) (fun _ i _ => n - (intOf i).toNat)
  case atStart => exact ⟨0, z, Nat.zero_le _, rfl, rfl, by omega, by omega, Below.refl _ _, HF.out⟩
  case round =>
    obtain ⟨k, fr, hk, rfl, rfl, hf0, hf1, hbr, HA⟩ := hrel
    have HBr : Hid (Below u.heap.size u wr) := hbr
    by_cases hlt : ¬ k < n
    · have HQ2 : Hid (fr = fv) := by have := HA.out; rw [List.drop_eq_nil_of_le (by have := HN.out; omega), sum_nil] at this; show _ = _; omega
      clear hbr HA
      go_wp2
      go_returns
      rw [← HQ2.out]
      exact ⟨rfl, bsq HB.out HBr.out⟩
    have hlt : k < n := by omega
    have hkL : k < L.length := by have := HN.out; omega
    obtain ⟨x, hx⟩ : ∃ x, L[k]? = some x := ⟨L[k], List.getElem?_eq_getElem hkL⟩
    have hm := row_mem HW.out (List.mem_of_getElem? hx)
    have HA2 : Hid (fr - x.2 - sumS (L.drop (k + 1)) = fv) := by have := HA.out; rw [sum_at hx] at this; show _ = _; omega
    have hge : 0 ≤ fv := by have := HF.out; have := HS.out; omega
    have hsr := sum_rest (k + 1) HW.out
    obtain ⟨g, off, rfl, hcell⟩ := HRu.out.at k x hx
    obtain ⟨c0, c1'⟩ := hcell wr hbr
    obtain ⟨p, s⟩ := x
    simp only at c0 c1' hm HA2
    obtain ⟨fr2, hfr2⟩ : ∃ q, fr - s = q := ⟨_, rfl⟩
    rw [hfr2] at HA2
    have hq0 : 0 ≤ fr2 := by have := HA2.out; omega
    have hq1 : fr2 ≤ z := by omega
    obtain ⟨u1, uf, hu1, huf, hY1, hYf, hbf⟩ := laid2 wr 43 (.int .i64 0) (.int .i64 0) (.int .i64 p) (.int .i64 s)
    obtain ⟨⟨hy, y0, y1⟩, g0, g1⟩ := boxC hY1
    obtain ⟨⟨hyf, z0, z1⟩, _⟩ := boxC hYf
    have HBf : Hid (Below u.heap.size u uf) := bsq hbr hbf
    clear hcell hx hkL hbr hbf hY1 hYf HA hsr hge
    go_wp2_with fail
    try rw [huf]
    go_wp2
    go_roundw
    case rel => exact ⟨k + 1, fr2, by omega, by go_num, rfl, hq0, hq1, HBf.out, HA2.out⟩
    case measure => simp [intOf]; omega
end Go.Proofs.Ytifebinpjpalhaa.arena
