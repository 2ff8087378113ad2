/- plugref: what Between and Arena answer. -/
import Derived.Test.YtifebinpjpalhaaAreB
import Derived.BigQuiet
namespace Go.Proofs.Ytifebinpjpalhaa.arena
open Go.RowKit
set_option linter.unusedVariables false
set_option linter.unusedSimpArgs false
set_option maxRecDepth 100000

theorem between_any (a lo hi : Int) (w : World) : Calls Try.prog 22 #[.int .i64 a, .int .i64 lo, .int .i64 hi] w fun e w' => e = .returned (.bool (decide (lo ≤ a) && decide (a ≤ hi))) ∧ w = w' := by
  cases h1 : decide (lo ≤ a) <;> cases h2 : decide (a ≤ hi) <;> (go_enter Try.func22, Try.ntmps22; go_wp2; go_ret; exact ⟨rfl, rfl⟩)
/-- what the one ahead says -/
def Prv (L : List Sp) (k : Nat) (fr : Int) : Prop := (k = 0 ∧ fr = 0) ∨ ∃ j y, k = j + 1 ∧ L[j]? = some y ∧ y.1 + y.2 = fr
theorem row_no {z fr : Int} {x : Sp} {L : List Sp} {k : Nat} {q : Bool} (h : ((decide (fr ≤ x.1) && (decide (1 ≤ x.2) && decide (x.2 ≤ z - x.1))) && rowB z (x.1 + x.2) (L.drop (k + 1))) = q) (hn : x.1 < fr ∨ x.2 < 1 ∨ z - x.1 < x.2) : false = q := by
  rw [← h]
  symm
  rw [Bool.and_eq_false_iff]
  left
  rcases hn with q | q | q
  · rw [decide_eq_false (by omega)]; rfl
  · rw [decide_eq_false (show ¬ 1 ≤ x.2 by omega)]; simp
  · rw [decide_eq_false (show ¬ x.2 ≤ z - x.1 by omega)]; simp
set_option maxHeartbeats 4000000 in
theorem refArena_any (z : Int) (v : Value) (L : List Sp) (w : World) (hv : Rss w v L) (hI : Inr L) :
    Calls Try.prog 11 #[arV z v] w fun e w' => e = .returned (.int .i64 (chk ⟨z, L⟩)) ∧ Below w.heap.size w w' := by
  obtain ⟨a, c, rfl, hlc, hcm⟩ := hv.form
  obtain ⟨n, hn⟩ : ∃ n, L.length = n := ⟨_, rfl⟩
  have HN : Hid (L.length = n) := hn
  obtain ⟨k, hk⟩ : ∃ k, chk ⟨z, L⟩ = k := ⟨_, rfl⟩
  have HK : Hid ((if szB z = false then (1 : Int) else if 64 < n then 2 else if rowB z 0 L = false then 4 else 0) = k) := by
    show _ = _
    rw [← hk, ← hn]; rfl
  rw [hk]
  rw [hn] at hv hlc ⊢
  obtain ⟨w1, hw1, hX1, hb1⟩ := named w (arO z (.slice a n c))
  obtain ⟨⟨hz, x0, x1⟩, _⟩ := boxC hX1
  have HB1 : Hid (Below w.heap.size w w1) := hb1
  have HX : Hid (w1.heap[w.heap.size]? = some (arO z (.slice a n c))) := hX1
  have HR : Hid (Rss w1 (.slice a n c) L) := hv.below hb1
  have HI : Hid (Inr L) := hI
  have HS : Hid (Calls Try.prog 22 #[.int .i64 z, .int .i64 1, .int .i64 65536] w1 fun e w' => e = .returned (.bool (szB z)) ∧ w1 = w') := between_any z 1 65536 w1
  unfold maxLen at hcm
  clear hv hn hX1 hb1 hI hk
  cases hs : szB z
  · rw [hs] at HS HK
    have HQ : Hid ((1 : Int) = k) := HK.out
    clear HK HR hs
    go_enter Try.func11, Try.ntmps11
    go_wp2_with fail
    refine HS.out.mono ?_
    rintro e u ⟨rfl, rfl⟩
    go_wp2
    go_ret
    rw [← HQ.out]
    exact ⟨rfl, HB1.out⟩
  have hs2 : 1 ≤ z ∧ z ≤ 65536 := by simpa [szB] using hs
  obtain ⟨hz1, hz2⟩ := hs2
  rw [hs] at HS HK
  by_cases hl : 64 < n
  · have HQ : Hid ((2 : Int) = k) := by have := HK.out; rw [if_neg (by decide), if_pos hl] at this; exact this
    have e1 : decide ((n : Int) > 64) = true := by rw [decide_eq_true_eq]; omega
    clear HK HR hs hl
    go_enter Try.func11, Try.ntmps11
    go_wp2_with fail
    refine HS.out.mono ?_
    rintro e u ⟨rfl, rfl⟩
    go_wp2
    go_ret
    rw [← HQ.out]
    exact ⟨rfl, HB1.out⟩
  have HK2 : Hid ((if rowB z 0 L = false then (4 : Int) else 0) = k) := by have := HK.out; rw [if_neg (by decide), if_neg hl] at this; exact this
  have hl2 : n ≤ 64 := by omega
  have e1 : decide ((n : Int) > 64) = false := by rw [decide_eq_false_iff_not]; omega
  obtain ⟨q, hq⟩ : ∃ q, rowB z 0 L = q := ⟨_, rfl⟩
  have HQ : Hid (rowB z 0 L = q) := hq
  rw [hq] at HK2
  clear HK hs hl hq
  go_enter Try.func11, Try.ntmps11
  go_wp2_with fail
  refine HS.out.mono ?_
  rintro e u ⟨rfl, rfl⟩
  clear HS
  go_wp2
  go_loopw [16] (fun i wr => ∃ (k : Nat) (fr : Int), k ≤ n ∧ i = .int .i64 (k : Int) ∧ 0 ≤ fr ∧ fr ≤ 65536 ∧ Below w1.heap.size w1 wr ∧ Hid (Prv L k fr) ∧ Hid (rowB z fr (L.drop k) = q)) (fun i _ => n - (intOf i).toNat)
  case atStart => exact ⟨0, 0, Nat.zero_le _, rfl, Int.le_refl _, by decide, Below.refl _ _, .inl ⟨rfl, rfl⟩, HQ.out⟩
  case round =>
    obtain ⟨k', fr, hk, rfl, hf0, hf1, hbr, HPv, HA⟩ := hrel
    have HBr : Hid (Below w1.heap.size w1 wr) := hbr
    by_cases hlt : ¬ k' < n
    · have HQ2 : Hid ((0 : Int) = k) := by
        have h1 := HA.out
        rw [List.drop_eq_nil_of_le (by have := HN.out; omega)] at h1
        have h1 : true = q := h1
        have h2 := HK2.out
        rw [← h1, if_neg (by decide)] at h2
        exact h2
      clear hbr HA HK2 HPv
      go_wp2
      go_ret
      rw [← HQ2.out]
      exact ⟨rfl, bsq HB1.out HBr.out⟩
    have hlt : k' < n := by omega
    have hkL : k' < L.length := by have := HN.out; omega
    obtain ⟨x, hx⟩ : ∃ x, L[k']? = some x := ⟨L[k'], List.getElem?_eq_getElem hkL⟩
    obtain ⟨hp, hs⟩ := HI.out x (List.mem_of_getElem? hx)
    have HA2 : Hid (((decide (fr ≤ x.1) && (decide (1 ≤ x.2) && decide (x.2 ≤ z - x.1))) && rowB z (x.1 + x.2) (L.drop (k' + 1))) = q) := by have := HA.out; rw [row_at hx] at this; exact this
    have HErr : Hid ((x.1 < fr ∨ x.2 < 1 ∨ z - x.1 < x.2) → (4 : Int) = k) := fun h => by
      have h1 := row_no HA2.out h
      have h2 := HK2.out
      rw [← h1, if_pos rfl] at h2
      exact h2
    have HNX : Hid (Prv L (k' + 1) (x.1 + x.2)) := .inr ⟨k', x, rfl, hx, rfl⟩
    obtain ⟨g, off, rfl, hcell⟩ := HR.out.at k' x hx
    obtain ⟨c0, c1⟩ := hcell wr hbr
    obtain ⟨p, s⟩ := x
    simp only at c0 c1 hp hs HA2 HErr HNX
    obtain ⟨u1, uf, hu1, huf, hY1, hYf, hbf⟩ := laid2 wr 43 (.int .i64 0) (.int .i64 0) (.int .i64 p) (.int .i64 s)
    obtain ⟨⟨hy, y0, y1⟩, g0, g1⟩ := boxC hY1
    obtain ⟨⟨hyf, z0, z1⟩, _⟩ := boxC hYf
    obtain ⟨⟨_, b0, b1⟩, _⟩ := boxC (keep (keep HX.out hbr) hbf)
    have HBf : Hid (Below w1.heap.size w1 uf) := bsq hbr hbf
    obtain ⟨z', hz'⟩ : ∃ z', z - 1 = z' := ⟨_, rfl⟩
    obtain ⟨t1, ht1⟩ : ∃ t, (decide (0 ≤ p) && decide (p ≤ z')) = t := ⟨_, rfl⟩
    have HC1 : Hid (Calls Try.prog 22 #[.int .i64 p, .int .i64 0, .int .i64 z'] uf fun e w' => e = .returned (.bool t1) ∧ uf = w') := by
      have := between_any p 0 z' uf
      rw [ht1] at this
      exact this
    clear hcell hx hkL hbr hbf hY1 hYf HA
    cases t1 with
    | false =>
      have HQ2 : Hid ((4 : Int) = k) := HErr.out (by
        rw [Bool.and_eq_false_iff, decide_eq_false_iff_not, decide_eq_false_iff_not] at ht1
        omega)
      clear ht1 HErr HA2 HNX HPv
      go_wp2_with fail
      try rw [huf]
      refine HC1.out.mono ?_
      rintro e u ⟨rfl, rfl⟩
      go_wp2
      go_ret
      rw [← HQ2.out]
      exact ⟨rfl, bsq HB1.out HBf.out⟩
    | true =>
      have hp2 : 0 ≤ p ∧ p ≤ z' := by rw [Bool.and_eq_true, decide_eq_true_eq, decide_eq_true_eq] at ht1; exact ht1
      obtain ⟨hp3, hp4⟩ := hp2
      obtain ⟨d, hd⟩ : ∃ d, z - p = d := ⟨_, rfl⟩
      obtain ⟨t2, ht2⟩ : ∃ t, (decide (1 ≤ s) && decide (s ≤ d)) = t := ⟨_, rfl⟩
      have HC2 : Hid (Calls Try.prog 22 #[.int .i64 s, .int .i64 1, .int .i64 d] uf fun e w' => e = .returned (.bool t2) ∧ uf = w') := by
        have := between_any s 1 d uf
        rw [ht2] at this
        exact this
      clear ht1
      cases t2 with
      | false =>
        have HQ2 : Hid ((4 : Int) = k) := HErr.out (by
          rw [Bool.and_eq_false_iff, decide_eq_false_iff_not, decide_eq_false_iff_not] at ht2
          omega)
        clear ht2 HErr HA2 HNX HPv
        go_wp2_with fail
        try rw [huf]
        refine HC1.out.mono ?_
        rintro e u ⟨rfl, rfl⟩
        go_wp2_with fail
        refine HC2.out.mono ?_
        rintro e u ⟨rfl, rfl⟩
        go_wp2
        go_ret
        rw [← HQ2.out]
        exact ⟨rfl, bsq HB1.out HBf.out⟩
      | true =>
        have hs3 : 1 ≤ s ∧ s ≤ d := by rw [Bool.and_eq_true, decide_eq_true_eq, decide_eq_true_eq] at ht2; exact ht2
        obtain ⟨hs4, hs5⟩ := hs3
        clear ht2
        go_wp2_with fail
        try rw [huf]
        refine HC1.out.mono ?_
        rintro e u ⟨rfl, rfl⟩
        go_wp2_with fail
        refine HC2.out.mono ?_
        rintro e u ⟨rfl, rfl⟩
        rcases HPv.out with ⟨rfl, hfr⟩ | ⟨j, y, rfl, hy', hfr⟩
        · subst hfr
          have HA3 : Hid (rowB z (p + s) (L.drop (0 + 1)) = q) := by
            have := HA2.out
            rw [decide_eq_true hp3, decide_eq_true hs4, decide_eq_true (show s ≤ z - p by omega)] at this
            exact this
          have hen1 : 0 ≤ p + s := by omega
          have hen2 : p + s ≤ 65536 := by omega
          obtain ⟨en, hen⟩ : ∃ en, p + s = en := ⟨_, rfl⟩
          rw [hen] at HA3 HNX hen1 hen2
          have HBd : Hid (Below w1.heap.size w1 uf.drew) := HBf.out.drew
          clear HErr HA2 HPv hen
          go_wp2_with fail
          go_quiet (fail)
          go_wp2
          go_roundw
          case rel => exact ⟨0 + 1, en, by omega, by go_num, hen1, hen2, below_drewN HBf.out _, HNX.out, HA3.out⟩
          case measure => simp [intOf]; omega
        · obtain ⟨gy, offy, hey, hcelly⟩ := HR.out.at j y hy'
          injection hey with hey
          injection hey with e1' e2' _
          subst e1' e2'
          obtain ⟨v0, v1⟩ := hcelly uf HBf.out
          obtain ⟨yp, ys⟩ := y
          simp only at v0 v1 hfr
          have e2 : decide (((j + 1 : Nat) : Int) > 0) = true := by rw [decide_eq_true_eq]; omega
          have hj1 : IntKind.i64.wrap (((j + 1 : Nat) : Int) - 1) = (j : Int) := by rw [IntKind.wrap_i64]; omega
          have hj2 : IntKind.i64.wrap (yp + ys) = fr := by rw [IntKind.wrap_i64]; omega
          have HBd : Hid (Below w1.heap.size w1 uf.drew) := HBf.out.drew
          by_cases hfp : fr > p
          · have e3 : decide (fr > p) = true := decide_eq_true hfp
            have HQ2 : Hid ((4 : Int) = k) := HErr.out (.inl (by omega))
            clear HErr HA2 HPv HNX hfp hcelly hy' hfr
            go_wp2_with fail
            go_quiet (fail)
            go_wp2
            go_ret
            rw [← HQ2.out]
            exact ⟨rfl, bsq HB1.out (below_drewN HBf.out _)⟩
          · have e3 : decide (fr > p) = false := decide_eq_false hfp
            have HA3 : Hid (rowB z (p + s) (L.drop (j + 1 + 1)) = q) := by
              have := HA2.out
              rw [decide_eq_true (show fr ≤ p by omega), decide_eq_true hs4, decide_eq_true (show s ≤ z - p by omega)] at this
              exact this
            have hen1 : 0 ≤ p + s := by omega
            have hen2 : p + s ≤ 65536 := by omega
            obtain ⟨en, hen⟩ : ∃ en, p + s = en := ⟨_, rfl⟩
            rw [hen] at HA3 HNX hen1 hen2
            clear HErr HA2 HPv hen hfp hcelly hy' hfr
            go_wp2_with fail
            go_quiet (fail)
            go_wp2
            go_roundw
            case rel => exact ⟨j + 1 + 1, en, by omega, by go_num, hen1, hen2, below_drewN HBf.out _, HNX.out, HA3.out⟩
            case measure => simp [intOf]; omega
end Go.Proofs.Ytifebinpjpalhaa.arena
