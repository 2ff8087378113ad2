/- arena: what isSize, end, isRow, Check and Free answer. -/
import Derived.Test.YtifebinpjpalhaaAreA
namespace Go.Proofs.Ytifebinpjpalhaa.arena
open Go.RowKit
set_option linter.unusedVariables false
set_option linter.unusedSimpArgs false
set_option maxRecDepth 100000

theorem isSize_any (z : Int) (w : World) : Calls Try.prog 21 #[.int .i64 z] w fun e w' => e = .returned (.bool (szB z)) ∧ w = w' := by
  unfold szB
  cases h1 : decide (1 ≤ z)
  · go_enter Try.func21, Try.ntmps21; go_wp2; go_ret; exact ⟨rfl, rfl⟩
  · cases h2 : decide (z ≤ 65536)
    · go_enter Try.func21, Try.ntmps21; go_wp2; go_ret; exact ⟨rfl, rfl⟩
    · go_enter Try.func21, Try.ntmps21; go_wp2; go_ret; exact ⟨rfl, rfl⟩
theorem end_any (p s : Int) (w : World) (h1 : -1000000 ≤ p + s) (h2 : p + s ≤ 1000000) : Calls Try.prog 36 #[spV p s] w fun e w' => e = .returned (.int .i64 (p + s)) ∧ Below w.heap.size w w' := by
  obtain ⟨w1, hw1, hX1, hb1⟩ := named w (spO p s)
  obtain ⟨⟨hz, x0, x1⟩, _⟩ := boxC hX1
  have HB : Hid (Below w.heap.size w w1) := hb1
  clear hX1 hb1
  go_enter Try.func36, Try.ntmps36
  go_wp2
  go_ret
  exact ⟨rfl, HB.out⟩
theorem row_at {z f : Int} {L : List Sp} {k : Nat} {x : Sp} (h : L[k]? = some x) : rowB z f (L.drop k) = ((decide (f ≤ x.1) && (decide (1 ≤ x.2) && decide (x.2 ≤ z - x.1))) && rowB z (x.1 + x.2) (L.drop (k + 1))) := by
  have hk := (List.getElem?_eq_some_iff.1 h).1
  have hx := (List.getElem?_eq_some_iff.1 h).2
  rw [List.drop_eq_getElem_cons hk, hx]
  rfl
set_option maxHeartbeats 2000000 in
theorem isRow_any (z : Int) (v : Value) (L : List Sp) (w : World) (hv : Rss w v L) (hI : Inr L) (hz1 : 1 ≤ z) (hz2 : z ≤ 65536) :
    Calls Try.prog 24 #[arV z v] w fun e w' => e = .returned (.bool (rowB z 0 L)) ∧ Below w.heap.size w w' := by
  obtain ⟨a, c, rfl, hlc, hcm⟩ := hv.form
  obtain ⟨n, hn⟩ : ∃ n, L.length = n := ⟨_, rfl⟩
  have HN : Hid (L.length = n) := hn
  rw [hn] at hv hlc ⊢
  obtain ⟨w1, hw1, hX1, hb1⟩ := named w (arO z (.slice a n c))
  obtain ⟨⟨hz, x0, x1⟩, _⟩ := boxC hX1
  have HR : Hid (Rss w1 (.slice a n c) L) := hv.below hb1
  have HX : Hid (w1.heap[w.heap.size]? = some (arO z (.slice a n c))) := hX1
  have HB1 : Hid (Below w.heap.size w w1) := hb1
  have HI : Hid (Inr L) := hI
  obtain ⟨q, hq⟩ : ∃ q, rowB z 0 L = q := ⟨_, rfl⟩
  have HQ : Hid (rowB z 0 L = q) := hq
  rw [hq]
  unfold maxLen at hcm
  clear hv hn hX1 hb1 hI hq
  go_enter Try.func24, Try.ntmps24
  go_wp2
  go_loopw [3, 9] (fun f i wr => ∃ (k : Nat) (fr : Int), k ≤ n ∧ i = .int .i64 (k : Int) ∧ f = .int .i64 fr ∧ 0 ≤ fr ∧ fr ≤ 65536 ∧ Below w1.heap.size w1 wr ∧ Hid (rowB z fr (L.drop k) = q)) (fun _ i _ => n - (intOf i).toNat)
  case atStart => exact ⟨0, 0, Nat.zero_le _, rfl, rfl, Int.le_refl _, by decide, Below.refl _ _, HQ.out⟩
  case round =>
    obtain ⟨k, fr, hk, rfl, rfl, hf0, hf1, hbr, HA⟩ := hrel
    have HBr : Hid (Below w1.heap.size w1 wr) := hbr
    by_cases hlt : ¬ k < n
    · have HQ2 : Hid (true = q) := by have := HA.out; rw [List.drop_eq_nil_of_le (by have := HN.out; omega)] at this; exact this
      clear hbr HA
      go_wp2
      go_ret
      rw [← HQ2.out]
      exact ⟨rfl, bsq HB1.out HBr.out⟩
    have hlt : k < n := by omega
    have hkL : k < L.length := by have := HN.out; omega
    obtain ⟨x, hx⟩ : ∃ x, L[k]? = some x := ⟨L[k], List.getElem?_eq_getElem hkL⟩
    obtain ⟨hp, hs⟩ := HI.out x (List.mem_of_getElem? hx)
    have HA2 : Hid (((decide (fr ≤ x.1) && (decide (1 ≤ x.2) && decide (x.2 ≤ z - x.1))) && rowB z (x.1 + x.2) (L.drop (k + 1))) = q) := by have := HA.out; rw [row_at hx] at this; exact this
    obtain ⟨g, off, rfl, hcell⟩ := HR.out.at k x hx
    obtain ⟨c0, c1⟩ := hcell wr hbr
    obtain ⟨p, s⟩ := x
    simp only at c0 c1 hp hs HA2
    obtain ⟨u1, uf, hu1, huf, hY1, hYf, hbf⟩ := laid2 wr 43 (.int .i64 0) (.int .i64 0) (.int .i64 p) (.int .i64 s)
    obtain ⟨⟨hy, y0, y1⟩, g0, g1⟩ := boxC hY1
    obtain ⟨⟨hyf, z0, z1⟩, _⟩ := boxC hYf
    obtain ⟨⟨_, b0, b1⟩, _⟩ := boxC (keep (keep HX.out hbr) hbf)
    have HBf : Hid (Below w1.heap.size w1 uf) := bsq hbr hbf
    clear hcell hx hkL hbr hbf hY1 hYf HA
    by_cases h1 : p < fr
    · have e1 : decide (p < fr) = true := decide_eq_true h1
      have HQ2 : Hid (false = q) := by have := HA2.out; rw [decide_eq_false (by omega)] at this; exact this
      clear HA2 h1
      go_wp2_with fail
      try rw [huf]
      go_wp2
      go_ret
      rw [← HQ2.out]
      exact ⟨rfl, bsq HB1.out HBf.out⟩
    have e1 : decide (p < fr) = false := decide_eq_false h1
    have h1 : fr ≤ p := by omega
    rw [decide_eq_true h1, Bool.true_and] at HA2
    by_cases h2 : s < 1
    · have e2 : decide (s < 1) = true := decide_eq_true h2
      have HQ2 : Hid (false = q) := by have := HA2.out; rw [decide_eq_false (by omega)] at this; exact this
      clear HA2 h2
      go_wp2_with fail
      try rw [huf]
      go_wp2
      go_ret
      rw [← HQ2.out]
      exact ⟨rfl, bsq HB1.out HBf.out⟩
    have e2 : decide (s < 1) = false := decide_eq_false h2
    have h2 : 1 ≤ s := by omega
    rw [decide_eq_true h2, Bool.true_and] at HA2
    obtain ⟨d, hd⟩ : ∃ d, z - p = d := ⟨_, rfl⟩
    rw [hd] at HA2
    by_cases h3 : s > d
    · have e3 : decide (s > d) = true := decide_eq_true h3
      have HQ2 : Hid (false = q) := by have := HA2.out; rw [decide_eq_false (by omega)] at this; exact this
      clear HA2 h3
      go_wp2_with fail
      try rw [huf]
      go_wp2
      go_ret
      rw [← HQ2.out]
      exact ⟨rfl, bsq HB1.out HBf.out⟩
    have e3 : decide (s > d) = false := decide_eq_false h3
    have h3 : s ≤ d := by omega
    rw [decide_eq_true h3, Bool.true_and] at HA2
    obtain ⟨en, hen⟩ : ∃ en, p + s = en := ⟨_, rfl⟩
    have hen1 : 0 ≤ en := by omega
    have hen2 : en ≤ 65536 := by omega
    have HE : Hid (Calls Try.prog 36 #[spV p s] uf fun e w' => e = .returned (.int .i64 en) ∧ Below uf.heap.size uf w') := by
      have := end_any p s uf (by omega) (by omega)
      rw [hen] at this
      exact this
    rw [hen] at HA2
    clear h1 h2 h3 hen
    go_wp2_with fail
    try rw [huf]
    refine HE.out.mono ?_
    rintro e u ⟨rfl, hbu⟩
    have HBu : Hid (Below w1.heap.size w1 u) := bsq HBf.out hbu
    clear hbu
    go_wp2
    go_roundw
    case rel => exact ⟨k + 1, en, by omega, by go_num, rfl, hen1, hen2, HBu.out, HA2.out⟩
    case measure => simp [intOf]; omega
end Go.Proofs.Ytifebinpjpalhaa.arena
