/- slices.Index and slices.Contains of a span that is there. -/
import Derived.Test.YtifebinpjpalhaaAreK
namespace Go.Proofs.Ytifebinpjpalhaa.arena
open Go.RowKit
set_option linter.unusedVariables false
set_option linter.unusedSimpArgs false
set_option maxRecDepth 100000

set_option maxHeartbeats 2000000 in
theorem index_mem (v : Value) (L : List Sp) (x : Sp) (w : World) (hv : Rss w v L) (hx : x ∈ L) (hl : L.length ≤ 1000) :
    Calls Try.prog 35 #[v, spV x.1 x.2] w fun e w' => (∃ k : Nat, e = .returned (.int .i64 (k : Int))) ∧ Below w.heap.size w w' := by
  obtain ⟨a, c, rfl, hlc, hcm⟩ := hv.form
  obtain ⟨n, hn⟩ : ∃ n, L.length = n := ⟨_, rfl⟩
  have HN : Hid (L.length = n) := hn
  rw [hn] at hv hlc hl ⊢
  obtain ⟨p, s⟩ := x
  simp only
  obtain ⟨w1, hw1, hX1, hb1⟩ := named w (spO p s)
  obtain ⟨⟨hz, x0, x1⟩, _⟩ := boxC hX1
  have HR : Hid (Rss w1 (.slice a n c) L) := hv.below hb1
  have HM : Hid ((p, s) ∈ L) := hx
  have HB1 : Hid (Below w.heap.size w w1) := hb1
  unfold maxLen at hcm
  clear hv hn hx hX1 hb1
  go_enter Try.func35, Try.ntmps35
  go_wp2
  go_loopw [8] (fun i wr => ∃ (k q : Nat), k ≤ n ∧ i = .int .i64 (k : Int) ∧ wr = w1.drewN q ∧ Hid ((p, s) ∈ L.drop k)) (fun i _ => n - (intOf i).toNat)
  case atStart => exact ⟨0, 0, Nat.zero_le _, rfl, rfl, HM.out⟩
  case round =>
    obtain ⟨k, q, hk, rfl, rfl, HA⟩ := hrel
    by_cases hlt : ¬ k < n
    · exfalso
      have := HA.out
      rw [List.drop_eq_nil_of_le (by have := HN.out; omega)] at this
      simp at this
    have hlt : k < n := by omega
    have hkL : k < L.length := by have := HN.out; omega
    obtain ⟨y, hy⟩ : ∃ y, L[k]? = some y := ⟨L[k], List.getElem?_eq_getElem hkL⟩
    obtain ⟨g, off, rfl, hcell⟩ := HR.out.at k y hy
    obtain ⟨c0, c1⟩ := hcell w1 (Below.refl _ _)
    have HA2 : Hid ((p, s) = y ∨ (p, s) ∈ L.drop (k + 1)) := by
      have := HA.out
      rw [List.drop_eq_getElem_cons hkL, (List.getElem?_eq_some_iff.1 hy).2, List.mem_cons] at this
      exact this
    obtain ⟨yp, ys⟩ := y
    simp only at c0 c1
    obtain ⟨b, hb⟩ : ∃ b, (p == yp && s == ys) = b := ⟨_, rfl⟩
    have heq : ∀ u, (binOp .eql 43 (spV p s) (spV yp ys)).run Try.prog u = .ok (.bool b) u := fun u => by rw [eql_sp, hb]
    clear hcell hy hkL HA
    cases b with
    | true =>
      clear hb HA2 HM
      go_wp2
      go_region
      go_wp2
      go_ret
      exact ⟨⟨_, rfl⟩, below_drewN HB1.out _⟩
    | false =>
      have HA3 : Hid ((p, s) ∈ L.drop (k + 1)) := by
        rcases HA2.out with h | h
        · exfalso
          injection h with h1 h2
          rw [h1, h2] at hb
          simp at hb
        · exact h
      clear hb HA2 HM
      go_wp2
      go_region
      go_wp2
      go_roundw
      case rel => exact ⟨k + 1, q + _, by omega, by go_num, rfl, HA3.out⟩
      case measure => simp [intOf]; omega
theorem contains_mem (v : Value) (L : List Sp) (x : Sp) (w : World) (hv : Rss w v L) (hx : x ∈ L) (hl : L.length ≤ 1000) :
    Calls Try.prog 20 #[v, spV x.1 x.2] w fun e w' => e = .returned (.bool true) ∧ Below w.heap.size w w' := by
  obtain ⟨p, s⟩ := x
  simp only
  obtain ⟨w1, hw1, hX1, hb1⟩ := named w (spO p s)
  obtain ⟨⟨hz, x0, x1⟩, _⟩ := boxC hX1
  have HI : Hid (Calls Try.prog 35 #[v, spV p s] w1 fun e w' => (∃ k : Nat, e = .returned (.int .i64 (k : Int))) ∧ Below w1.heap.size w1 w') := index_mem v L (p, s) w1 (hv.below hb1) hx hl
  have HB1 : Hid (Below w.heap.size w w1) := hb1
  clear hv hx hX1 hb1 hl
  go_enter Try.func20, Try.ntmps20
  go_wp2_with fail
  refine HI.out.mono ?_
  rintro e u ⟨⟨k, rfl⟩, hb⟩
  have HB : Hid (Below w.heap.size w u) := bsq HB1.out hb
  have e1 : decide ((k : Int) ≥ 0) = true := by rw [decide_eq_true_eq]; omega
  clear hb
  go_wp2
  go_ret
  exact ⟨rfl, HB.out⟩
end Go.Proofs.Ytifebinpjpalhaa.arena
