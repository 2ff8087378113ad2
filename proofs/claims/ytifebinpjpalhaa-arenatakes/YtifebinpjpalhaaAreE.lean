/- arena: what isAlign, place and find answer. -/
import Derived.Test.YtifebinpjpalhaaAreD
namespace Go.Proofs.Ytifebinpjpalhaa.arena
open Go.RowKit
set_option linter.unusedVariables false
set_option linter.unusedSimpArgs false
set_option maxRecDepth 100000

theorem and_i64 (a b : Nat) (ha : a < 5000) (hb : b < 5000) : bits .and .i64 (a : Int) (b : Int) = ((Nat.land a b : Nat) : Int) := by
  show IntKind.i64.wrap ((BitVec.ofInt 64 (a : Int) &&& BitVec.ofInt 64 (b : Int)).toNat : Int) = _
  have ea : (BitVec.ofInt 64 (a : Int)).toNat = a := by rw [BitVec.toNat_ofInt]; omega
  have eb : (BitVec.ofInt 64 (b : Int)).toNat = b := by rw [BitVec.toNat_ofInt]; omega
  rw [BitVec.toNat_and, ea, eb, IntKind.wrap_i64]
  have : a &&& b ≤ a := Nat.and_le_left
  show _ = ((a &&& b : Nat) : Int)
  omega
theorem al_low {g : Int} (h : g < 1) : alB g = false := by
  cases q : alB g with
  | false => rfl
  | true => have := al_dvd q; omega
theorem al_high {g : Int} (h : 4096 < g) : alB g = false := by
  cases q : alB g with
  | false => rfl
  | true => have := al_dvd q; omega
theorem isAlign_any (g : Int) (w : World) : Calls Try.prog 25 #[.int .i64 g] w fun e w' => e = .returned (.bool (alB g)) ∧ w = w' := by
  by_cases h1 : g < 1
  · rw [al_low h1]
    have e1 : decide (1 ≤ g) = false := by rw [decide_eq_false_iff_not]; omega
    clear h1
    go_enter Try.func25, Try.ntmps25; go_wp2; go_ret; exact ⟨rfl, rfl⟩
  by_cases h2 : 4096 < g
  · rw [al_high h2]
    have e1 : decide (1 ≤ g) = true := by rw [decide_eq_true_eq]; omega
    have e2 : decide (g ≤ 4096) = false := by rw [decide_eq_false_iff_not]; omega
    clear h1 h2
    go_enter Try.func25, Try.ntmps25; go_wp2; go_ret; exact ⟨rfl, rfl⟩
  obtain ⟨n, rfl⟩ : ∃ n : Nat, g = (n : Int) := ⟨g.toNat, by omega⟩
  have hn : n < 4097 := by omega
  have hn1 : 1 ≤ n := by omega
  have hal := and_al ⟨n, hn⟩ hn1
  simp only at hal
  obtain ⟨m, hm⟩ : ∃ m : Nat, n - 1 = m := ⟨_, rfl⟩
  obtain ⟨b, hb⟩ : ∃ b, alB (n : Int) = b := ⟨_, rfl⟩
  rw [hb] at hal ⊢
  rw [hm] at hal
  have hmi : (n : Int) - 1 = (m : Int) := by omega
  obtain ⟨r, hr⟩ : ∃ r : Nat, Nat.land n m = r := ⟨_, rfl⟩
  rw [hr] at hal
  have hbits : bits .and .i64 (n : Int) (m : Int) = (r : Int) := by
    rw [← hr]
    exact and_i64 n m (by omega) (by omega)
  have e1 : decide (1 ≤ (n : Int)) = true := by rw [decide_eq_true_eq]; omega
  have e2 : decide ((n : Int) ≤ 4096) = true := by rw [decide_eq_true_eq]; omega
  have e3 : ((r : Int) == 0) = b := by
    rw [← hal]
    by_cases q : r = 0
    · subst q; rfl
    · rw [beq_eq_false_iff_ne.2 (by omega), beq_eq_false_iff_ne.2 q]
  clear h1 h2 hal hm hb hr
  go_enter Try.func25, Try.ntmps25; go_wp2; go_ret; exact ⟨rfl, rfl⟩
theorem place_any (f s g : Int) (w : World) (hf : 0 ≤ f) (hf2 : f ≤ 65536) (hs : 1 ≤ s) (hs2 : s ≤ 4096) (hg : 1 ≤ g) (hg2 : g ≤ 4096) : Calls Try.prog 37 #[.int .i64 f, .int .i64 s, .int .i64 g] w fun e w' => e = .returned (.int .i64 (plc s g f)) ∧ w = w' := by
  obtain ⟨a1, a2, a3, a4⟩ := up_spec (n := f) (k := g) (by omega)
  have HU : Hid (Calls Try.prog 41 #[.int .i64 f, .int .i64 g] w fun e w' => e = .returned (.int .i64 (up f g)) ∧ w = w') := roundUp_any f g w hf (by omega) hg hg2
  obtain ⟨r, hr⟩ : ∃ r, up f g = r := ⟨_, rfl⟩
  unfold plc
  rw [hr] at a1 a3 HU ⊢
  have HV : Hid (Calls Try.prog 41 #[.int .i64 r, .int .i64 4096] w fun e w' => e = .returned (.int .i64 (up r 4096)) ∧ w = w') := roundUp_any r 4096 w (by omega) (by omega) (by omega) (by omega)
  obtain ⟨v, hv⟩ : ∃ v, up r 4096 = v := ⟨_, rfl⟩
  rw [hv] at HV ⊢
  obtain ⟨m, hm⟩ : ∃ m, r % 4096 = m := ⟨_, rfl⟩
  rw [hm]
  have ht : r.tmod 4096 = m := by rw [← hm]; exact Int.tmod_eq_emod_of_nonneg (by omega)
  have hm0 : 0 ≤ m := by omega
  have hm1 : m < 4096 := by omega
  clear a2 a4 hr hv hm
  by_cases h : 4096 < m + s
  · rw [if_pos h]
    have e1 : decide (m + s > 4096) = true := decide_eq_true h
    clear h
    go_enter Try.func37, Try.ntmps37
    go_wp2_with fail
    refine HU.out.mono ?_
    rintro e u ⟨rfl, rfl⟩
    go_wp2_with fail
    refine HV.out.mono ?_
    rintro e u ⟨rfl, rfl⟩
    go_wp2
    go_ret
    exact ⟨rfl, rfl⟩
  · rw [if_neg h]
    have e1 : decide (m + s > 4096) = false := decide_eq_false h
    clear h
    go_enter Try.func37, Try.ntmps37
    go_wp2_with fail
    refine HU.out.mono ?_
    rintro e u ⟨rfl, rfl⟩
    go_wp2
    go_ret
    exact ⟨rfl, rfl⟩
theorem fnd_at {z s g f : Int} {L : List Sp} {k : Nat} {x : Sp} (h : L[k]? = some x) : fnd z s g f (L.drop k) k = if plc s g f + s ≤ x.1 then ⟨k, plc s g f, true⟩ else fnd z s g (x.1 + x.2) (L.drop (k + 1)) (k + 1) := by
  have hk := (List.getElem?_eq_some_iff.1 h).1
  have hx := (List.getElem?_eq_some_iff.1 h).2
  rw [List.drop_eq_getElem_cons hk, hx]
  rfl
set_option maxHeartbeats 2000000 in
theorem find_any (z s g : Int) (v : Value) (L : List Sp) (w : World) (hv : Rss w v L) (hc : chk ⟨z, L⟩ = 0) (ha : argB s g = true) :
    Calls Try.prog 26 #[arV z v, .int .i64 s, .int .i64 g] w fun e w' => e = .returned (.tuple #[.int .i64 ((tkF ⟨z, L⟩ s g).i : Int), .int .i64 (tkF ⟨z, L⟩ s g).p, .bool (tkF ⟨z, L⟩ s g).ok]) ∧ Below w.heap.size w w' := by
  obtain ⟨hs1, hs2, hg0, hg2, hgd⟩ := arg_ok ha
  obtain ⟨hz1, hz2, hl64, hrow⟩ := chk_ok hc
  simp only at hz1 hz2 hl64 hrow
  have HP : Hid (∀ (f : Int) (u : World), 0 ≤ f → f ≤ 65536 → (Calls Try.prog 37 #[.int .i64 f, .int .i64 s, .int .i64 g] u fun e w' => e = .returned (.int .i64 (plc s g f)) ∧ u = w') ∧ f ≤ plc s g f ∧ plc s g f < f + 8192) := fun f u h1 h2 =>
    ⟨place_any f s g u h1 h2 hs1 hs2 (by omega) hg2, by have := plc_spec (s := s) (f := f) hg0 hgd hg2 hs1 hs2 h1; omega⟩
  obtain ⟨a, c, rfl, hlc, hcm⟩ := hv.form
  obtain ⟨n, hn⟩ : ∃ n, L.length = n := ⟨_, rfl⟩
  have HN : Hid (L.length = n) := hn
  rw [hn] at hv hlc hl64 ⊢
  obtain ⟨w1, hw1, hX1, hb1⟩ := named w (arO z (.slice a n c))
  obtain ⟨⟨hz, x0, x1⟩, _⟩ := boxC hX1
  have HR : Hid (Rss w1 (.slice a n c) L) := hv.below hb1
  have HX : Hid (w1.heap[w.heap.size]? = some (arO z (.slice a n c))) := hX1
  have HB1 : Hid (Below w.heap.size w w1) := hb1
  have HW : Hid (rowB z 0 L = true) := hrow
  obtain ⟨q, hq⟩ : ∃ q, tkF ⟨z, L⟩ s g = q := ⟨_, rfl⟩
  have HQ : Hid (fnd z s g 0 L 0 = q) := hq
  rw [hq]
  unfold maxLen at hcm
  clear hv hn hX1 hb1 hrow hq hc ha hgd
  go_enter Try.func26, Try.ntmps26
  go_wp2
  go_loopw [9, 17] (fun f i wr => ∃ (k : Nat) (fr : Int), k ≤ n ∧ i = .int .i64 (k : Int) ∧ f = .int .i64 fr ∧ 0 ≤ fr ∧ fr ≤ 65536 ∧ Below w1.heap.size w1 wr ∧ Hid (fnd z s g fr (L.drop k) k = q)) (fun _ i _ => n - (intOf i).toNat)
  case atStart => exact ⟨0, 0, Nat.zero_le _, rfl, rfl, Int.le_refl _, by decide, Below.refl _ _, HQ.out⟩
  case round =>
    obtain ⟨k, fr, hk, rfl, rfl, hf0, hf1, hbr, HA⟩ := hrel
    have HBr : Hid (Below w1.heap.size w1 wr) := hbr
    obtain ⟨P, hP⟩ : ∃ P, plc s g fr = P := ⟨_, rfl⟩
    have HPP := HP.out fr
    rw [hP] at HPP
    have HPf : Hid (∀ u, Calls Try.prog 37 #[.int .i64 fr, .int .i64 s, .int .i64 g] u fun e w' => e = .returned (.int .i64 P) ∧ u = w') := fun u => (HPP u hf0 hf1).1
    obtain ⟨_, hP1, hP2⟩ := HPP wr hf0 hf1
    clear HPP
    by_cases hlt : ¬ k < n
    · have HQ2 : Hid (⟨k, P, decide (P + s ≤ z)⟩ = q) := by have := HA.out; rw [List.drop_eq_nil_of_le (by have := HN.out; omega)] at this; rw [← hP]; exact this
      have hkn : k = n := by omega
      subst hkn
      obtain ⟨⟨_, b0, b1⟩, _⟩ := boxC (keep HX.out hbr)
      clear hbr HA hP
      go_wp2_with fail
      refine (HPf.out _).mono ?_
      rintro e u ⟨rfl, rfl⟩
      go_wp2
      go_region
      go_wp2
      go_returns
      rw [← HQ2.out]
      exact ⟨rfl, (bsq HB1.out HBr.out).drew⟩
    have hlt : k < n := by omega
    have hkL : k < L.length := by have := HN.out; omega
    obtain ⟨x, hx⟩ : ∃ x, L[k]? = some x := ⟨L[k], List.getElem?_eq_getElem hkL⟩
    have hm := row_mem HW.out (List.mem_of_getElem? hx)
    have HA2 : Hid ((if P + s ≤ x.1 then ⟨k, P, true⟩ else fnd z s g (x.1 + x.2) (L.drop (k + 1)) (k + 1)) = q) := by have := HA.out; rw [fnd_at hx, hP] at this; exact this
    obtain ⟨ga, off, rfl, hcell⟩ := HR.out.at k x hx
    obtain ⟨c0, c1⟩ := hcell wr hbr
    obtain ⟨p, t⟩ := x
    simp only at c0 c1 hm HA2
    obtain ⟨u1, uf, hu1, huf, hY1, hYf, hbf⟩ := laid2 wr 43 (.int .i64 0) (.int .i64 0) (.int .i64 p) (.int .i64 t)
    obtain ⟨⟨hy, y0, y1⟩, g0, g1⟩ := boxC hY1
    obtain ⟨⟨hyf, z0, z1⟩, _⟩ := boxC hYf
    have HBf : Hid (Below w1.heap.size w1 uf) := bsq hbr hbf
    clear hcell hx hkL hbr hbf hY1 hYf HA hP
    by_cases h1 : P + s ≤ p
    · have e1 : decide (P + s ≤ p) = true := decide_eq_true h1
      have HQ2 : Hid (⟨k, P, true⟩ = q) := by have := HA2.out; rw [if_pos h1] at this; exact this
      clear HA2 h1
      go_wp2_with fail
      try rw [huf]
      refine (HPf.out _).mono ?_
      rintro e u ⟨rfl, rfl⟩
      go_wp2
      go_returns
      rw [← HQ2.out]
      exact ⟨rfl, bsq HB1.out HBf.out⟩
    have e1 : decide (P + s ≤ p) = false := decide_eq_false h1
    rw [if_neg h1] at HA2
    obtain ⟨en, hen⟩ : ∃ en, p + t = en := ⟨_, rfl⟩
    have hen1 : 0 ≤ en := by omega
    have hen2 : en ≤ 65536 := by omega
    have HE : Hid (Calls Try.prog 36 #[spV p t] uf fun e w' => e = .returned (.int .i64 en) ∧ Below uf.heap.size uf w') := by
      have := end_any p t uf (by omega) (by omega)
      rw [hen] at this
      exact this
    rw [hen] at HA2
    clear h1 hen
    go_wp2_with fail
    try rw [huf]
    refine (HPf.out _).mono ?_
    rintro e u ⟨rfl, rfl⟩
    go_wp2_with fail
    refine HE.out.mono ?_
    rintro e u ⟨rfl, hbu⟩
    have HBu : Hid (Below w1.heap.size w1 u) := bsq HBf.out hbu
    clear hbu
    go_wp2
    go_roundw
    case rel => exact ⟨k + 1, en, by omega, by go_num, rfl, hen1, hen2, HBu.out, HA2.out⟩
    case measure => simp [intOf]; omega
end Go.Proofs.Ytifebinpjpalhaa.arena
