/- StrikeWell: with no three strikes in a row, none refused, and as many good fates as pieces, all of it arrives. -/
import Derived.Test.YtgnffifohdgekabStrD
import Derived.Test.YtgnffifohdgekabStrE
namespace Go.Proofs.Ytgnffifohdgekab.strikeWell
open Go.RowKit Go.Proofs.Ytgnffifohdgekab.pipe Go.Proofs.Ytgnffifohdgekab.strike
set_option linter.unusedVariables false
set_option linter.unusedSimpArgs false
set_option maxRecDepth 100000

theorem bad_step {F : List Int} {k : Nat} {s : Int} (h : k < F.length) : bad s (F.drop k) = (decide (F[k] = 5) || decide (strk s F[k] = 3) || bad (strk s F[k]) (F.drop (k + 1))) := by
  rw [List.drop_eq_getElem_cons h]; rfl
theorem gds_drop {F : List Int} {k : Nat} (h : k < F.length) : gds (F.drop k) = gds (F.drop (k + 1)) + (if F[k] = 1 then 1 else 0) := by
  rw [List.drop_eq_getElem_cons h, gds_cons]
theorem gds_le (F : List Int) : gds F ≤ F.length := List.countP_le_length
theorem tdiv_nat (a b : Nat) : Int.tdiv (a : Int) (b : Int) = ((a / b : Nat) : Int) := by
  rw [Int.tdiv_eq_ediv_of_nonneg (by omega)]; exact (Int.natCast_ediv a b).symm

set_option maxHeartbeats 4000000 in
theorem walk (a0 : ByteArray) (a1 : Int) (v2 : Value) (l2 : List Int) (w0 : a0.size ≤ maxLen) (w1 : (Lit.int .i64 a1).wf = true) (w : World) (hp2 : Ris w v2 l2) :
    Calls Try.prog 8 #[.string a0, .int .i64 a1, v2] w fun e w' => e = .returned (.bool true) ∧ Below w.heap.size w w' := by
  clear w1
  have HR : Hid (Calls Try.prog 20 #[.string a0, .int .i64 a1, v2] w fun e w' => e = .returned (.tuple #[crV (caV a1 a0 l2).k (caV a1 a0 l2).g (caV a1 a0 l2).d (caV a1 a0 l2).u, .int .i64 (caC a1 a0 l2)]) ∧ Below w.heap.size w w') := carry_any a1 a0 v2 l2 w w0 hp2
  have HLI : Hid (∀ u, Calls Try.prog 18 #[] u fun e w' => e = .returned (.bool true) ∧ Below u.heap.size u w') := strike.lives_any
  have HF : Hid (Ris w v2 l2) := hp2
  obtain ⟨fa, fc, rfl, _, _, _⟩ := hp2
  obtain ⟨fn, hfn⟩ : ∃ n, l2.length = n := ⟨_, rfl⟩
  obtain ⟨z, hz⟩ : ∃ z, caC a1 a0 l2 = z := ⟨_, rfl⟩
  obtain ⟨⟨ck, cg, cd, cu⟩, hc⟩ : ∃ c, caV a1 a0 l2 = c := ⟨_, rfl⟩
  have HC : Hid (caV a1 a0 l2 = ⟨ck, cg, cd, cu⟩ ∧ caC a1 a0 l2 = z ∧ l2.length = fn ∧ a0.size ≤ maxLen) := ⟨hc, hz, hfn, w0⟩
  rw [hc, hz, hfn] at HR
  rw [hfn] at HF ⊢
  clear hc hz hfn w0
  go_enter Try.func8, Try.ntmps8
  go_wp2_with fail
  refine HR.out.mono ?_
  rintro e u ⟨rfl, hb⟩
  obtain ⟨u1, uf, hu1, huf, hX1, hXf, hbf⟩ := cr_laid u ck cg cd cu
  obtain ⟨⟨hz1, x0, x1, x2, x3⟩, f0, f1, f2, f3⟩ := cbox hX1
  have HQ : Hid (uf.heap[u.heap.size]? = some (crO ck cg cd cu) ∧ Below w.heap.size w uf) := ⟨hXf, bsq hb hbf⟩
  clear hb hX1 hXf hbf HR
  go_wp2_with fail
  try rw [huf]
  refine (HLI.out _).mono ?_
  rintro e u3 ⟨rfl, hb3⟩
  have HB3 : Hid (Below w.heap.size w u3 ∧ u3.heap[u.heap.size]? = some (crO ck cg cd cu)) := ⟨bsq HQ.out.2 hb3, keep HQ.out.1 hb3⟩
  obtain ⟨⟨hz3, i0, i1, i2, i3⟩, _⟩ := cbox HB3.out.2
  clear hb3 HQ huf hu1 x0 x1 x2 x3 f0 f1 f2 f3 hz1
  by_cases hz0 : ¬ z = 0
  · have e0 : (z != 0) = true := by simpa using hz0
    clear hz0 HC
    go_wp2_with fail
    refine (HLI.out _).mono ?_
    rintro e u4 ⟨rfl, hb4⟩
    have HB : Hid (Below w.heap.size w u4) := bsq HB3.out.1 hb4
    clear hb4 HB3
    go_wp2
    go_ret
    exact ⟨rfl, HB.out⟩
  have hz0 : z = 0 := Classical.not_not.1 hz0
  subst hz0
  obtain ⟨n, r, rfl, n1, n2, t4, hF, hFa, _, hr, hV, hok⟩ := ca_facts HC.out.2.1
  obtain ⟨g1, g2, g3, g4, g5⟩ := to_facts n1 hok
  rw [HC.out.1] at hV
  obtain ⟨k1, k2, k3, k4⟩ := to_parts hV.symm
  have hus := gt_used (n := a0.size / n + 1) l2 (0, 0) 0
  rw [hr, HC.out.2.2.1] at hus
  rw [← k2] at g5
  rw [HC.out.2.2.1] at hF
  subst k1 k4
  have hgw := gt_well (n := a0.size / n + 1) l2 (0, 0) 0 (Nat.succ_pos _)
  rw [hr] at hgw
  have etd := tdiv_nat a0.size n
  have hD4 : a0.size / n ≤ 4096 := Nat.le_trans (Nat.div_le_self _ _) t4
  have HE : Hid (bad 0 l2 = false → (gds l2 < a0.size / n + 1 → r.k = 10 ∧ r.u = fn) ∧ (a0.size / n + 1 ≤ gds l2 → r.k = 0 ∧ cg = a0)) := fun hb => by
    obtain ⟨q1, q2⟩ := hgw hb
    simp only [Nat.zero_add] at q1 q2
    exact ⟨fun h => ⟨q1 h, hus.2.1 (q1 h)⟩, fun h => ⟨q2 h, (g5 (hus.2.2.2.1 (q2 h))).1⟩⟩
  have HFN : Hid (l2.length = fn) := HC.out.2.2.1
  have hn0 : ((n : Int) == 0) = false := by rw [beq_eq_false_iff_ne]; omega
  generalize a0.size / n = D at *
  generalize r.u = un at *
  generalize r.k = kk at *
  have HB : Hid (Below w.heap.size w u3) := HB3.out.1
  clear HC HB3 g1 g2 g3 g4 g5 hgw hV k2 k3 hr hok hus hFa
  go_wp2
  go_loopw [9, 10, 29] (fun sv mv i wr => ∃ (k m : Nat) (s : Int), k ≤ fn ∧ m ≤ k ∧ 0 ≤ s ∧ s ≤ 2 ∧ sv = .int .i64 s ∧ mv = .int .i64 (m : Int) ∧ i = .int .i64 (k : Int) ∧ u3 = wr ∧ Hid (bad s (l2.drop k) = bad 0 l2 ∧ m + gds (l2.drop k) = gds l2)) (fun _ _ i _ => fn - (intOf i).toNat)
  case atStart => exact ⟨0, 0, 0, Nat.zero_le _, Nat.le_refl _, by omega, by omega, rfl, rfl, rfl, rfl, rfl, by simp⟩
  case round =>
    obtain ⟨k, m, s, hk, hmk, s0, s2, rfl, rfl, rfl, rfl, HG⟩ := hrel
    by_cases hlt : ¬ k < fn
    · have hnil : l2.drop k = [] := List.drop_eq_nil_of_le (by have := HFN.out; omega)
      obtain ⟨q1, q2⟩ := HG.out
      rw [hnil] at q1 q2
      have q2 : m = gds l2 := by simpa [gds] using q2
      obtain ⟨q3, q4⟩ := HE.out q1.symm
      rw [← q2] at q3 q4
      by_cases hD : m < D + 1
      · obtain ⟨rfl, rfl⟩ := q3 hD
        have eD : decide ((m : Int) < (D : Int) + 1) = true := by rw [decide_eq_true_eq]; omega
        clear HG HE q1 q2 q3 q4 hnil HF HFN
        go_wp2
        go_ret
        exact ⟨by simp, HB.out⟩
      · obtain ⟨rfl, rfl⟩ := q4 (by omega)
        have eD : decide ((m : Int) < (D : Int) + 1) = false := by rw [decide_eq_false_iff_not]; omega
        have eD2 : decide ((m : Int) ≥ (D : Int) + 1) = true := by rw [decide_eq_true_eq]; omega
        have es := toList_self cg
        clear HG HE q1 q2 q3 q4 hnil HF HFN
        go_wp2
        go_ret
        exact ⟨by simp, HB.out⟩
    have hlt : k < fn := by omega
    have hkF : k < l2.length := by have := HFN.out; omega
    obtain ⟨x, hx⟩ : ∃ x, l2[k]? = some x := ⟨l2[k], List.getElem?_eq_getElem hkF⟩
    have hxk : l2[k] = x := (List.getElem?_eq_some_iff.1 hx).2
    obtain ⟨g, off, rfl, hcell⟩ := HF.out.at k x hx
    have cF := hcell u3 HB.out
    obtain ⟨q1, q2⟩ := HG.out
    rw [bad_step hkF, hxk] at q1
    rw [gds_drop hkF, hxk] at q2
    clear hcell hx hxk hkF HG
    by_cases h5 : x = 5
    · subst h5
      clear q1 q2 HE
      go_wp2
      go_ret
      exact ⟨rfl, HB.out⟩
    have e5 : (x == 5) = false := by simpa using h5
    rw [decide_eq_false h5, Bool.false_or] at q1
    by_cases h1 : x = 1
    · subst h1
      have hs : strk s 1 = 0 := by unfold strk; rw [if_neg (by decide), if_pos rfl]
      have HG2 : Hid (bad 0 (l2.drop (k + 1)) = bad 0 l2 ∧ m + 1 + gds (l2.drop (k + 1)) = gds l2) := by
        rw [hs] at q1
        rw [if_pos rfl] at q2
        exact ⟨q1, by omega⟩
      clear q1 q2 hs e5 h5 HE
      go_wp2
      go_roundw
      case rel => exact ⟨k + 1, m + 1, 0, by omega, by omega, by omega, by omega, rfl, by go_num, by go_num, trivial, HG2.out⟩
      case measure => simp [intOf]; omega
    have e1 : (x == 1) = false := by simpa using h1
    rw [if_neg h1, Nat.add_zero] at q2
    by_cases h23 : x = 2 ∨ x = 3
    · have hs : strk s x = s + 1 := by unfold strk; rw [if_pos h23]
      rw [hs] at q1
      by_cases h3 : s = 2
      · subst h3
        clear q1 q2 HE hs
        rcases h23 with rfl | rfl
        · go_wp2
          go_ret
          exact ⟨rfl, HB.out⟩
        · go_wp2
          go_ret
          exact ⟨rfl, HB.out⟩
      have e3 : (s + 1 == 3) = false := by rw [beq_eq_false_iff_ne]; omega
      have HG2 : Hid (bad (s + 1) (l2.drop (k + 1)) = bad 0 l2 ∧ m + gds (l2.drop (k + 1)) = gds l2) := by
        rw [decide_eq_false (by omega), Bool.false_or] at q1
        exact ⟨q1, q2⟩
      clear q1 q2 hs HE h5 h1
      rcases h23 with rfl | rfl
      · go_wp2
        go_roundw
        case rel => exact ⟨k + 1, m, s + 1, by omega, by omega, by omega, by omega, rfl, rfl, by go_num, trivial, HG2.out⟩
        case measure => simp [intOf]; omega
      · go_wp2
        go_roundw
        case rel => exact ⟨k + 1, m, s + 1, by omega, by omega, by omega, by omega, rfl, rfl, by go_num, trivial, HG2.out⟩
        case measure => simp [intOf]; omega
    have e2 : (x == 2) = false := by rw [beq_eq_false_iff_ne]; omega
    have e3 : (x == 3) = false := by rw [beq_eq_false_iff_ne]; omega
    have es : (s == 3) = false := by rw [beq_eq_false_iff_ne]; omega
    have hs : strk s x = s := by unfold strk; rw [if_neg h23, if_neg h1]
    have HG2 : Hid (bad s (l2.drop (k + 1)) = bad 0 l2 ∧ m + gds (l2.drop (k + 1)) = gds l2) := by
      rw [hs, decide_eq_false (by omega), Bool.false_or] at q1
      exact ⟨q1, q2⟩
    clear q1 q2 hs HE h5 h1 h23
    go_wp2
    go_roundw
    case rel => exact ⟨k + 1, m, s, by omega, by omega, s0, s2, rfl, rfl, by go_num, trivial, HG2.out⟩
    case measure => simp [intOf]; omega
end Go.Proofs.Ytgnffifohdgekab.strikeWell
