/- StrikeThree: ErrBus is told just behind three strikes with nothing good between; ErrStall just at FStall; OK just at FGood. -/
import Derived.Test.YtgnffifohdgekacStrD
import Derived.Test.YtgnffifohdgekacStrE
namespace Go.Proofs.Ytgnffifohdgekac.strikeThree
open Go.RowKit Go.Proofs.Ytgnffifohdgekac.pipe Go.Proofs.Ytgnffifohdgekac.strike
set_option linter.unusedVariables false
set_option linter.unusedSimpArgs false
set_option maxRecDepth 100000

theorem cb_back {F : List Int} {j : Nat} (h : j < F.length) : cb ((F.take (j + 1)).reverse) = if F[j] = 1 then 0 else if F[j] = 4 then cb ((F.take j).reverse) else 1 + cb ((F.take j).reverse) := by
  rw [List.take_succ_eq_append_getElem h, List.reverse_append, List.reverse_singleton, List.singleton_append]; rfl
theorem cb_low : ∀ l : List Int, 0 ≤ cb l := by
  intro l
  induction l with
  | nil => exact Int.le_refl _
  | cons f r ih =>
    show 0 ≤ (if f = 1 then 0 else if f = 4 then cb r else 1 + cb r)
    split
    · omega
    · split <;> omega

set_option maxHeartbeats 4000000 in
theorem walk (a0 : ByteArray) (a1 : Int) (v2 : Value) (l2 : List Int) (w0 : a0.size ≤ maxLen) (w1 : (Lit.int .i64 a1).wf = true) (w : World) (hp2 : Ris w v2 l2) :
    Calls Try.prog 3 #[.string a0, .int .i64 a1, v2] w fun e w' => e = .returned (.bool true) ∧ Below w.heap.size w w' := by
  clear w1
  have HR : Hid (Calls Try.prog 5 #[.string a0, .int .i64 a1, v2] w fun e w' => e = .returned (.tuple #[crV (caV a1 a0 l2).k (caV a1 a0 l2).g (caV a1 a0 l2).d (caV a1 a0 l2).u, .int .i64 (caC a1 a0 l2)]) ∧ Below w.heap.size w w') := carry_any a1 a0 v2 l2 w w0 hp2
  have HLI : Hid (∀ u, Calls Try.prog 6 #[] u fun e w' => e = .returned (.bool true) ∧ Below u.heap.size u w') := strike.lives_any
  have HF : Hid (Ris w v2 l2) := hp2
  obtain ⟨fa, fc, rfl, _, _, _⟩ := hp2
  obtain ⟨fn, hfn⟩ : ∃ n, l2.length = n := ⟨_, rfl⟩
  obtain ⟨z, hz⟩ : ∃ z, caC a1 a0 l2 = z := ⟨_, rfl⟩
  obtain ⟨⟨ck, cg, cd, cu⟩, hc⟩ : ∃ c, caV a1 a0 l2 = c := ⟨_, rfl⟩
  have HC : Hid (caV a1 a0 l2 = ⟨ck, cg, cd, cu⟩ ∧ caC a1 a0 l2 = z ∧ l2.length = fn ∧ a0.size ≤ maxLen) := ⟨hc, hz, hfn, w0⟩
  rw [hc, hz, hfn] at HR
  rw [hfn] at HF ⊢
  clear hc hz hfn w0
  go_enter Try.func3, Try.ntmps3
  go_wp2_with fail
  refine HR.out.mono ?_
  rintro e u ⟨rfl, hb⟩
  obtain ⟨u1, uf, hu1, huf, hX1, hXf, hbf⟩ := cr_laid u ck cg cd cu
  obtain ⟨⟨hz1, x0, x1, x2, x3⟩, f0, f1, f2, f3⟩ := cbox hX1
  have HQ : Hid (uf.heap[u.heap.size]? = some (crO ck cg cd cu) ∧ Below w.heap.size w uf) := ⟨hXf, bsq hb hbf⟩
  clear hb hX1 hXf hbf HR
  go_wp2_with fail
  try rw [huf]
  refine (HLI.out _).mono ?_
  rintro e u3 ⟨rfl, hb3⟩
  have HB3 : Hid (Below w.heap.size w u3 ∧ u3.heap[u.heap.size]? = some (crO ck cg cd cu)) := ⟨bsq HQ.out.2 hb3, keep HQ.out.1 hb3⟩
  obtain ⟨⟨hz3, i0, i1, i2, i3⟩, _⟩ := cbox HB3.out.2
  clear hb3 HQ huf hu1 x0 x1 x2 x3 f0 f1 f2 f3 hz1
  by_cases hz0 : ¬ z = 0
  · have e0 : (z != 0) = true := by simpa using hz0
    clear hz0 HC
    go_wp2_with fail
    refine (HLI.out _).mono ?_
    rintro e u4 ⟨rfl, hb4⟩
    have HB : Hid (Below w.heap.size w u4) := bsq HB3.out.1 hb4
    clear hb4 HB3
    go_wp2
    go_ret
    exact ⟨rfl, HB.out⟩
  have hz0 : z = 0 := Classical.not_not.1 hz0
  subst hz0
  obtain ⟨n, r, rfl, n1, n2, t4, hF, hFa, _, hr, hV, hok⟩ := ca_facts HC.out.2.1
  obtain ⟨g1, g2, g3, g4, g5⟩ := to_facts n1 hok
  rw [HC.out.1] at hV
  obtain ⟨k1, k2, k3, k4⟩ := to_parts hV.symm
  have hus := gt_used (n := a0.size / n + 1) l2 (0, 0) 0
  rw [hr, HC.out.2.2.1] at hus
  rw [← k2] at g5
  rw [HC.out.2.2.1] at hF
  subst k1 k4
  have HB : Hid (Below w.heap.size w u3) := HB3.out.1
  have HFN : Hid (l2.length = fn) := HC.out.2.2.1
  have hlast := gt_last (n := a0.size / n + 1) l2 (0, 0) 0 (Nat.succ_pos _)
  have hthree := gt_three (n := a0.size / n + 1) l2 (0, 0) 0 [] hFa (by decide) rfl
  rw [hr] at hlast hthree
  simp only [List.append_nil] at hthree
  clear g1 g2 g3 g4 g5 hV k2 k3 hr hok hFa t4 n1 n2
  generalize r.u = un at *
  generalize r.k = kk at *
  obtain ⟨v1, v2, v3, _, v4⟩ := hus
  by_cases h10 : kk = 10
  · subst h10
    have v2 := v2 rfl
    subst v2
    clear hlast hthree HC
    go_wp2_with fail
    refine (HLI.out _).mono ?_
    rintro e u4 ⟨rfl, hb4⟩
    obtain ⟨⟨hz4, j0, j1, j2, j3⟩, _⟩ := cbox (keep HB3.out.2 hb4)
    have HB4 : Hid (Below w.heap.size w u4) := bsq HB3.out.1 hb4
    clear hb4 HB3 i0 i1 i2 i3
    go_wp2
    go_ret
    exact ⟨by simp, HB4.out⟩
  have e10 : (kk == 10) = false := by simpa using h10
  have hu1 := v3 h10
  obtain ⟨q, rfl⟩ : ∃ q, un = q + 1 := ⟨un - 1, by omega⟩
  simp only [Nat.add_sub_cancel] at hlast hthree
  have hqF : q < l2.length := by have := HFN.out; omega
  obtain ⟨x, hx⟩ : ∃ x, l2[q]? = some x := ⟨l2[q], List.getElem?_eq_getElem hqF⟩
  rw [hx] at hlast hthree
  obtain ⟨g, off, rfl, hcell⟩ := HF.out.at q x hx
  have cF := hcell u3 HB.out
  have eq1 : ((q + 1 : Nat) : Int) - 1 = (q : Int) := by omega
  have HT : Hid (kk = 9 → cb ((l2.take (q + 1)).reverse) = 3 ∧ (x = 2 ∨ x = 3)) := fun h => ⟨(hthree h).1, by rcases (hthree h).2 with h2 | h2 <;> (injection h2 with h2; omega)⟩
  have HL : Hid ((kk = 8 → x = 5) ∧ (kk = 0 → x = 1)) := ⟨fun h => by have := hlast.1 h; injection this, fun h => by have := hlast.2 h; injection this⟩
  clear hlast hthree hcell hx HC HB3 v2 v3 hqF h10 hz3
  by_cases h9 : ¬ kk = 9
  · rcases v4 with rfl | rfl | rfl | rfl
    · obtain rfl := HL.out.2 rfl
      clear HT HL h9
      go_wp2
      go_ret
      exact ⟨by simp, HB.out⟩
    · obtain rfl := HL.out.1 rfl
      clear HT HL h9
      go_wp2
      go_ret
      exact ⟨by simp, HB.out⟩
    · exact absurd rfl h9
    · cases e10
  have h9 := Classical.not_not.1 h9
  subst h9
  obtain ⟨hcb, hx⟩ := HT.out rfl
  have HCB : Hid (cb ((l2.take (q + 1)).reverse) = 3) := hcb
  have HX : Hid (x = 2 ∨ x = 3) := hx
  clear HT HL hcb hx v4
  go_wp2
  go_loopw [10, 11] (fun mv i wr => ∃ (j m : Nat), j ≤ q + 1 ∧ m ≤ 3 ∧ mv = .int .i64 (m : Int) ∧ i = .int .i64 ((j : Int) - 1) ∧ u3 = wr ∧ Hid ((m : Int) + cb ((l2.take j).reverse) = 3)) (fun _ i _ => (intOf i + 1).toNat)
  case atStart => exact ⟨q + 1, 0, Nat.le_refl _, by omega, rfl, by rw [eq1], rfl, by rw [HCB.out]; rfl⟩
  case round =>
    obtain ⟨j, m, hj, hm, rfl, rfl, rfl, HG⟩ := hrel
    have fin : m = 3 → x = 2 ∨ x = 3 → True := fun _ _ => trivial
    cases j with
    | zero =>
      have h3 : m = 3 := by have := HG.out; simp [cb] at this; omega
      subst h3
      clear HG HCB
      rcases HX.out with rfl | rfl
      · go_wp2
        go_ret
        exact ⟨rfl, HB.out⟩
      · go_wp2
        go_ret
        exact ⟨rfl, HB.out⟩
    | succ j =>
      have hjF : j < l2.length := by have := HFN.out; omega
      obtain ⟨y, hy⟩ : ∃ y, l2[j]? = some y := ⟨l2[j], List.getElem?_eq_getElem hjF⟩
      have hyj : l2[j] = y := (List.getElem?_eq_some_iff.1 hy).2
      obtain ⟨g', off', ha, hcell⟩ := HF.out.at j y hy
      injection ha with ha
      injection ha with hg1 hg2 _
      subst hg1 hg2
      have cY := hcell u3 HB.out
      have hG := HG.out
      rw [cb_back hjF, hyj] at hG
      have ej : ((j + 1 : Nat) : Int) - 1 = (j : Int) := by omega
      rw [ej]
      clear hcell hy hyj HG HCB
      by_cases y1 : y = 1
      · subst y1
        rw [if_pos rfl] at hG
        have h3 : m = 3 := by omega
        subst h3
        clear hG
        rcases HX.out with rfl | rfl
        · go_wp2
          go_ret
          exact ⟨rfl, HB.out⟩
        · go_wp2
          go_ret
          exact ⟨rfl, HB.out⟩
      have f1 : (y != 1) = true := by simpa using y1
      rw [if_neg y1] at hG
      have hlow := cb_low (l2.take j).reverse
      by_cases y4 : y = 4
      · subst y4
        rw [if_pos rfl] at hG
        have HG2 : Hid ((m : Int) + cb ((l2.take j).reverse) = 3) := hG
        clear hG hlow
        go_wp2
        go_roundw
        case rel => exact ⟨j, m, by omega, hm, rfl, rfl, trivial, HG2.out⟩
        case measure => simp [intOf]
      have f4 : (y != 4) = true := by simpa using y4
      rw [if_neg y4] at hG
      have HG2 : Hid (((m + 1 : Nat) : Int) + cb ((l2.take j).reverse) = 3) := by show _ = _; omega
      have hm2 : m + 1 ≤ 3 := by omega
      clear hG hlow
      go_wp2
      go_roundw
      case rel => exact ⟨j, m + 1, by omega, hm2, by go_num, rfl, trivial, HG2.out⟩
      case measure => simp [intOf]
end Go.Proofs.Ytgnffifohdgekac.strikeThree
