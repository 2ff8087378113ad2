/- StrikeFront: what was taken is a beginning of the text; the one side knows of all of it but at most one piece; all of it, just if the Code is OK. -/
import Derived.Test.YtgnffifohdgekabStrD
import Derived.Test.YtgnffifohdgekabStrE
namespace Go.Proofs.Ytgnffifohdgekab.strikeFront
open Go.RowKit Go.Proofs.Ytgnffifohdgekab.pipe Go.Proofs.Ytgnffifohdgekab.strike
set_option linter.unusedVariables false
set_option linter.unusedSimpArgs false
set_option maxRecDepth 100000

set_option maxHeartbeats 2000000 in
theorem walk (a0 : ByteArray) (a1 : Int) (v2 : Value) (l2 : List Int) (w0 : a0.size ≤ maxLen) (w1 : (Lit.int .i64 a1).wf = true) (w : World) (hp2 : Ris w v2 l2) :
    Calls Try.prog 7 #[.string a0, .int .i64 a1, v2] w fun e w' => e = .returned (.bool true) ∧ Below w.heap.size w w' := by
  clear w1
  have HR : Hid (Calls Try.prog 20 #[.string a0, .int .i64 a1, v2] w fun e w' => e = .returned (.tuple #[crV (caV a1 a0 l2).k (caV a1 a0 l2).g (caV a1 a0 l2).d (caV a1 a0 l2).u, .int .i64 (caC a1 a0 l2)]) ∧ Below w.heap.size w w') := carry_any a1 a0 v2 l2 w w0 hp2
  have HLI : Hid (∀ u, Calls Try.prog 18 #[] u fun e w' => e = .returned (.bool true) ∧ Below u.heap.size u w') := strike.lives_any
  obtain ⟨fa, fc, rfl, _, _, _⟩ := hp2
  obtain ⟨fn, hfn⟩ : ∃ n, l2.length = n := ⟨_, rfl⟩
  obtain ⟨z, hz⟩ : ∃ z, caC a1 a0 l2 = z := ⟨_, rfl⟩
  obtain ⟨⟨ck, cg, cd, cu⟩, hc⟩ : ∃ c, caV a1 a0 l2 = c := ⟨_, rfl⟩
  have HC : Hid (caV a1 a0 l2 = ⟨ck, cg, cd, cu⟩ ∧ caC a1 a0 l2 = z ∧ l2.length = fn ∧ a0.size ≤ maxLen) := ⟨hc, hz, hfn, w0⟩
  rw [hc, hz, hfn] at HR
  rw [hfn]
  clear hc hz hfn w0
  go_enter Try.func7, Try.ntmps7
  go_wp2_with fail
  refine HR.out.mono ?_
  rintro e u ⟨rfl, hb⟩
  obtain ⟨u1, uf, hu1, huf, hX1, hXf, hbf⟩ := cr_laid u ck cg cd cu
  obtain ⟨⟨hz1, x0, x1, x2, x3⟩, f0, f1, f2, f3⟩ := cbox hX1
  have HQ : Hid (uf.heap[u.heap.size]? = some (crO ck cg cd cu) ∧ Below w.heap.size w uf) := ⟨hXf, bsq hb hbf⟩
  clear hb hX1 hXf hbf HR
  go_wp2_with fail
  try rw [huf]
  refine (HLI.out _).mono ?_
  rintro e u3 ⟨rfl, hb3⟩
  have HB3 : Hid (Below w.heap.size w u3 ∧ u3.heap[u.heap.size]? = some (crO ck cg cd cu)) := ⟨bsq HQ.out.2 hb3, keep HQ.out.1 hb3⟩
  obtain ⟨⟨hz3, i0, i1, i2, i3⟩, _⟩ := cbox HB3.out.2
  clear hb3 HQ huf hu1 x0 x1 x2 x3 f0 f1 f2 f3 hz1
  by_cases hz0 : ¬ z = 0
  · have e0 : (z != 0) = true := by simpa using hz0
    obtain ⟨rfl, rfl, rfl, rfl⟩ := zC_of (by rw [HC.out.2.1]; exact hz0) HC.out.1
    have heq := fun w => eql_cr 0 ⟨#[]⟩ 0 0 w
    clear hz0 HC i0 i1 i2 i3
    go_wp2_with fail
    refine (HLI.out _).mono ?_
    rintro e u4 ⟨rfl, hb4⟩
    obtain ⟨⟨hz4, i0, i1, i2, i3⟩, _⟩ := cbox (keep HB3.out.2 hb4)
    have HB : Hid (Below w.heap.size w u4) := bsq HB3.out.1 hb4
    clear hb4 HB3
    go_wp2
    go_ret
    exact ⟨rfl, HB.out⟩
  have hz0 : z = 0 := Classical.not_not.1 hz0
  subst hz0
  obtain ⟨n, r, rfl, n1, n2, t4, hF, _, _, hr, hV, hok⟩ := ca_facts HC.out.2.1
  obtain ⟨g1, g2, g3, g4, g5⟩ := to_facts n1 hok
  rw [HC.out.1] at hV
  obtain ⟨k1, k2, k3, k4⟩ := to_parts hV.symm
  have hus := gt_used (n := a0.size / n + 1) l2 (0, 0) 0
  rw [hr, HC.out.2.2.1] at hus
  rw [← k2] at g1 g2 g5
  rw [HC.out.2.2.1] at hF
  subst k1
  have HHP : Hid (∀ u, Calls Try.prog 21 #[.string a0, .string cg] u fun e w' => e = .returned (.bool true) ∧ u = w') := fun u => hasPrefix_front a0 cg u HC.out.2.2.2 (by omega) g2
  have hu1 := hus.1
  have hk0 : r.k = 0 → cg = a0 ∧ min (r.c.1 * n) a0.size = a0.size := fun h => g5 (hus.2.2.2.1 h)
  subst k4
  have hd4 : min (r.c.1 * n) a0.size ≤ 4096 := by omega
  generalize min (r.c.1 * n) a0.size = dn at *
  generalize min (r.c.2 * n) a0.size = gn at *
  generalize r.u = un at *
  generalize r.k = kk at *
  subst k3
  have HB : Hid (Below w.heap.size w u3) := HB3.out.1
  by_cases h0 : ¬ kk = 0
  · have e0 : (kk != 0) = true := by simpa using h0
    clear HC HB3 hk0 hus hr hV hok g2 g5 k2 h0
    go_wp2_with fail
    refine (HHP.out _).mono ?_
    rintro e u4 ⟨rfl, rfl⟩
    clear HHP
    go_wp2
    go_ret
    exact ⟨rfl, HB.out⟩
  have h0 : kk = 0 := Classical.not_not.1 h0
  obtain ⟨rfl, h6⟩ := hk0 h0
  subst h0
  have es := toList_self cg
  subst h6
  clear HC HB3 hk0 hus hr hV hok g2 g5 k2
  go_wp2_with fail
  refine (HHP.out _).mono ?_
  rintro e u4 ⟨rfl, rfl⟩
  clear HHP
  go_wp2
  go_ret
  exact ⟨rfl, HB.out⟩
end Go.Proofs.Ytgnffifohdgekab.strikeFront
