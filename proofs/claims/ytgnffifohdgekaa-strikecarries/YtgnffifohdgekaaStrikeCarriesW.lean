/- StrikeCarries: whatever is handed in, Carry answers what the document says. -/
import Derived.Test.YtgnffifohdgekaaStrS
namespace Go.Proofs.Ytgnffifohdgekaa.strikeCarries
open Go.RowKit Go.Proofs.Ytgnffifohdgekaa.pipe Go.Proofs.Ytgnffifohdgekaa.strike
set_option linter.unusedVariables false
set_option linter.unusedSimpArgs false
set_option maxRecDepth 100000

set_option maxHeartbeats 2000000 in
theorem walk (a0 : ByteArray) (a1 : Int) (v2 : Value) (l2 : List Int) (w0 : a0.size ≤ maxLen) (w1 : (Lit.int .i64 a1).wf = true) (w : World) (hp2 : Ris w v2 l2) :
    Calls Try.prog 6 #[.string a0, .int .i64 a1, v2] w fun e w' => e = .returned (.bool true) ∧ Below w.heap.size w w' := by
  clear w1
  have HR : Hid (Calls Try.prog 20 #[.string a0, .int .i64 a1, v2] w fun e w' => e = .returned (.tuple #[crV (caV a1 a0 l2).k (caV a1 a0 l2).g (caV a1 a0 l2).d (caV a1 a0 l2).u, .int .i64 (caC a1 a0 l2)]) ∧ Below w.heap.size w w') := carry_any a1 a0 v2 l2 w w0 hp2
  have HR2 : Hid (∀ u, Below w.heap.size w u → Calls Try.prog 21 #[.string a0, .int .i64 a1, v2] u fun e w' => e = .returned (.tuple #[crV (caV a1 a0 l2).k (caV a1 a0 l2).g (caV a1 a0 l2).d (caV a1 a0 l2).u, .int .i64 (caC a1 a0 l2)]) ∧ Below u.heap.size u w') := fun u hu => refCarried_any a1 a0 v2 l2 u w0 (hp2.below hu)
  obtain ⟨fa, fc, rfl, _, _, _⟩ := hp2
  generalize l2.length = fn at *
  generalize caC a1 a0 l2 = z at *
  obtain ⟨⟨ck, cg, cd, cu⟩, hc⟩ : ∃ c, caV a1 a0 l2 = c := ⟨_, rfl⟩
  rw [hc] at HR HR2
  have heq := fun w => eql_cr ck cg cd cu w
  clear hc w0
  go_enter Try.func6, Try.ntmps6
  go_wp2_with fail
  refine HR.out.mono ?_
  rintro e u ⟨rfl, hb⟩
  obtain ⟨u1, uf, hu1, huf, hX1, hXf, hbf⟩ := cr_laid u ck cg cd cu
  obtain ⟨⟨hz1, x0, x1, x2, x3⟩, f0, f1, f2, f3⟩ := cbox hX1
  have HQ : Hid (uf.heap[u.heap.size]? = some (crO ck cg cd cu) ∧ Below w.heap.size w uf) := ⟨hXf, bsq hb hbf⟩
  clear hb hX1 hXf hbf HR
  go_wp2_with fail
  try rw [huf]
  refine (HR2.out _ HQ.out.2).mono ?_
  rintro e v ⟨rfl, hb2⟩
  obtain ⟨v1, vf, hv1, hvf, hY1, hYf, hbv⟩ := cr_laid v ck cg cd cu
  obtain ⟨⟨hz2, y0, y1, y2, y3⟩, g0, g1, g2, g3⟩ := cbox hY1
  obtain ⟨⟨hz3, i0, i1, i2, i3⟩, _⟩ := cbox hYf
  obtain ⟨⟨hz4, j0, j1, j2, j3⟩, _⟩ := cbox (keep (keep HQ.out.1 hb2) hbv)
  have HB : Hid (Below w.heap.size w vf) := bsq HQ.out.2 (bsq hb2 hbv)
  clear hb2 hY1 hYf hbv HR2 HQ huf hu1 x0 x1 x2 x3 f0 f1 f2 f3
  go_wp2
  try rw [hvf]
  go_ret
  exact ⟨by simp, HB.out⟩
end Go.Proofs.Ytgnffifohdgekaa.strikeCarries
