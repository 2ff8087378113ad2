/- arena: what New answers; steps of a region that draws its order, guarded ones, too. -/
import Derived.Test.YtifebinpjpalhaaAreB
import Derived.OrdersHeld
import Derived.RegionTactic
namespace Go.Proofs.Ytifebinpjpalhaa.arena
open Go Go.RowKit
set_option linter.unusedVariables false
set_option linter.unusedSimpArgs false
set_option maxRecDepth 100000

section
variable {P : Program} {md : Region.Mode} {ops : Array Oper} {Q : Exit → Act → World → Prop} {S : World → Prop}
theorem g_take {i : Nat} {o : Oper} (v : Value) {fuel : Nat} {L : Array Bool} {a : Act} {w : World} (hi : ops[i]? = some o) (hs : Region.noSelect ops = true) (hf : Region.free md ops L i = true) (hr : (Region.ready md ops L).contains i = true)
    (hQ : ∀ c a w, Q (.panic c) (a.put o.dst v) w → Q (.panic c) a w) (hw : Region.wanted o (yielded ops a.tmps) = true) (hS : S w) (hy : ∀ W, S W → (execOp a.eval o).run P W = .ok (.value v) W)
    (h : wpAnyH P md ops Q S fuel (L.setIfInBounds i true) (a.put o.dst v) w) : wpAnyH P md ops Q S (fuel + 1) L a w :=
  wpAnyH_take hi hs hf hr hQ (.inl ⟨hw, hy⟩) hS h
theorem g_pass {i : Nat} {o : Oper} {fuel : Nat} {L : Array Bool} {a : Act} {w : World} (hi : ops[i]? = some o) (hs : Region.noSelect ops = true) (hf : Region.free md ops L i = true) (hr : (Region.ready md ops L).contains i = true)
    (hQ : ∀ c a w, Q (.panic c) (a.put o.dst undef) w → Q (.panic c) a w) (hw : Region.wanted o (yielded ops a.tmps) = false) (hS : S w)
    (h : wpAnyH P md ops Q S fuel (L.setIfInBounds i true) (a.put o.dst undef) w) : wpAnyH P md ops Q S (fuel + 1) L a w :=
  wpAnyH_take hi hs hf hr hQ (.inr ⟨hw, rfl⟩) hS h
theorem g_call {i : Nat} {o : Oper} (f : FuncId) (args : Array Value) {fuel : Nat} {L : Array Bool} {a : Act} {w : World} (hi : ops[i]? = some o) (hr : Region.ready md ops L = [i]) (hw : Region.wanted o (yielded ops a.tmps) = true)
    (hx : (execOp a.eval o).run P w = .ok (.enter f args) w) (hc : Calls P f args w fun e w' => ∃ v, e = .returned v ∧ S w' ∧ wpAnyH P md ops Q S fuel (L.setIfInBounds i true) (a.put o.dst v) w') : wpAnyH P md ops Q S (fuel + 1) L a w := by
  refine wpAnyH_all hr (by simp) fun j hj => ?_
  obtain rfl : j = i := by simpa using hj
  refine wpOp_step hi fun K' hK => ?_
  rw [if_pos hw]
  unfold Oper.wp
  rw [hx]
  simp only [Oper.upon]
  refine hc.mono ?_
  rintro e w' ⟨v, rfl, h1⟩
  exact hK _ _ h1
end
/-- what New answers -/
def nwZ (s : Int) : Int := if szB s = true then s else 0
def nwC (s : Int) : Int := if szB s = true then 0 else 1
set_option maxHeartbeats 1000000 in
theorem new_any (s : Int) (w : World) : Calls Try.prog 9 #[.int .i64 s] w fun e w' => e = .returned (.tuple #[arV (nwZ s) (.slice none 0 0), .int .i64 (nwC s)]) ∧ Below w.heap.size w w' := by
  obtain ⟨w1, hw1, hX1, hb1⟩ := named w (arO 0 (.slice none 0 0))
  have HS : Hid (Calls Try.prog 21 #[.int .i64 s] w1 fun e w' => e = .returned (.bool (szB s)) ∧ w1 = w') := isSize_any s w1
  unfold nwZ nwC
  obtain ⟨⟨hz, x0, x1⟩, f0, f1⟩ := boxC hX1
  cases hs : szB s
  · rw [hs] at HS
    obtain ⟨uf, huf, hXf, hBf, _, _⟩ := put2 w1 w.heap.size (.int .i64 0) (.slice none 0 0) hX1
    obtain ⟨⟨hzf, y0, y1⟩, _⟩ := boxC hXf
    have HB : Hid (Below w.heap.size w uf) := hBf _ _ (Nat.le_refl _) hb1
    rw [if_neg (by decide), if_neg (by decide)]
    clear hX1 hb1 hXf hBf hs
    go_enter Try.func9, Try.ntmps9
    go_wp2_with fail
    refine HS.out.mono ?_
    rintro e u ⟨rfl, rfl⟩
    clear hw1
    go_wp2
    try rw [huf]
    exact bodyPost_ret (v := .tuple #[arV 0 (.slice none 0 0), .int .i64 1]) (by simp [results, Try.results9, go_sem, hzf, y0, y1]) rfl ⟨rfl, HB.out⟩
  · rw [hs] at HS
    obtain ⟨uf, huf, hXf, hBf, _, _⟩ := put2 w1 w.heap.size (.int .i64 s) (.slice none 0 0) hX1
    obtain ⟨⟨hzf, y0, y1⟩, _⟩ := boxC hXf
    have HB : Hid (Below w.heap.size w uf) := hBf _ _ (Nat.le_refl _) hb1
    rw [if_pos rfl, if_pos rfl]
    clear hX1 hb1 hXf hBf hs
    go_enter Try.func9, Try.ntmps9
    go_wp2_with fail
    refine HS.out.mono ?_
    rintro e u ⟨rfl, rfl⟩
    clear hw1
    go_wp2
    try rw [huf]
    exact bodyPost_ret (v := .tuple #[arV s (.slice none 0 0), .int .i64 0]) (by simp [results, Try.results9, go_sem, hzf, y0, y1]) rfl ⟨rfl, HB.out⟩
end Go.Proofs.Ytifebinpjpalhaa.arena
