/- regions that draw their order, step by step; what with answers. -/
import Derived.Test.YtifebinpjpalhaaAreF
import Derived.OrdersHeld
import Derived.RegionTactic
namespace Go.Proofs.Ytifebinpjpalhaa.arena
open Go Go.RowKit
set_option linter.unusedVariables false
set_option linter.unusedSimpArgs false
set_option maxRecDepth 100000

section
variable {P : Program} {md : Region.Mode} {ops : Array Oper} {Q : Exit → Act → World → Prop} {S : World → Prop}
theorem h_take {i : Nat} {o : Oper} (v : Value) {fuel : Nat} {L : Array Bool} {a : Act} {w : World} (hi : ops[i]? = some o) (hs : Region.noSelect ops = true) (hf : Region.free md ops L i = true) (hr : (Region.ready md ops L).contains i = true)
    (hQ : ∀ c a w, Q (.panic c) (a.put o.dst v) w → Q (.panic c) a w) (hg : o.guard = none) (hS : S w) (hy : ∀ W, S W → (execOp a.eval o).run P W = .ok (.value v) W)
    (h : wpAnyH P md ops Q S fuel (L.setIfInBounds i true) (a.put o.dst v) w) : wpAnyH P md ops Q S (fuel + 1) L a w :=
  wpAnyH_take hi hs hf hr hQ (.inl ⟨by simp [Region.wanted, hg], hy⟩) hS h
theorem h_value {i : Nat} {o : Oper} (v : Value) {fuel : Nat} {L : Array Bool} {a : Act} {w w' : World} (hi : ops[i]? = some o) (hr : Region.ready md ops L = [i]) (hg : o.guard = none)
    (hx : (execOp a.eval o).run P w = .ok (.value v) w') (hS : S w') (h : wpAnyH P md ops Q S fuel (L.setIfInBounds i true) (a.put o.dst v) w') : wpAnyH P md ops Q S (fuel + 1) L a w := by
  refine wpAnyH_all hr (by simp) fun j hj => ?_
  obtain rfl : j = i := by simpa using hj
  refine wpOp_step hi fun K' hK => ?_
  rw [if_pos (by simp [Region.wanted, hg])]
  unfold Oper.wp
  rw [hx]
  exact hK _ _ ⟨hS, h⟩
theorem h_skip {i : Nat} {o : Oper} {fuel : Nat} {L : Array Bool} {a : Act} {w w' : World} (hi : ops[i]? = some o) (hr : Region.ready md ops L = [i]) (hg : o.guard = none)
    (hx : (execOp a.eval o).run P w = .ok .skip w') (hS : S w') (h : wpAnyH P md ops Q S fuel (L.setIfInBounds i true) (a.put o.dst undef) w') : wpAnyH P md ops Q S (fuel + 1) L a w := by
  refine wpAnyH_all hr (by simp) fun j hj => ?_
  obtain rfl : j = i := by simpa using hj
  refine wpOp_step hi fun K' hK => ?_
  rw [if_pos (by simp [Region.wanted, hg])]
  unfold Oper.wp
  rw [hx]
  exact hK _ _ ⟨hS, h⟩
/-- a call that comes up alone -/
theorem h_call {i : Nat} {o : Oper} (f : FuncId) (args : Array Value) {fuel : Nat} {L : Array Bool} {a : Act} {w : World} (hi : ops[i]? = some o) (hr : Region.ready md ops L = [i]) (hg : o.guard = none)
    (hx : (execOp a.eval o).run P w = .ok (.enter f args) w) (hc : Calls P f args w fun e w' => ∃ v, e = .returned v ∧ S w' ∧ wpAnyH P md ops Q S fuel (L.setIfInBounds i true) (a.put o.dst v) w') : wpAnyH P md ops Q S (fuel + 1) L a w := by
  refine wpAnyH_all hr (by simp) fun j hj => ?_
  obtain rfl : j = i := by simpa using hj
  refine wpOp_step hi fun K' hK => ?_
  rw [if_pos (by simp [Region.wanted, hg])]
  unfold Oper.wp
  rw [hx]
  simp only [Oper.upon]
  refine hc.mono ?_
  rintro e w' ⟨v, rfl, h1⟩
  exact hK _ _ h1
end
theorem wp_abs {P : Program} {c : Code} {Q : Exit → Act → World → Prop} {a : Act} {w : World} (H : Act → Prop) (ha : H a) (h : ∀ a0, H a0 → a0 = a → c.wp P Q a0 w) : c.wp P Q a w := h a ha rfl
theorem sliceAt_of {a : Option Addr} {n c : Nat} {lo hi : Option Value} {v : Value} (h : ∀ W : World, (Instr.slice 22 (.slice a n c) lo hi none).run Try.prog W = .ok v W) : ∀ W : World, (Instr.sliceAt 22 (.slice a n c) lo hi none).run Try.prog W = .ok v W := fun W => by
  exact (run_sliceAt_slice (P := Try.prog) (w := W) 22 (.slice a n c) lo hi none (by kernel_rfl)).trans (h W)
/-- three slices, laid down to be joined -/
theorem css3 {w : World} {v1 v2 v3 : Value} {L1 L2 L3 : List Sp} (h1 : Rss w v1 L1) (h2 : Rss w v2 L2) (h3 : Rss w v3 L3) : Css (w.alloc (.cells #[v1, v2, v3] 22)) w.heap.size 3 [L1, L2, L3] := by
  have hb := balloc w (.cells #[v1, v2, v3] 22)
  have hx := (MapKept.heap_alloc w (.cells #[v1, v2, v3] 22)).1
  refine ⟨rfl, by simp, fun k L hk => ?_⟩
  match k, hk with
  | 0, hk => simp at hk; subst hk; exact ⟨v1, by rw [cell_of_row _ _ _ _ _ (0, 0) hx]; rfl, h1.below hb⟩
  | 1, hk => simp at hk; subst hk; exact ⟨v2, by rw [cell_of_row _ _ _ _ _ (0, 0) hx]; rfl, h2.below hb⟩
  | 2, hk => simp at hk; subst hk; exact ⟨v3, by rw [cell_of_row _ _ _ _ _ (0, 0) hx]; rfl, h3.below hb⟩
theorem css2 {w : World} {v1 v2 : Value} {L1 L2 : List Sp} (h1 : Rss w v1 L1) (h2 : Rss w v2 L2) : Css (w.alloc (.cells #[v1, v2] 22)) w.heap.size 2 [L1, L2] := by
  have hb := balloc w (.cells #[v1, v2] 22)
  have hx := (MapKept.heap_alloc w (.cells #[v1, v2] 22)).1
  refine ⟨rfl, by simp, fun k L hk => ?_⟩
  match k, hk with
  | 0, hk => simp at hk; subst hk; exact ⟨v1, by rw [cell_of_row _ _ _ _ _ (0, 0) hx]; rfl, h1.below hb⟩
  | 1, hk => simp at hk; subst hk; exact ⟨v2, by rw [cell_of_row _ _ _ _ _ (0, 0) hx]; rfl, h2.below hb⟩
set_option maxHeartbeats 4000000 in
theorem with_any (z : Int) (v : Value) (L : List Sp) (i : Nat) (p s : Int) (w : World) (hv : Rss w v L) (hl : L.length ≤ 64) (hi : i ≤ L.length) :
    Calls Try.prog 27 #[arV z v, .int .i64 (i : Int), spV p s] w fun e w' => ∃ v', e = .returned (arV z v') ∧ Sps w' w.heap.size v' (ins L i (p, s)) ∧ Below w.heap.size w w' := by
  obtain ⟨a, c, rfl, hlc, hcm⟩ := hv.form
  obtain ⟨n, hn⟩ : ∃ n, L.length = n := ⟨_, rfl⟩
  have HN : Hid (L.length = n) := hn
  rw [hn] at hv hlc hl hi ⊢
  obtain ⟨w1, hw1, hX1, hb1⟩ := named w (arO z (.slice a n c))
  obtain ⟨w2, hw2, hX2, hb2⟩ := named w1 (spO p s)
  obtain ⟨w3, hw3, hX3, hb3⟩ := named w2 (arO 0 (.slice none 0 0))
  have hX13 := keep (keep hX1 hb2) hb3
  have hX23 := keep hX2 hb3
  have hR3 := hv.below (bsq hb1 (bsq hb2 hb3))
  obtain ⟨hU, hRu⟩ := hR3.upto i hi
  obtain ⟨a1, hF, hRf⟩ := hR3.from i hi
  have HU : Hid _ := sliceAt_of hU
  have HF : Hid _ := sliceAt_of hF
  have z0 : w.heap.size < w1.heap.size := (Array.getElem?_eq_some_iff.1 hX1).1
  have z1 : w1.heap.size < w2.heap.size := (Array.getElem?_eq_some_iff.1 hX2).1
  have HW : Hid (Rss w3 (.slice a i c) (L.take i) ∧ Rss w3 (.slice a1 (n - i) (c - i)) (L.drop i) ∧ Below w.heap.size w w3 ∧ w3.heap[w2.heap.size]? = some (arO 0 (.slice none 0 0)) ∧ w3.heap[w.heap.size]? = some (arO z (.slice a n c)) ∧ w3.heap[w1.heap.size]? = some (spO p s) ∧ w.heap.size < w2.heap.size ∧ w1.heap.size < w2.heap.size) := ⟨hRu, hRf, bsq hb1 (bsq hb2 hb3), hX3, hX13, hX23, by omega, by omega⟩
  clear hv hX1 hX2 hX3 hb1 hb2 hb3 hX13 hX23 hR3 hU hRu hF hRf hn hcm z0 z1
  go_enter Try.func27, Try.ntmps27
  go_upto_region 1 with (fail)
  try rw [hw3]
  refine wp_abs (fun a0 => a0.tmps.size = 22 ∧ (∀ h, a0.tmps[1]'h = .int .i64 (i : Int)) ∧ (∀ h, a0.tmps[3]'h = .pointer (some ⟨w.heap.size, 0, none⟩)) ∧ (∀ h, a0.tmps[5]'h = .pointer (some ⟨w1.heap.size, 0, none⟩)) ∧ (∀ h, a0.tmps[6]'h = .pointer (some ⟨w2.heap.size, 0, none⟩))) ⟨rfl, fun _ => rfl, fun _ => rfl, fun _ => rfl, fun _ => rfl⟩ ?_
  rintro a0 ⟨hsz, s1, s3, s5, s6⟩ ha0
  refine wp_region_held (S := fun W => W.heap[w.heap.size]? = some (arO z (.slice a n c)) ∧ W.heap[w1.heap.size]? = some (spO p s)) (by kernel_rfl) ?_
  have hS0 : w3.drew.heap[w.heap.size]? = some (arO z (.slice a n c)) ∧ w3.drew.heap[w1.heap.size]? = some (spO p s) := ⟨HW.out.2.2.2.2.1, HW.out.2.2.2.2.2.1⟩
  refine h_take (i := 0) (.pointer (some ⟨w.heap.size, 0, none⟩)) rfl (by kernel_rfl) (by kernel_rfl) (by kernel_rfl) (fun _ _ _ h => h) rfl hS0 (fun W hW => by simp [execOp, go_sem, Act.put, hsz, s1, s3, s5, s6]) ?_
  refine h_take (i := 1) (.int .i64 z) rfl (by kernel_rfl) (by kernel_rfl) (by kernel_rfl) (fun _ _ _ h => h) rfl hS0 (fun W hW => by obtain ⟨⟨zb, x0, x1⟩, _⟩ := boxC hW.1; simp [execOp, go_sem, Act.put, hsz, s1, s3, s5, s6, x0, x1]) ?_
  refine h_take (i := 2) (.pointer (some ⟨w.heap.size, 1, none⟩)) rfl (by kernel_rfl) (by kernel_rfl) (by kernel_rfl) (fun _ _ _ h => h) rfl hS0 (fun W hW => by simp [execOp, go_sem, Act.put, hsz, s1, s3, s5, s6]) ?_
  refine h_take (i := 3) (.slice a n c) rfl (by kernel_rfl) (by kernel_rfl) (by kernel_rfl) (fun _ _ _ h => h) rfl hS0 (fun W hW => by obtain ⟨⟨zb, x0, x1⟩, _⟩ := boxC hW.1; simp [execOp, go_sem, Act.put, hsz, s1, s3, s5, s6, x0, x1]) ?_
  refine h_take (i := 4) (.int .i64 (i : Int)) rfl (by kernel_rfl) (by kernel_rfl) (by kernel_rfl) (fun _ _ _ h => h) rfl hS0 (fun W hW => by simp [execOp, go_sem, Act.put, hsz, s1, s3, s5, s6]) ?_
  refine h_take (i := 5) (.slice a i c) rfl (by kernel_rfl) (by kernel_rfl) (by kernel_rfl) (fun _ _ _ h => h) rfl hS0 (fun W hW => by simp [execOp, go_sem, Act.put, hsz, s1, s3, s5, s6, HU.out]) ?_
  refine h_take (i := 6) (spV p s) rfl (by kernel_rfl) (by kernel_rfl) (by kernel_rfl) (fun _ _ _ h => h) rfl hS0 (fun W hW => by obtain ⟨⟨zb, x0, x1⟩, _⟩ := boxC hW.2; simp [execOp, go_sem, Act.put, hsz, s1, s3, s5, s6, x0, x1]) ?_
  refine h_take (i := 8) (.pointer (some ⟨w.heap.size, 1, none⟩)) rfl (by kernel_rfl) (by kernel_rfl) (by kernel_rfl) (fun _ _ _ h => h) rfl hS0 (fun W hW => by simp [execOp, go_sem, Act.put, hsz, s1, s3, s5, s6]) ?_
  refine h_take (i := 9) (.slice a n c) rfl (by kernel_rfl) (by kernel_rfl) (by kernel_rfl) (fun _ _ _ h => h) rfl hS0 (fun W hW => by obtain ⟨⟨zb, x0, x1⟩, _⟩ := boxC hW.1; simp [execOp, go_sem, Act.put, hsz, s1, s3, s5, s6, x0, x1]) ?_
  refine h_take (i := 10) (.int .i64 (i : Int)) rfl (by kernel_rfl) (by kernel_rfl) (by kernel_rfl) (fun _ _ _ h => h) rfl hS0 (fun W hW => by simp [execOp, go_sem, Act.put, hsz, s1, s3, s5, s6]) ?_
  refine h_take (i := 11) (.slice a1 (n - i) (c - i)) rfl (by kernel_rfl) (by kernel_rfl) (by kernel_rfl) (fun _ _ _ h => h) rfl hS0 (fun W hW => by simp [execOp, go_sem, Act.put, hsz, s1, s3, s5, s6, HF.out]) ?_
  obtain ⟨w4, hw4⟩ : ∃ w4, w3.drew.alloc (spO p s) = w4 := ⟨_, rfl⟩
  have hb4 : Below w3.heap.size w3 w4 := by rw [← hw4]; exact (Below.refl _ _).drew.alloc (Nat.le_refl _) _
  have hR4 : Rss w4 (.slice (some ⟨w3.heap.size, 0, none⟩) 1 1) [(p, s)] := by rw [← hw4]; exact rss_laid w3.drew [(p, s)] (by simp)
  have hS4 := And.intro (keep HW.out.2.2.2.2.1 hb4) (keep HW.out.2.2.2.2.2.1 hb4)
  refine h_value (i := 7) (w' := w4) (.slice (some ⟨w3.heap.size, 0, none⟩) 1 1) rfl (by kernel_rfl) rfl (by rw [← hw4]; simp [execOp, go_sem, Act.put, hsz, s1, s3, s5, s6]) hS4 ?_
  obtain ⟨w5, hw5⟩ : ∃ w5, w4.alloc (.cells #[.slice a i c, .slice (some ⟨w3.heap.size, 0, none⟩) 1 1, .slice a1 (n - i) (c - i)] 22) = w5 := ⟨_, rfl⟩
  have hb5 : Below w4.heap.size w4 w5 := by rw [← hw5]; exact balloc _ _
  have hC5 : Css w5 w4.heap.size 3 [L.take i, [(p, s)], L.drop i] := by rw [← hw5]; exact css3 (HW.out.1.below hb4) hR4 (HW.out.2.1.below hb4)
  have hS5 := And.intro (keep hS4.1 hb5) (keep hS4.2 hb5)
  refine h_value (i := 12) (w' := w5) (.slice (some ⟨w4.heap.size, 0, none⟩) 3 3) rfl (by kernel_rfl) rfl (by rw [← hw5]; simp [execOp, go_sem, Act.put, hsz, s1, s3, s5, s6]) hS5 ?_
  have htot : total [L.take i, [(p, s)], L.drop i] ≤ 1000 := by have := HN.out; simp [total]; omega
  refine h_call (i := 13) 34 #[.slice (some ⟨w4.heap.size, 0, none⟩) 3 3] rfl (by kernel_rfl) rfl (by simp [execOp, go_sem, Act.put, hsz, s1, s3, s5, s6]) ((concat_any _ 3 _ w5 hC5 (by decide) htot).mono ?_)
  rintro e w6 ⟨v', rfl, hv', hb6⟩
  obtain ⟨va, vn, vc, rfl⟩ : ∃ a n c, v' = .slice a n c := by obtain ⟨a, c, h, _⟩ := hv'.form; exact ⟨_, _, _, h⟩
  have hfl : [L.take i, [(p, s)], L.drop i].flatten = ins L i (p, s) := by simp [ins]
  rw [hfl] at hv'
  have hS6 := And.intro (keep hS5.1 hb6) (keep hS5.2 hb6)
  have hb36 : Below w3.heap.size w3 w6 := bsq hb4 (bsq hb5 hb6)
  have hXr := keep HW.out.2.2.2.1 hb36
  refine ⟨_, rfl, hS6, ?_⟩
  refine h_take (i := 14) (arV z (.slice va vn vc)) rfl (by kernel_rfl) (by kernel_rfl) (by kernel_rfl) (fun _ _ _ h => h) rfl hS6 (fun W hW => by simp [execOp, go_sem, Act.put, hsz, s1, s3, s5, s6]) ?_
  obtain ⟨⟨zr, r0, r1⟩, f0, f1⟩ := boxC hXr
  obtain ⟨w7, hw7, hX7, hB7, hk7, hs7⟩ := put2 w6 w2.heap.size (.int .i64 z) (.slice va vn vc) hXr
  have hS7 : w7.heap[w.heap.size]? = some (arO z (.slice a n c)) ∧ w7.heap[w1.heap.size]? = some (spO p s) := ⟨(hk7 _ (by have := HW.out.2.2.2.2.2.2.1; omega)).trans hS6.1, (hk7 _ (by have := HW.out.2.2.2.2.2.2.2; omega)).trans hS6.2⟩
  have hne : (Value.slice va vn vc).ownBlock ≠ some w2.heap.size := box_ne hv' hXr (by decide)
  have hv7 : Sps w7 w.heap.size (.slice va vn vc) (ins L i (p, s)) := by
    rw [← hw7]
    exact Sps.mono (ownsRow_setCell_other (ownsRow_setCell_other hv' hne _) hne _) (Nat.le_trans HW.out.2.2.1.size (Nat.le_trans hb4.size hb5.size))
  have hb7 : Below w.heap.size w w7 := hB7 _ _ (by have := HW.out.2.2.2.2.2.2.1; omega) (bsq HW.out.2.2.1 hb36)
  refine h_skip (i := 15) (w' := w7) rfl (by kernel_rfl) rfl (by rw [← hw7]; simp [execOp, go_sem, Act.put, hsz, s1, s3, s5, s6, zr, r0, r1, f0, f1]) hS7 ?_
  refine wpAnyH_done (by kernel_rfl) ?_ _
  obtain ⟨⟨z7, y0, y1⟩, _⟩ := boxC hX7
  clear hw7 r0 r1 f0 f1
  subst ha0
  clear hsz s1 s3 s5 s6
  go_simp
  go_wp2_with fail
  exact bodyPost_ret (v := arV z (.slice va vn vc)) (by simp [results, Try.results27, go_sem, z7, y0, y1]) rfl ⟨_, rfl, hv7, hb7⟩
end Go.Proofs.Ytifebinpjpalhaa.arena
