/- pipe: a pipe in its box; what arrive and send do with it. -/
import Derived.Test.YtgnffifohdgekaaPipA
namespace Go.Proofs.Ytgnffifohdgekaa.pipe
open Go.RowKit
set_option linter.unusedVariables false
set_option linter.unusedSimpArgs false
set_option maxRecDepth 100000

abbrev ppO (s q : Int) (l g : Value) : Obj := .cells #[.int .i64 s, .int .i64 q, l, g] 24
abbrev ppV (s q : Int) (l g : Value) : Value := .agg #[.int .i64 s, .int .i64 q, l, g]
theorem csetX {v : World} {R : Nat} {cs cs' : Array Value} {T : TypeId} (k : Nat) (x : Value) (h : v.heap[R]? = some (.cells cs T)) (hk : cs.setIfInBounds k x = cs') : (v.setCell ⟨R, k, none⟩ x).heap[R]? = some (.cells cs' T) := by
  rw [← hk]; exact heap_setCell_same v R k cs T x h
theorem box4 {u : World} {X : Nat} {s q : Int} {l g : Value} (h : u.heap[X]? = some (ppO s q l g)) :
    (X < u.heap.size ∧ u.cell? ⟨X, 0, none⟩ = some (.int .i64 s) ∧ u.cell? ⟨X, 1, none⟩ = some (.int .i64 q) ∧ u.cell? ⟨X, 2, none⟩ = some l ∧ u.cell? ⟨X, 3, none⟩ = some g) ∧
    u.frozen? ⟨X, 0, none⟩ = false ∧ u.frozen? ⟨X, 1, none⟩ = false ∧ u.frozen? ⟨X, 2, none⟩ = false ∧ u.frozen? ⟨X, 3, none⟩ = false := by
  have hlt := (Array.getElem?_eq_some_iff.1 h).1
  have hf : ∀ i, u.frozen? ⟨X, i, none⟩ = false := fun i => frozen_of_row u X i _ _ h
  refine ⟨⟨hlt, ?_, ?_, ?_, ?_⟩, hf 0, hf 1, hf 2, hf 3⟩ <;> (rw [cell_of_row u X _ _ _ (0, 0) h]; rfl)
/-- a pipe is put in the place X -/
theorem pp_put (u : World) (X : Nat) (s q : Int) (l g : Value) (s' q' : Int) (l' g' : Value) (hX : u.heap[X]? = some (ppO s q l g)) :
    ∃ uf, (((u.setCell ⟨X, 0, none⟩ (.int .i64 s')).setCell ⟨X, 1, none⟩ (.int .i64 q')).setCell ⟨X, 2, none⟩ l').setCell ⟨X, 3, none⟩ g' = uf ∧ uf.heap[X]? = some (ppO s' q' l' g') ∧ (∀ (B : Nat) (w0 : World), B ≤ X → Below B w0 u → Below B w0 uf) ∧ (∀ k, k ≠ X → uf.heap[k]? = u.heap[k]?) ∧ uf.heap.size = u.heap.size := by
  refine ⟨_, rfl, csetX 3 _ (csetX 2 _ (csetX 1 _ (csetX 0 _ hX rfl) rfl) rfl) rfl, fun B w0 hB hb => (((hb.setCell hB _).setCell hB _).setCell hB _).setCell hB _, fun k hk => ?_, by simp⟩
  rw [heap_setCell_other _ _ _ _ hk, heap_setCell_other _ _ _ _ hk, heap_setCell_other _ _ _ _ hk, heap_setCell_other _ _ _ _ hk]
/-- a pipe that the call may change: its box in X, what is left in blocks ahead of B, what was taken in one from B on -/
structure Bx (b0 X B : Nat) (w : World) (p : Pp) (vL vG : Value) : Prop where
  box : w.heap[X]? = some (ppO p.s p.q vL vG)
  sz : B ≤ w.heap.size
  left : Ow (fun g => b0 ≤ g ∧ g < B ∧ g ≠ X) w vL p.L
  got : Txs w B vG p.G
/-- all blocks ahead of B are as they were, but X -/
structure Kp (X B : Nat) (w w' : World) : Prop where
  os : w'.os = w.os
  tape : w'.tape = w.tape
  output : w'.output = w.output
  size : w.heap.size ≤ w'.heap.size
  block : ∀ k, k < B → k ≠ X → w'.heap[k]? = w.heap[k]?
section
variable {X B : Nat} {a w u : World}
theorem Kp.refl (X B : Nat) (w : World) : Kp X B w w := ⟨rfl, rfl, rfl, Nat.le_refl _, fun _ _ _ => rfl⟩
theorem Kp.of {X : Nat} (h : Below B w u) : Kp X B w u := ⟨h.os, h.tape, h.output, h.size, fun k hk _ => h.block k hk⟩
theorem Kp.trans (h : Kp X B a w) (k : Kp X B w u) : Kp X B a u := ⟨k.os.trans h.os, k.tape.trans h.tape, k.output.trans h.output, Nat.le_trans h.size k.size, fun i hi hx => (k.block i hi hx).trans (h.block i hi hx)⟩
theorem Kp.setX (h : Kp X B a w) (k : Nat) (x : Value) : Kp X B a (w.setCell ⟨X, k, none⟩ x) := h.trans ⟨rfl, rfl, rfl, by simp, fun i _ hx => heap_setCell_other _ _ _ _ hx⟩
theorem Kp.grown (h : Kp X B a w) {row : Option Nat} (hg : w.grownBy u row) (hB : B ≤ w.heap.size) (hr : ∀ k, row = some k → B ≤ k) : Kp X B a u :=
  h.trans ⟨hg.os, hg.tape, hg.output, hg.size, fun i hi _ => hg.block i (by omega) (fun q => by have := hr i q.symm; omega)⟩
theorem Kp.below {b0 : Nat} (h : Kp X B w u) (h1 : b0 ≤ X) (h2 : b0 ≤ B) : Below b0 w u := ⟨h.os, h.tape, h.output, h.size, fun k hk => h.block k (by omega) (by omega)⟩
end
section
variable {b0 X B : Nat} {w u : World} {p : Pp} {vL vG : Value}
theorem Bx.below (h : Bx b0 X B w p vL vG) (hb : Below w.heap.size w u) : Bx b0 X B u p vL vG :=
  ⟨keep h.box hb, Nat.le_trans h.sz hb.size, h.left.below hb, h.got.below hb⟩
theorem Bx.drew (h : Bx b0 X B w p vL vG) : Bx b0 X B w.drew p vL vG := h.below (Below.refl _ _).drew
theorem Bx.gotX (h : Bx b0 X B w p vL vG) : vG.ownBlock ≠ some X := box_ne h.got h.box (by decide)
theorem Bx.leftX (h : Bx b0 X B w p vL vG) (k : Nat) (x : Value) : Ow (fun g => b0 ≤ g ∧ g < B ∧ g ≠ X) (w.setCell ⟨X, k, none⟩ x) vL p.L :=
  h.left.kept (by simp) fun g hg _ => heap_setCell_other _ _ _ _ hg.2.2
theorem Bx.set0 (h : Bx b0 X B w p vL vG) (s' : Int) : Bx b0 X B (w.setCell ⟨X, 0, none⟩ (.int .i64 s')) ⟨s', p.q, p.L, p.G⟩ vL vG :=
  ⟨csetX 0 _ h.box rfl, by have := h.sz; simpa using this, h.leftX _ _, ownsRow_setCell_other h.got h.gotX _⟩
theorem Bx.set1 (h : Bx b0 X B w p vL vG) (q' : Int) : Bx b0 X B (w.setCell ⟨X, 1, none⟩ (.int .i64 q')) ⟨p.s, q', p.L, p.G⟩ vL vG :=
  ⟨csetX 1 _ h.box rfl, by have := h.sz; simpa using this, h.leftX _ _, ownsRow_setCell_other h.got h.gotX _⟩
theorem Bx.setL (h : Bx b0 X B w p vL vG) {v' : Value} {L' : List ByteArray} (ho : Ow (fun g => b0 ≤ g ∧ g < B ∧ g ≠ X) w v' L') : Bx b0 X B (w.setCell ⟨X, 2, none⟩ v') ⟨p.s, p.q, L', p.G⟩ v' vG :=
  ⟨csetX 2 _ h.box rfl, by have := h.sz; simpa using this, ho.kept (by simp) fun g hg _ => heap_setCell_other _ _ _ _ hg.2.2, ownsRow_setCell_other h.got h.gotX _⟩
/-- taken rows grow -/
theorem Bx.grow (h : Bx b0 X B w p vL vG) {v' : Value} {G' : List ByteArray} (own : Txs u B v' G') (hg : w.grownBy u vG.ownBlock) : u.heap[X]? = some (ppO p.s p.q vL vG) ∧ Bx b0 X B (u.setCell ⟨X, 3, none⟩ v') ⟨p.s, p.q, p.L, G'⟩ vL v' ∧ Kp X B w (u.setCell ⟨X, 3, none⟩ v') := by
  have hXlt := (Array.getElem?_eq_some_iff.1 h.box).1
  have hB : ∀ k, vG.ownBlock = some k → B ≤ k := own_block h.got
  have hbx : u.heap[X]? = some (ppO p.s p.q vL vG) := (hg.block X hXlt (fun q => h.gotX q.symm)).trans h.box
  have hX' : v'.ownBlock ≠ some X := box_ne own hbx (by decide)
  have hsz := Nat.le_trans h.sz hg.size
  refine ⟨hbx, ⟨csetX 3 _ hbx rfl, by simpa using hsz, ?_, ownsRow_setCell_other own hX' _⟩, ?_⟩
  · refine h.left.kept (by simpa using hg.size) fun g hp hlt => ?_
    rw [heap_setCell_other _ _ _ _ hp.2.2]
    exact hg.block g hlt (fun q => by have := hB g q.symm; have := hp.2.1; omega)
  · exact ((Kp.refl X B w).grown hg h.sz hB).setX _ _
end
theorem turned_any (n : Int) (w : World) (h : n = 0 ∨ n = 1) : Calls Try.prog 37 #[.int .i64 n] w fun e w' => e = .returned (.int .i64 (1 - n)) ∧ w = w' := by
  rcases h with rfl | rfl <;> (go_enter Try.func37, Try.ntmps37; go_wp2; go_ret; exact ⟨rfl, rfl⟩)
theorem isBit_any (n : Int) (w : World) : Calls Try.prog 23 #[.int .i64 n] w fun e w' => e = .returned (.bool (bitB n)) ∧ w = w' := by
  unfold bitB
  cases h0 : (n == 0) <;> cases h1 : (n == 1) <;> (go_enter Try.func23, Try.ntmps23; go_wp2; go_ret; exact ⟨rfl, rfl⟩)
theorem isFate_any (n : Int) (w : World) : Calls Try.prog 24 #[.int .i64 n] w fun e w' => e = .returned (.bool (fateB n)) ∧ w = w' := by
  unfold fateB
  cases h1 : (n == 1)
  case true => go_enter Try.func24, Try.ntmps24; go_wp2; go_ret; exact ⟨rfl, rfl⟩
  cases h2 : (n == 2)
  case true => go_enter Try.func24, Try.ntmps24; go_wp2; go_ret; exact ⟨rfl, rfl⟩
  cases h3 : (n == 3)
  case true => go_enter Try.func24, Try.ntmps24; go_wp2; go_ret; exact ⟨rfl, rfl⟩
  cases h4 : (n == 4)
  case true => go_enter Try.func24, Try.ntmps24; go_wp2; go_ret; exact ⟨rfl, rfl⟩
  cases h5 : (n == 5)
  case true => go_enter Try.func24, Try.ntmps24; go_wp2; go_ret; exact ⟨rfl, rfl⟩
  go_enter Try.func24, Try.ntmps24; go_wp2; go_ret; exact ⟨rfl, rfl⟩
/-- what stands behind a change of the pipe -/
def BxP (b0 X B : Nat) (w : World) (p : Pp) (e : Ending) (w' : World) : Prop := e = .returned (.tuple #[]) ∧ ∃ vL vG, Bx b0 X B w' p vL vG ∧ Kp X B w w'
set_option maxHeartbeats 2000000 in
theorem arrive_any (b0 X B : Nat) (p : Pp) (vL vG : Value) (x : ByteArray) (r : List ByteArray) (w : World) (h : Bx b0 X B w p vL vG) (hL : p.L = x :: r) (hG : p.G.length ≤ 1000) (hs : p.s = 0 ∨ p.s = 1) (hq : p.q = 0 ∨ p.q = 1) :
    Calls Try.prog 36 #[.pointer (some ⟨X, 0, none⟩)] w (BxP b0 X B w (arrP p x)) := by
  obtain ⟨s, q, L, G⟩ := p
  simp only at hL hG hs hq
  subst hL
  obtain ⟨⟨hz, c0, c1, c2, c3⟩, f0, f1, f2, f3⟩ := box4 h.box
  obtain ⟨la, lc, hv, _, _, _⟩ := h.left
  simp only [List.length_cons] at hv
  subst hv
  obtain ⟨ga, gc, hv, _, _⟩ := h.got.form
  simp only at hv
  subst hv
  simp only at c0 c1 c2 c3
  obtain ⟨lg, lo, rfl, _, hlc, _, hlp, hlg, hcx, _⟩ := h.left.rest
  have H : Hid (Bx b0 X B w ⟨s, q, x :: r, G⟩ (.slice (some ⟨lg, lo, none⟩) (r.length + 1) lc) (.slice ga G.length gc)) := h
  unfold BxP arrP
  by_cases hsq : ¬ s = q
  · have e1 : (s != q) = true := by simpa using hsq
    rw [if_neg hsq]
    clear h hsq
    go_enter Try.func36, Try.ntmps36
    go_wp2
    go_region
    go_wp2
    go_returns
    exact ⟨rfl, _, _, H.out.drew, Kp.of (Below.refl _ _).drew⟩
  · have hsq : s = q := Classical.not_not.1 hsq
    subst hsq
    have e1 : (s != s) = false := by simp
    rw [if_pos rfl]
    clear h
    have HT : Hid (∀ u, Calls Try.prog 37 #[.int .i64 s] u fun e w' => e = .returned (.int .i64 (1 - s)) ∧ u = w') := fun u => turned_any s u hs
    obtain ⟨i0, hi, hz0, hz1, hz2⟩ := info_parts infoS
    have HD : Hid (Bx b0 X B w.drew.drew ⟨s, s, x :: r, G⟩ (.slice (some ⟨lg, lo, none⟩) (r.length + 1) lc) (.slice ga G.length gc)) := H.out.drew.drew
    have HB2 : Hid (Kp X B w w.drew.drew) := Kp.of (Below.refl _ _).drew.drew
    obtain ⟨n, hn⟩ : ∃ n, G.length = n := ⟨_, rfl⟩
    have HN : Hid (G.length = n) := hn
    rw [hn] at HD c3 hG
    obtain ⟨m, hm⟩ : ∃ m, r.length + 1 = m := ⟨_, rfl⟩
    have hm0 : 0 < m := by omega
    rw [hm] at HD c2
    have ho : ∀ u ∈ ([.string x] : List Value), u.oneCell' = true := by simp [Value.oneCell']
    clear H hn hlp hlg hs hq hm hlc
    go_enter Try.func36, Try.ntmps36
    go_wp2
    go_region
    go_wp2_with fail
    go_region_law (first
      | (refine step_append_lies _ (by rfl) _ _ _ (by rfl) B 9 i0 _ 1 16 Try.underlying22 hi hz0 hz1 hz2 rfl (by omega) (.slice ga n gc) n (scells G) (by rfl) (by have := HD.out.got; rw [← HN.out]; rw [← HN.out] at this; exact World.ownsRow.alloc this _)
          ⟨w.heap.size, 0, none⟩ 1 1 [.string x] (by rfl) (by rfl) (World.news_of_block (cs := #[.string x]) (t := 9) (fr := (0, 0)) (heap_alloc_new w.drew.drew _)) ho
          (by omega) (by unfold maxLen; omega) (by omega) (Nat.le_trans HD.out.sz (balloc w.drew.drew _).size) (w.heap.size + 1) (by simp) ?_
         intro gn capn w5 hown5 hgrow5 hat5 hgl5
         have t0 := (HD.out.below (balloc w.drew.drew (.cells #[.string x] 9))).grow (u := w5) (v' := .slice (some ⟨gn, 0, none⟩) (n + 1) capn) (G' := G ++ [x]) (by unfold Txs; rw [List.length_append, HN.out, show scells (G ++ [x]) = scells G ++ [.string x] by simp [scells]]; exact hown5) hgrow5
         obtain ⟨⟨_, m0, m1, m2, m3⟩, n0, n1, n2, n3⟩ := box4 t0.1
         have t6 : Hid (Bx b0 X B (w5.setCell ⟨X, 3, none⟩ (.slice (some ⟨gn, 0, none⟩) (n + 1) capn)) ⟨s, s, x :: r, G ++ [x]⟩ (.slice (some ⟨lg, lo, none⟩) m lc) (.slice (some ⟨gn, 0, none⟩) (n + 1) capn)) := t0.2.1
         have t7 : Hid (Kp X B w (w5.setCell ⟨X, 3, none⟩ (.slice (some ⟨gn, 0, none⟩) (n + 1) capn))) := (HB2.out.trans (Kp.of ((Below.refl _ _).alloc HD.out.sz _))).trans t0.2.2
         clear t0 hown5 hgrow5 hat5 hgl5))
    all_goals
      (obtain ⟨w6, hw6⟩ : ∃ w6, w5.setCell ⟨X, 3, none⟩ (.slice (some ⟨gn, 0, none⟩) (n + 1) capn) = w6 := ⟨_, rfl⟩
       rw [hw6] at t6 t7
       obtain ⟨⟨z6, a0, a1, a2, a3⟩, g0, g1, g2, g3⟩ := box4 t6.out.box
       simp only at a0 a1 a2 a3
       clear m0 m1 m2 m3 n0 n1 n2 n3 HD
       go_wp2_with fail
       try rw [hw6]
       clear hw6
       refine (HT.out _).mono ?_
       rintro e u ⟨rfl, rfl⟩
       go_wp2
       go_returns
       exact ⟨rfl, _, _, t6.out.set1 (1 - s), t7.out.setX _ _⟩)
end Go.Proofs.Ytgnffifohdgekaa.pipe
