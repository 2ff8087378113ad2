/- RingOrder: two rows of words beside a ring: words that were put, words that were got. -/
import Derived.Test.YtmapnkjmgpkhfaaRngV
namespace Go.Proofs.Ytmapnkjmgpkhfaa.ring
open Go Go.RowKit
set_option linter.unusedVariables false
set_option linter.unusedSimpArgs false
set_option maxRecDepth 100000

theorem run_append_op {P : Program} {o : Oper} {a : Act} {w w' : World} (s x : Operand) (t : TypeId) (ho : o.op = .call { callee := .builtin .append, args := #[s, x], argTypes := #[t, t] }) (v1 v2 v : Value) (hs : a.eval s = v1) (hx : a.eval x = v2)
    (hr : (Builtin.append_ #[t, t] o.type #[v1, v2]).run P w = .ok v w') : (execOp a.eval o).run P w = .ok (.value v) w' := by
  unfold execOp
  simp only [ho, resolve, invoke, builtin, Sem.run_bind, Sem.run_pure, Result.andThen_ok, List.map_toArray, List.map_cons, List.map_nil, hs, hx, hr]
/-- one word behind the others, and where they lie then -/
theorem run_wds (w : World) (B : Nat) (v : Value) (acc : List Int) (h : Wds w B v acc) (ad : Addr) (c : Nat) (x : Int) (hx : w.cell? (ad.add 0) = some (.int .u64 x)) (hl : acc.length ≤ 100000) (hB : B ≤ w.heap.size) (ty : TypeId) :
    ∃ v' w', (Builtin.append_ #[42, 42] ty #[v, .slice (some ad) 1 c]).run Try.prog w = .ok v' w' ∧ Wds w' B v' (acc ++ [x]) ∧ w.grownBy w' v.ownBlock ∧ Below B w w' ∧ (v'.ownBlock = v.ownBlock ∨ ∀ k, v'.ownBlock = some k → w.heap.size ≤ k) := by
  obtain ⟨i0, hi, hz0, hz1, hz2⟩ := info_parts infoU
  have hnews : ∀ j u, [Value.int .u64 x][j]? = some u → w.cell? (ad.add j) = some u := fun j u hj => by
    have hj0 : j = 0 := by have := (List.getElem?_eq_some_iff.1 hj).1; simp at this; exact this
    subst hj0
    simp at hj
    subst hj
    exact hx
  have h1 : ∀ u ∈ [Value.int .u64 x], u.oneCell' = true := fun u hu => by simp at hu; subst hu; rfl
  have go : ∀ B, B ≤ w.heap.size → Wds w B v acc → ∃ v' w', (Builtin.append_ #[42, 42] ty #[v, .slice (some ad) 1 c]).run Try.prog w = .ok v' w' ∧ w'.ownsRow B 27 1 v' (acc.length + 1) (wcells acc ++ [.int .u64 x]) ∧ w.grownBy w' v.ownBlock := fun B hB h => by
    obtain ⟨v', w', q1, q2, q3, _⟩ := run_append_own (P := Try.prog) w B 42 ty 27 i0 _ 1 8 Try.underlying42 hi hz0 hz1 hz2 rfl (by omega) v acc.length (wcells acc) h ad 1 c [.int .u64 x] rfl hnews h1 (by unfold maxLen; omega) (by omega) hB
    exact ⟨v', w', q1, q2, q3⟩
  obtain ⟨v', w', q1, q2, q3⟩ := go B hB h
  refine ⟨v', w', q1, ?_, q3, (Below.refl _ _).grown q3 hB (own_block h), ?_⟩
  · unfold Wds
    rw [List.length_append, show wcells (acc ++ [x]) = wcells acc ++ [.int .u64 x] by simp [wcells]]
    exact q2
  · rcases h.2 with ⟨rfl, h0⟩ | ⟨g, cap, cur, rfl, hb, hg, hnc, hcm, hcs, htake⟩
    · right
      have hacc : acc = [] := List.eq_nil_of_length_eq_zero h0
      subst hacc
      obtain ⟨v2, w2, r1, r2, _⟩ := go w.heap.size (Nat.le_refl _) ⟨rfl, .inl ⟨rfl, rfl⟩⟩
      rw [q1] at r1
      injection r1 with r1 r1'
      subst r1 r1'
      exact own_block r2
    · by_cases hroom : acc.length + 1 ≤ cap
      · left
        obtain ⟨w2, r1, _, _⟩ := run_append_fits (P := Try.prog) w B 42 ty 27 i0 1 Try.underlying42 hi hz1 g acc.length cap (wcells acc) h ad 1 c [.int .u64 x] rfl hnews h1 hroom
        rw [q1] at r1
        injection r1 with r1 _
        rw [r1]
        rfl
      · right
        have hr := run_append_grow (P := Try.prog) w 42 ty 27 i0 _ Try.underlying42 hi hz0 ⟨g, 0, none⟩ acc.length cap (wcells acc) (by rw [hz1, wcells_length, Nat.mul_one]) (World.ownsRow.cells (g := g) h rfl) ad 1 c [.int .u64 x] (by rw [hz1]; rfl) hnews (by omega) (by omega) (growslice_fits (by omega) (by rw [hz2]; omega))
        rw [q1] at hr
        injection hr with hr _
        rw [hr]
        intro k hk
        injection hk with hk
        simp at hk
        omega
theorem own_apart {w : World} {B B' : Nat} {e e' : TypeId} {s s' : Nat} {v v' : Value} {n n' : Nat} {xs xs' : List Value} (h : w.ownsRow B e s v n xs) (h' : w.ownsRow B' e' s' v' n' xs') (he : e ≠ e') : v.ownBlock = none ∨ v.ownBlock ≠ v'.ownBlock := by
  cases hv : v.ownBlock with
  | none => exact .inl rfl
  | some k =>
    right
    intro q
    obtain ⟨c, fz, h1⟩ := Lib.ownsRow_kind h k hv
    obtain ⟨c', fz', h2⟩ := Lib.ownsRow_kind h' k q.symm
    rw [h1] at h2
    injection h2 with h2
    injection h2 with _ h2 _
    exact he h2
/-- a ring, the words that were put, the words that were got -/
structure RO (w : World) (X : Nat) (vr iv ov : Value) (p : Nat) (s : Sx) (u : World) : Prop where
  rb : RB w X vr (stS p s) u
  iw : Wds u w.heap.size iv s.all
  ow : Wds u w.heap.size ov (s.all.take s.got)
  ap : ∀ k, iv.ownBlock = some k → ov.ownBlock ≠ some k
  inv : InvS p s
section
variable {w u x y : World} {X p : Nat} {vr iv ov v' iv' ov' : Value} {s s' : Sx}
theorem RO.below (h : RO w X vr iv ov p s u) (hb : Below u.heap.size u x) : RO w X vr iv ov p s x := ⟨h.rb.below hb, own_below h.iw hb, own_below h.ow hb, h.ap, h.inv⟩
theorem own6' {R : Nat} {B : Nat} {v : Value} {l : List Int} (h : Wds u B v l) {cs : Array Value} (hX : u.heap[R]? = some (.cells cs 26)) (x0 x1 x2 x3 x4 x5 : Value) :
    Wds ((((((u.setCell ⟨R, 0, none⟩ x0).setCell ⟨R, 1, none⟩ x1).setCell ⟨R, 2, none⟩ x2).setCell ⟨R, 3, none⟩ x3).setCell ⟨R, 4, none⟩ x4).setCell ⟨R, 5, none⟩ x5) B v l := by
  have hne := box_ne h hX (by decide)
  exact ownsRow_setCell_other (ownsRow_setCell_other (ownsRow_setCell_other (ownsRow_setCell_other (ownsRow_setCell_other (ownsRow_setCell_other h hne _) hne _) hne _) hne _) hne _) hne _
theorem RO.put (h : RO w X vr iv ov p s u) (hv : Ces u w.heap.size v' (stS p s').C) (hi : InvS p s') (h1 : s'.all = s.all) (h2 : s'.got = s.got) : ∃ uf, (((((u.setCell ⟨X, 0, none⟩ v').setCell ⟨X, 1, none⟩ (.int .i64 (stS p s').pa)).setCell ⟨X, 2, none⟩ (.int .i64 (stS p s').pb)).setCell ⟨X, 3, none⟩ (.int .i64 (stS p s').ga)).setCell ⟨X, 4, none⟩ (.int .i64 (stS p s').gb)).setCell ⟨X, 5, none⟩ (.int .i64 (stS p s').sn) = uf ∧ RO w X v' iv ov p s' uf := by
  obtain ⟨uf, huf, hR, _, _⟩ := h.rb.put v' (stS p s') hv
  refine ⟨uf, huf, hR, ?_, ?_, h.ap, hi⟩
  · rw [h1, ← huf]; exact own6' h.iw h.rb.1 _ _ _ _ _ _
  · rw [h1, h2, ← huf]; exact own6' h.ow h.rb.1 _ _ _ _ _ _
/-- a word is put -/
theorem RO.inn (h : RO w X vr iv ov p s u) (hv : Ces u w.heap.size v' (stS p s').C) (hb : Below u.heap.size u x) (hg : x.grownBy y iv.ownBlock) (hB : Below w.heap.size x y) (hw : Wds y w.heap.size iv' s'.all)
    (hk : iv'.ownBlock = iv.ownBlock ∨ ∀ k, iv'.ownBlock = some k → x.heap.size ≤ k) (ht : s'.all.take s'.got = s.all.take s.got) (hi : InvS p s') :
    (y.heap[X]? = some (rgOf vr (stS p s))) ∧ ∃ uf, (((((y.setCell ⟨X, 0, none⟩ v').setCell ⟨X, 1, none⟩ (.int .i64 (stS p s').pa)).setCell ⟨X, 2, none⟩ (.int .i64 (stS p s').pb)).setCell ⟨X, 3, none⟩ (.int .i64 (stS p s').ga)).setCell ⟨X, 4, none⟩ (.int .i64 (stS p s').gb)).setCell ⟨X, 5, none⟩ (.int .i64 (stS p s').sn) = uf ∧ RO w X v' iv' ov p s' uf := by
  have hx := h.below hb
  have hvx := hv.below hb
  have hX : y.heap[X]? = some (rgOf vr (stS p s)) := grown_keep hx.rb.1 hg (box_ne hx.iw hx.rb.1 (by decide))
  have hRy : RB w X vr (stS p s) y := ⟨hX, World.ownsRow.kept hx.rb.2.1 hg (own_apart hx.rb.2.1 hx.iw (by decide)), hx.rb.2.2.1.trans hB, hx.rb.2.2.2⟩
  have hvy : Ces y w.heap.size v' (stS p s').C := World.ownsRow.kept hvx hg (own_apart hvx hx.iw (by decide))
  have hoy : Wds y w.heap.size ov (s.all.take s.got) := World.ownsRow.kept hx.ow hg (by
    cases hq : ov.ownBlock with
    | none => exact .inl rfl
    | some k => exact .inr (fun q => hx.ap k q.symm hq))
  obtain ⟨uf, huf, hR, _, _⟩ := hRy.put v' (stS p s') hvy
  refine ⟨hX, uf, huf, hR, ?_, ?_, fun k hk1 hk2 => ?_, hi⟩
  · rw [← huf]; exact own6' hw hX _ _ _ _ _ _
  · rw [ht, ← huf]; exact own6' hoy hX _ _ _ _ _ _
  · rcases hk with q | q
    · exact h.ap k (by rw [← q]; exact hk1) hk2
    · have := q k hk1
      have := (World.ownsRow.lt hx.ow k hk2).2
      omega
/-- a word is got -/
theorem RO.outt (h : RO w X vr iv ov p s u) (hv : Ces u w.heap.size v' (stS p s').C) (hb : Below u.heap.size u x) (hg : x.grownBy y ov.ownBlock) (hB : Below w.heap.size x y) (hw : Wds y w.heap.size ov' (s'.all.take s'.got))
    (hk : ov'.ownBlock = ov.ownBlock ∨ ∀ k, ov'.ownBlock = some k → x.heap.size ≤ k) (ht : s'.all = s.all) (hi : InvS p s') :
    (y.heap[X]? = some (rgOf vr (stS p s))) ∧ ∃ uf, (((((y.setCell ⟨X, 0, none⟩ v').setCell ⟨X, 1, none⟩ (.int .i64 (stS p s').pa)).setCell ⟨X, 2, none⟩ (.int .i64 (stS p s').pb)).setCell ⟨X, 3, none⟩ (.int .i64 (stS p s').ga)).setCell ⟨X, 4, none⟩ (.int .i64 (stS p s').gb)).setCell ⟨X, 5, none⟩ (.int .i64 (stS p s').sn) = uf ∧ RO w X v' iv ov' p s' uf := by
  have hx := h.below hb
  have hvx := hv.below hb
  have hX : y.heap[X]? = some (rgOf vr (stS p s)) := grown_keep hx.rb.1 hg (box_ne hx.ow hx.rb.1 (by decide))
  have hRy : RB w X vr (stS p s) y := ⟨hX, World.ownsRow.kept hx.rb.2.1 hg (own_apart hx.rb.2.1 hx.ow (by decide)), hx.rb.2.2.1.trans hB, hx.rb.2.2.2⟩
  have hvy : Ces y w.heap.size v' (stS p s').C := World.ownsRow.kept hvx hg (own_apart hvx hx.ow (by decide))
  have hiy : Wds y w.heap.size iv s.all := World.ownsRow.kept hx.iw hg (by
    cases hq : iv.ownBlock with
    | none => exact .inl rfl
    | some k => exact .inr (fun q => hx.ap k hq q.symm))
  obtain ⟨uf, huf, hR, _, _⟩ := hRy.put v' (stS p s') hvy
  refine ⟨hX, uf, huf, hR, ?_, ?_, fun k hk1 hk2 => ?_, hi⟩
  · rw [ht, ← huf]; exact own6' hiy hX _ _ _ _ _ _
  · rw [← huf]; exact own6' hw hX _ _ _ _ _ _
  · rcases hk with q | q
    · exact h.ap k hk1 (by rw [← q]; exact hk2)
    · have := q k hk2
      have := (World.ownsRow.lt hx.iw k hk1).2
      omega
end
end Go.Proofs.Ytmapnkjmgpkhfaa.ring
