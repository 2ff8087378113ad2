/- DescOwn: clones of texts; a configuration that is copied; a configuration that is written over. -/
import Derived.Test.YtonheibhbilhhaaDescWa
import Derived.Test.YtonheibhbilhhaaDescZ
namespace Go.Proofs.Ytonheibhbilhhaa.desc
open Go.RowKit Go.PlainAid Go.Proofs.Ytonheibhbilhhaa.lane
set_option linter.unusedVariables false
set_option linter.unusedSimpArgs false
set_option maxRecDepth 100000

theorem tcells_one (ps : List (List Int)) : ∀ u ∈ tcells ps, u.oneCell' = true := by
  intro u hu
  obtain ⟨p, _, rfl⟩ := List.mem_map.1 hu
  rfl
theorem tcells_append (a b : List (List Int)) : tcells (a ++ b) = tcells a ++ tcells b := by simp [tcells]
/-- texts behind texts -/
theorem wpList_txt {ops : Array Oper} {rest : List Oper} {o : Oper} {a : Act} {Q : Exit → Act → World → Prop} (w : World) (hgd : o.guard = none) (s x : Operand)
    (ho : o.op = .call { callee := .builtin .append, args := #[s, x], argTypes := #[42, 42] }) (B : Nat) (v : Value) (acc : List (List Int)) (hs : a.eval s = v) (h : Txs w B v acc)
    (vx : Value) (es : List (List Int)) (hx : a.eval x = vx) (hr : Rts w vx es) (hl : acc.length + es.length ≤ 8796093021952) (hB : B ≤ w.heap.size)
    (hK : ∀ v' w', Txs w' B v' (acc ++ es) → Below B w w' → wpList Try.prog ops Q rest (a.put o.dst v') w') : wpList Try.prog ops Q (o :: rest) a w := by
  refine wpList_plain hgd fun K hK' => ?_
  obtain ⟨i0, hi, hz0, hz1, hz2⟩ := info_parts infoS
  obtain ⟨ax, cx, rfl, h1, h2, h3, h4⟩ := hr
  cases ax with
  | none =>
    have h0 : es.length = 0 := by
      rcases Nat.eq_zero_or_pos es.length with q | q
      · exact q
      · obtain ⟨g, off, q1, _⟩ := h4 q; cases q1
    have hes : es = [] := List.eq_nil_of_length_eq_zero h0
    subst hes
    have hrun := run_append_nothing (P := Try.prog) (w := w) B 42 o.type 9 i0 1 Try.underlying42 hi v acc.length (tcells acc) h cx
    simp only [List.length_nil] at hx
    have hk := hK' _ _ (hK v w (by rw [List.append_nil]; exact h) (Below.refl _ _))
    unfold Oper.wp
    simp [execOp, ho, resolve, invoke, builtin, hs, hx, hrun, Result.andThen]
    exact hk
  | some ad =>
    refine wp_append_own w s x 42 ho B 9 i0 _ 1 16 Try.underlying42 hi hz0 hz1 hz2 rfl (by omega) v acc.length (tcells acc) hs h ad es.length cx (tcells es) hx (by rw [tcells_length]; omega) ?_ (tcells_one es) (by unfold maxLen; omega) (by omega) hB ?_
    · intro j u hj
      have hlt := (List.getElem?_eq_some_iff.1 hj).1
      rw [tcells_length] at hlt
      obtain ⟨g, off, q1, hg, hc⟩ := h4 (by omega)
      injection q1 with q1
      subst q1
      rw [Addr.add_lit]; exact hc j u hj
    · intro v' w' h1 h2 _
      refine hK' _ _ (hK v' w' ?_ ((Below.refl _ _).grown h2 hB (own_block h)))
      unfold Txs
      rw [List.length_append, tcells_append]
      exact h1
/-- a configuration that is a copy: its rows are its own -/
structure Bf (w0 wr : World) (X : Nat) (va na atr po : Int) (vf : Value) (L : FL) : Prop where
  box : wr.heap[X]? = some (cfO va na atr po vf)
  hX : w0.heap.size ≤ X
  row : wr.ownsRow w0.heap.size 76 6 vf L.length (fcells L)
  tx : ∀ q ∈ L, Txs wr w0.heap.size q.2.1 q.1.ex
  en : ∀ q ∈ L, Eds wr w0.heap.size q.2.2 q.1.en
  bb : ∀ q ∈ L, BB q.1.ex ∧ ∀ x ∈ q.1.ex, x.length ≤ maxLen
  bel : Below w0.heap.size w0 wr
theorem Bf.below {w0 wr u : World} {X : Nat} {va na atr po : Int} {vf : Value} {L : FL} (h : Bf w0 wr X va na atr po vf L) (hb : Below wr.heap.size wr u) : Bf w0 u X va na atr po vf L :=
  ⟨res_below h.box hb, h.hX, own_below h.row hb, fun q hq => own_below (h.tx q hq) hb, fun q hq => own_below (h.en q hq) hb, h.bb, h.bel.trans (hb.mono h.bel.size)⟩
theorem Bf.rc {w0 wr : World} {X : Nat} {va na atr po : Int} {vf : Value} {L : FL} (h : Bf w0 wr X va na atr po vf L) : Rc wr vf ⟨va, na, atr, po, L.map Prod.fst⟩ L :=
  ⟨⟨Rdg.of h.row, fun q hq => ⟨(h.tx q hq).rts, Rdg.of (h.en q hq), (h.bb q hq).1, (h.bb q hq).2⟩⟩, rfl⟩
theorem Bf.add {w0 wr w' : World} {X : Nat} {va na atr po : Int} {vf vf' : Value} {L : FL} {q : Fc × Value × Value} (h : Bf w0 wr X va na atr po vf L)
    (htx : Txs wr w0.heap.size q.2.1 q.1.ex) (hen : Eds wr w0.heap.size q.2.2 q.1.en) (hbb : BB q.1.ex ∧ ∀ x ∈ q.1.ex, x.length ≤ maxLen)
    (own : w'.ownsRow w0.heap.size 76 6 vf' (L.length + 1) (fcells L ++ fcell q)) (hg : wr.grownBy w' vf.ownBlock) : Bf w0 (w'.setCell ⟨X, 4, none⟩ vf') X va na atr po vf' (L ++ [q]) := by
  have hXlt := (Array.getElem?_eq_some_iff.1 h.box).1
  have hne := box_ne h.row h.box (by decide)
  have hbox : w'.heap[X]? = some (cfO va na atr po vf) := (hg.block X hXlt (fun q => hne q.symm)).trans h.box
  have hne' := box_ne own hbox (by decide)
  have txk : ∀ {v : Value} {ps : List (List Int)}, Txs wr w0.heap.size v ps → Txs (w'.setCell ⟨X, 4, none⟩ vf') w0.heap.size v ps := fun ht => by
    have h1 : Txs w' w0.heap.size _ _ := World.ownsRow.kept ht hg (kind_ne ht h.row (by decide))
    exact ownsRow_setCell_other h1 (box_ne h1 hbox (by decide)) vf'
  have enk : ∀ {v : Value} {ps : List En}, Eds wr w0.heap.size v ps → Eds (w'.setCell ⟨X, 4, none⟩ vf') w0.heap.size v ps := fun ht => by
    have h1 : Eds w' w0.heap.size _ _ := World.ownsRow.kept ht hg (kind_ne ht h.row (by decide))
    exact ownsRow_setCell_other h1 (box_ne h1 hbox (by decide)) vf'
  have bel' : Below w0.heap.size w0 w' := h.bel.grown hg h.bel.size (fun k hk => own_block h.row k hk)
  refine ⟨heap_set5 hbox, h.hX, ?_, fun p hp => ?_, fun p hp => ?_, fun p hp => ?_, bel'.setCell h.hX _⟩
  · rw [fcells_append, List.length_append]
    have := ownsRow_setCell_other (a := ⟨X, 4, none⟩) own hne' vf'
    simpa [fcells] using this
  · rcases List.mem_append.1 hp with hp | hp
    · exact txk (h.tx p hp)
    · simp at hp; subst hp; exact txk htx
  · rcases List.mem_append.1 hp with hp | hp
    · exact enk (h.en p hp)
    · simp at hp; subst hp; exact enk hen
  · rcases List.mem_append.1 hp with hp | hp
    · exact h.bb p hp
    · simp at hp; subst hp; exact hbb
/-- whatever is put in one cell, a row of one's own is one's own -/
theorem own_any {w : World} {B : Nat} {e : TypeId} {s : Nat} {v : Value} {n : Nat} {xs : List Value} (h : w.ownsRow B e s v n xs) (b p : Nat) (u : Value) : ∃ xs', (w.setCell ⟨b, p, none⟩ u).ownsRow B e s v n xs' := by
  by_cases hb : v.ownBlock = some b
  · rcases h.2 with ⟨rfl, h0⟩ | ⟨g, cap, cur, rfl, _⟩
    · cases hb
    · have hgb : g = b := by simpa [Value.ownBlock] using hb
      subst hgb
      exact ⟨_, (World.ownsRow.stored h p u).1⟩
  · exact ⟨xs, ownsRow_setCell_other h hb u⟩
/-- a configuration that is written over, from face i on as it was -/
structure Ds (w0 wr : World) (X : Nat) (va na atr po : Int) (vf : Value) (n : Nat) (D : Nat → Value × Value) (N : Nat → Nat × Nat) (i : Nat) : Prop where
  box : wr.heap[X]? = some (cfO va na atr po vf)
  hX : w0.heap.size ≤ X
  row : ∃ xs, wr.ownsRow w0.heap.size 76 6 vf n xs ∧ ∀ j, i ≤ j → j < n → xs[j * 6 + 4]? = some (D j).1 ∧ xs[j * 6 + 5]? = some (D j).2
  tx : ∀ j, i ≤ j → j < n → ∃ xs, wr.ownsRow w0.heap.size 9 1 (D j).1 (N j).1 xs
  en : ∀ j, i ≤ j → j < n → ∃ xs, wr.ownsRow w0.heap.size 85 5 (D j).2 (N j).2 xs
  bel : Below w0.heap.size w0 wr
theorem Ds.up {w0 wr : World} {X : Nat} {va na atr po : Int} {vf : Value} {n : Nat} {D : Nat → Value × Value} {N : Nat → Nat × Nat} {i k : Nat} (h : Ds w0 wr X va na atr po vf n D N i) (hk : i ≤ k) : Ds w0 wr X va na atr po vf n D N k := by
  obtain ⟨xs, h1, h2⟩ := h.row
  exact ⟨h.box, h.hX, ⟨xs, h1, fun j hj hn => h2 j (by omega) hn⟩, fun j hj hn => h.tx j (by omega) hn, fun j hj hn => h.en j (by omega) hn, h.bel⟩
theorem Ds.below {w0 wr u : World} {X : Nat} {va na atr po : Int} {vf : Value} {n : Nat} {D : Nat → Value × Value} {N : Nat → Nat × Nat} {i : Nat} (h : Ds w0 wr X va na atr po vf n D N i) (hb : Below wr.heap.size wr u) : Ds w0 u X va na atr po vf n D N i := by
  obtain ⟨xs, h1, h2⟩ := h.row
  refine ⟨res_below h.box hb, h.hX, ⟨xs, own_below h1 hb, h2⟩, fun j hj hn => ?_, fun j hj hn => ?_, h.bel.trans (hb.mono h.bel.size)⟩
  · obtain ⟨ys, h3⟩ := h.tx j hj hn; exact ⟨ys, own_below h3 hb⟩
  · obtain ⟨ys, h3⟩ := h.en j hj hn; exact ⟨ys, own_below h3 hb⟩
/-- in a row of another kind -/
theorem Ds.setL {w0 wr : World} {X : Nat} {va na atr po : Int} {vf : Value} {n : Nat} {D : Nat → Value × Value} {N : Nat → Nat × Nat} {i : Nat} (h : Ds w0 wr X va na atr po vf n D N i) {e : TypeId} {s m : Nat} {v : Value} {ys : List Value} {b : Nat}
    (own : wr.ownsRow w0.heap.size e s v m ys) (hv : v.ownBlock = some b) (h1 : e ≠ 76) (h2 : e ≠ 26) (p : Nat) (u : Value) : Ds w0 (wr.setCell ⟨b, p, none⟩ u) X va na atr po vf n D N i := by
  have hXb : X ≠ b := fun q => box_ne own h.box h2 (by rw [hv, q])
  obtain ⟨xs, k1, k2⟩ := h.row
  refine ⟨res_set h.box hXb, h.hX, ⟨xs, ownsRow_setCell_other k1 (fun q => ?_) u, k2⟩, fun j hj hn => ?_, fun j hj hn => ?_, h.bel.setCell (own_block own b hv) _⟩
  · rcases kind_ne own k1 h1 with r | r
    · rw [hv] at r; cases r
    · exact r (by rw [hv]; exact q.symm)
  · obtain ⟨zs, k3⟩ := h.tx j hj hn; exact own_any k3 b p u
  · obtain ⟨zs, k3⟩ := h.en j hj hn; exact own_any k3 b p u
/-- in the row of faces, ahead of face i -/
theorem Ds.setF {w0 wr : World} {X : Nat} {va na atr po : Int} {g n cap : Nat} {D : Nat → Value × Value} {N : Nat → Nat × Nat} {i : Nat} (h : Ds w0 wr X va na atr po (.slice (some ⟨g, 0, none⟩) n cap) n D N i) (p : Nat) (hp : p < i * 6) (u : Value) :
    Ds w0 (wr.setCell ⟨g, p, none⟩ u) X va na atr po (.slice (some ⟨g, 0, none⟩) n cap) n D N i := by
  obtain ⟨xs, k1, k2⟩ := h.row
  have hXg : X ≠ g := fun q => box_ne k1 h.box (by decide) (by rw [q]; rfl)
  refine ⟨res_set h.box hXg, h.hX, ⟨xs.set p u, (World.ownsRow.stored k1 p u).1, fun j hj hn => ?_⟩, fun j hj hn => ?_, fun j hj hn => ?_, h.bel.setCell (own_block k1 g rfl) _⟩
  · obtain ⟨k3, k4⟩ := k2 j hj hn
    have hij := Nat.mul_le_mul_right 6 hj
    rw [List.getElem?_set_ne (by omega), List.getElem?_set_ne (by omega)]
    exact ⟨k3, k4⟩
  · obtain ⟨zs, k3⟩ := h.tx j hj hn; exact own_any k3 g p u
  · obtain ⟨zs, k3⟩ := h.en j hj hn; exact own_any k3 g p u
theorem Inv.ds {w0 wr : World} {X : Nat} {va na atr po : Int} {vf : Value} {L : FL} (h : Inv w0 wr X va na atr po vf L) {Y : Nat} (hY : wr.heap[Y]? = some (cfO va na atr po vf)) (hYl : w0.heap.size ≤ Y) : ∃ D N, Ds w0 wr Y va na atr po vf L.length D N 0 := by
  refine ⟨fun j => (L.getD j (⟨0, 0, 0, 0, [], []⟩, .bool false, .bool false)).2, fun j => ((L.getD j (⟨0, 0, 0, 0, [], []⟩, .bool false, .bool false)).1.ex.length, (L.getD j (⟨0, 0, 0, 0, [], []⟩, .bool false, .bool false)).1.en.length), hY, hYl, ⟨fcells L, h.row, fun j _ hn => ?_⟩, fun j _ hn => ?_, fun j _ hn => ?_, h.bel⟩
  · have e : L[j]? = some (L.getD j (⟨0, 0, 0, 0, [], []⟩, .bool false, .bool false)) := by simp [List.getD, List.getElem?_eq_getElem hn]
    exact ⟨fcells_at L j _ e 4 _ rfl, fcells_at L j _ e 5 _ rfl⟩
  · have e : L.getD j (⟨0, 0, 0, 0, [], []⟩, .bool false, .bool false) ∈ L := by rw [List.getD, List.getElem?_eq_getElem hn]; exact List.getElem_mem hn
    exact ⟨_, h.tx _ e⟩
  · have e : L.getD j (⟨0, 0, 0, 0, [], []⟩, .bool false, .bool false) ∈ L := by rw [List.getD, List.getElem?_eq_getElem hn]; exact List.getElem_mem hn
    exact ⟨_, h.en _ e⟩
theorem own_some {w : World} {B : Nat} {e : TypeId} {s n c : Nat} {a : Option Addr} {xs : List Value} (h : w.ownsRow B e s (.slice a n c) n xs) (hn : 0 < n) : ∃ g, a = some ⟨g, 0, none⟩ := by
  rcases h.2 with ⟨h1, h2⟩ | ⟨g, cap, cur, h1, _⟩
  · omega
  · injection h1 with h1 _ _
    exact ⟨g, h1⟩
/-- a cell of a row of one's own -/
theorem own_cell {w : World} {B : Nat} {e : TypeId} {s n c g : Nat} {xs : List Value} (h : w.ownsRow B e s (.slice (some ⟨g, 0, none⟩) n c) n xs) (j : Nat) (hj : j < n * s) : (∃ v, w.cell? ⟨g, j, none⟩ = some v) ∧ w.frozen? ⟨g, j, none⟩ = false := by
  refine ⟨⟨xs[j]'(by rw [h.1]; exact hj), ?_⟩, World.ownsRow.frozenAt h j⟩
  rw [World.ownsRow.cellAt h j hj, List.getElem?_eq_getElem]
section
variable {w0 wr : World} {X : Nat} {va na atr po : Int} {gf : Option Addr} {n cf : Nat} {D : Nat → Value × Value} {N : Nat → Nat × Nat} {i : Nat}
theorem Ds.face (h : Ds w0 wr X va na atr po (.slice gf n cf) n D N i) (hi : i < n) : ∃ g, gf = some ⟨g, 0, none⟩ ∧ wr.cell? ⟨g, i * 6 + 4, none⟩ = some (D i).1 ∧ wr.cell? ⟨g, i * 6 + 5, none⟩ = some (D i).2 ∧ ∀ r, r < 6 → (∃ v, wr.cell? ⟨g, i * 6 + r, none⟩ = some v) ∧ wr.frozen? ⟨g, i * 6 + r, none⟩ = false := by
  obtain ⟨xs, k1, k2⟩ := h.row
  obtain ⟨g, rfl⟩ := own_some k1 (by omega)
  obtain ⟨k3, k4⟩ := k2 i (Nat.le_refl _) hi
  have hm := Nat.mul_le_mul_right 6 (show i + 1 ≤ n from hi)
  refine ⟨g, rfl, ?_, ?_, fun r hr => own_cell k1 _ (by omega)⟩
  · rw [World.ownsRow.cellAt k1 _ (by omega)]; exact k3
  · rw [World.ownsRow.cellAt k1 _ (by omega)]; exact k4
theorem Ds.ends (h : Ds w0 wr X va na atr po (.slice gf n cf) n D N i) (hi : i < n) : ∃ a c, (D i).2 = .slice a (N i).2 c ∧ (N i).2 ≤ c ∧ c ≤ maxLen := by
  obtain ⟨ys, k3⟩ := h.en i (Nat.le_refl _) hi
  exact own_form k3
theorem Ds.texts (h : Ds w0 wr X va na atr po (.slice gf n cf) n D N i) (hi : i < n) : ∃ a c, (D i).1 = .slice a (N i).1 c ∧ (N i).1 ≤ c ∧ c ≤ maxLen := by
  obtain ⟨ys, k3⟩ := h.tx i (Nat.le_refl _) hi
  exact own_form k3
theorem Ds.endAt (h : Ds w0 wr X va na atr po (.slice gf n cf) n D N i) (hi : i < n) {a : Option Addr} {c k : Nat} (hD : (D i).2 = .slice a (N i).2 c) (hk : k < (N i).2) : ∃ g, a = some ⟨g, 0, none⟩ ∧ (∀ r, r < 5 → (∃ v, wr.cell? ⟨g, k * 5 + r, none⟩ = some v) ∧ wr.frozen? ⟨g, k * 5 + r, none⟩ = false) := by
  obtain ⟨ys, k3⟩ := h.en i (Nat.le_refl _) hi
  rw [hD] at k3
  obtain ⟨g, rfl⟩ := own_some k3 (by omega)
  have hm := Nat.mul_le_mul_right 5 (show k + 1 ≤ (N i).2 from hk)
  exact ⟨g, rfl, fun r hr => own_cell k3 _ (by omega)⟩
theorem Ds.textAt (h : Ds w0 wr X va na atr po (.slice gf n cf) n D N i) (hi : i < n) {a : Option Addr} {c k : Nat} (hD : (D i).1 = .slice a (N i).1 c) (hk : k < (N i).1) : ∃ g, a = some ⟨g, 0, none⟩ ∧ (∃ v, wr.cell? ⟨g, k, none⟩ = some v) ∧ wr.frozen? ⟨g, k, none⟩ = false := by
  obtain ⟨ys, k3⟩ := h.tx i (Nat.le_refl _) hi
  rw [hD] at k3
  obtain ⟨g, rfl⟩ := own_some k3 (by omega)
  exact ⟨g, rfl, own_cell k3 _ (by omega)⟩
theorem Ds.wipeE (h : Ds w0 wr X va na atr po (.slice gf n cf) n D N i) (hi : i < n) {g m c : Nat} (hD : (D i).2 = .slice (some ⟨g, 0, none⟩) m c) (p : Nat) (u : Value) : Ds w0 (wr.setCell ⟨g, p, none⟩ u) X va na atr po (.slice gf n cf) n D N i := by
  obtain ⟨ys, k3⟩ := h.en i (Nat.le_refl _) hi
  exact h.setL k3 (by rw [hD]; rfl) (by decide) (by decide) p u
theorem Ds.wipeT (h : Ds w0 wr X va na atr po (.slice gf n cf) n D N i) (hi : i < n) {g m c : Nat} (hD : (D i).1 = .slice (some ⟨g, 0, none⟩) m c) (p : Nat) (u : Value) : Ds w0 (wr.setCell ⟨g, p, none⟩ u) X va na atr po (.slice gf n cf) n D N i := by
  obtain ⟨ys, k3⟩ := h.tx i (Nat.le_refl _) hi
  exact h.setL k3 (by rw [hD]; rfl) (by decide) (by decide) p u
end
end Go.Proofs.Ytonheibhbilhhaa.desc
