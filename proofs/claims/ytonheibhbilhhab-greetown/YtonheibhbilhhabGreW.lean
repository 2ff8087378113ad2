/- GreetOwn: a greeting whose configuration is written over. -/
import Derived.Test.YtonheibhbilhhabGreE
import Derived.Test.YtonheibhbilhhabDescOa
namespace Go.Proofs.Ytonheibhbilhhab.greet
open Go Go.RowKit Go.PlainAid Go.Proofs.Ytonheibhbilhhab.lane Go.Proofs.Ytonheibhbilhhab.desc
set_option linter.unusedVariables false
set_option linter.unusedSimpArgs false
set_option maxRecDepth 100000

/-- a greeting whose configuration is written over, from face i on as it was -/
structure Dg (w0 wr : World) (X : Nat) (l : List Value) (vf : Value) (n : Nat) (D : Nat → Value × Value) (N : Nat → Nat × Nat) (i : Nat) : Prop where
  box : wr.heap[X]? = some (bx 29 l)
  hX : w0.heap.size ≤ X
  row : ∃ xs, wr.ownsRow w0.heap.size 42 6 vf n xs ∧ ∀ j, i ≤ j → j < n → xs[j * 6 + 4]? = some (D j).1 ∧ xs[j * 6 + 5]? = some (D j).2
  tx : ∀ j, i ≤ j → j < n → ∃ xs, wr.ownsRow w0.heap.size 9 1 (D j).1 (N j).1 xs
  en : ∀ j, i ≤ j → j < n → ∃ xs, wr.ownsRow w0.heap.size 44 5 (D j).2 (N j).2 xs
  bel : Below w0.heap.size w0 wr
theorem Dg.up {w0 wr : World} {X : Nat} {l : List Value} {vf : Value} {n : Nat} {D : Nat → Value × Value} {N : Nat → Nat × Nat} {i k : Nat} (h : Dg w0 wr X l vf n D N i) (hk : i ≤ k) : Dg w0 wr X l vf n D N k := by
  obtain ⟨xs, h1, h2⟩ := h.row
  exact ⟨h.box, h.hX, ⟨xs, h1, fun j hj hn => h2 j (by omega) hn⟩, fun j hj hn => h.tx j (by omega) hn, fun j hj hn => h.en j (by omega) hn, h.bel⟩
theorem Dg.below {w0 wr u : World} {X : Nat} {l : List Value} {vf : Value} {n : Nat} {D : Nat → Value × Value} {N : Nat → Nat × Nat} {i : Nat} (h : Dg w0 wr X l vf n D N i) (hb : Below wr.heap.size wr u) : Dg w0 u X l vf n D N i := by
  obtain ⟨xs, h1, h2⟩ := h.row
  refine ⟨res_below h.box hb, h.hX, ⟨xs, own_below h1 hb, h2⟩, fun j hj hn => ?_, fun j hj hn => ?_, h.bel.trans (hb.mono h.bel.size)⟩
  · obtain ⟨ys, h3⟩ := h.tx j hj hn; exact ⟨ys, own_below h3 hb⟩
  · obtain ⟨ys, h3⟩ := h.en j hj hn; exact ⟨ys, own_below h3 hb⟩
/-- in a row of another kind -/
theorem Dg.setL {w0 wr : World} {X : Nat} {l : List Value} {vf : Value} {n : Nat} {D : Nat → Value × Value} {N : Nat → Nat × Nat} {i : Nat} (h : Dg w0 wr X l vf n D N i) {e : TypeId} {s m : Nat} {v : Value} {ys : List Value} {b : Nat}
    (own : wr.ownsRow w0.heap.size e s v m ys) (hv : v.ownBlock = some b) (h1 : e ≠ 42) (h2 : e ≠ 29) (p : Nat) (u : Value) : Dg w0 (wr.setCell ⟨b, p, none⟩ u) X l vf n D N i := by
  have hXb : X ≠ b := fun q => box_ne own h.box h2 (by rw [hv, q])
  obtain ⟨xs, k1, k2⟩ := h.row
  refine ⟨res_set h.box hXb, h.hX, ⟨xs, ownsRow_setCell_other k1 (fun q => ?_) u, k2⟩, fun j hj hn => ?_, fun j hj hn => ?_, h.bel.setCell (own_block own b hv) _⟩
  · rcases kind_ne own k1 h1 with r | r
    · rw [hv] at r; cases r
    · exact r (by rw [hv]; exact q.symm)
  · obtain ⟨zs, k3⟩ := h.tx j hj hn; exact own_any k3 b p u
  · obtain ⟨zs, k3⟩ := h.en j hj hn; exact own_any k3 b p u
/-- in the row of faces, ahead of face i -/
theorem Dg.setF {w0 wr : World} {X : Nat} {l : List Value} {g n cap : Nat} {D : Nat → Value × Value} {N : Nat → Nat × Nat} {i : Nat} (h : Dg w0 wr X l (.slice (some ⟨g, 0, none⟩) n cap) n D N i) (p : Nat) (hp : p < i * 6) (u : Value) :
    Dg w0 (wr.setCell ⟨g, p, none⟩ u) X l (.slice (some ⟨g, 0, none⟩) n cap) n D N i := by
  obtain ⟨xs, k1, k2⟩ := h.row
  have hXg : X ≠ g := fun q => box_ne k1 h.box (by decide) (by rw [q]; rfl)
  refine ⟨res_set h.box hXg, h.hX, ⟨xs.set p u, (World.ownsRow.stored k1 p u).1, fun j hj hn => ?_⟩, fun j hj hn => ?_, fun j hj hn => ?_, h.bel.setCell (own_block k1 g rfl) _⟩
  · obtain ⟨k3, k4⟩ := k2 j hj hn
    have hij := Nat.mul_le_mul_right 6 hj
    rw [List.getElem?_set_ne (by omega), List.getElem?_set_ne (by omega)]
    exact ⟨k3, k4⟩
  · obtain ⟨zs, k3⟩ := h.tx j hj hn; exact own_any k3 g p u
  · obtain ⟨zs, k3⟩ := h.en j hj hn; exact own_any k3 g p u
section
variable {w0 wr : World} {X : Nat} {l : List Value} {gf : Option Addr} {n cf : Nat} {D : Nat → Value × Value} {N : Nat → Nat × Nat} {i : Nat}
theorem Dg.face (h : Dg w0 wr X l (.slice gf n cf) n D N i) (hi : i < n) : ∃ g, gf = some ⟨g, 0, none⟩ ∧ wr.cell? ⟨g, i * 6 + 4, none⟩ = some (D i).1 ∧ wr.cell? ⟨g, i * 6 + 5, none⟩ = some (D i).2 ∧ ∀ r, r < 6 → (∃ v, wr.cell? ⟨g, i * 6 + r, none⟩ = some v) ∧ wr.frozen? ⟨g, i * 6 + r, none⟩ = false := by
  obtain ⟨xs, k1, k2⟩ := h.row
  obtain ⟨g, rfl⟩ := own_some k1 (by omega)
  obtain ⟨k3, k4⟩ := k2 i (Nat.le_refl _) hi
  have hm := Nat.mul_le_mul_right 6 (show i + 1 ≤ n from hi)
  refine ⟨g, rfl, ?_, ?_, fun r hr => own_cell k1 _ (by omega)⟩
  · rw [World.ownsRow.cellAt k1 _ (by omega)]; exact k3
  · rw [World.ownsRow.cellAt k1 _ (by omega)]; exact k4
theorem Dg.ends (h : Dg w0 wr X l (.slice gf n cf) n D N i) (hi : i < n) : ∃ a c, (D i).2 = .slice a (N i).2 c ∧ (N i).2 ≤ c ∧ c ≤ maxLen := by
  obtain ⟨ys, k3⟩ := h.en i (Nat.le_refl _) hi
  exact own_form k3
theorem Dg.texts (h : Dg w0 wr X l (.slice gf n cf) n D N i) (hi : i < n) : ∃ a c, (D i).1 = .slice a (N i).1 c ∧ (N i).1 ≤ c ∧ c ≤ maxLen := by
  obtain ⟨ys, k3⟩ := h.tx i (Nat.le_refl _) hi
  exact own_form k3
theorem Dg.endAt (h : Dg w0 wr X l (.slice gf n cf) n D N i) (hi : i < n) {a : Option Addr} {c k : Nat} (hD : (D i).2 = .slice a (N i).2 c) (hk : k < (N i).2) : ∃ g, a = some ⟨g, 0, none⟩ ∧ (∀ r, r < 5 → (∃ v, wr.cell? ⟨g, k * 5 + r, none⟩ = some v) ∧ wr.frozen? ⟨g, k * 5 + r, none⟩ = false) := by
  obtain ⟨ys, k3⟩ := h.en i (Nat.le_refl _) hi
  rw [hD] at k3
  obtain ⟨g, rfl⟩ := own_some k3 (by omega)
  have hm := Nat.mul_le_mul_right 5 (show k + 1 ≤ (N i).2 from hk)
  exact ⟨g, rfl, fun r hr => own_cell k3 _ (by omega)⟩
theorem Dg.textAt (h : Dg w0 wr X l (.slice gf n cf) n D N i) (hi : i < n) {a : Option Addr} {c k : Nat} (hD : (D i).1 = .slice a (N i).1 c) (hk : k < (N i).1) : ∃ g, a = some ⟨g, 0, none⟩ ∧ (∃ v, wr.cell? ⟨g, k, none⟩ = some v) ∧ wr.frozen? ⟨g, k, none⟩ = false := by
  obtain ⟨ys, k3⟩ := h.tx i (Nat.le_refl _) hi
  rw [hD] at k3
  obtain ⟨g, rfl⟩ := own_some k3 (by omega)
  exact ⟨g, rfl, own_cell k3 _ (by omega)⟩
theorem Dg.wipeE (h : Dg w0 wr X l (.slice gf n cf) n D N i) (hi : i < n) {g m c : Nat} (hD : (D i).2 = .slice (some ⟨g, 0, none⟩) m c) (p : Nat) (u : Value) : Dg w0 (wr.setCell ⟨g, p, none⟩ u) X l (.slice gf n cf) n D N i := by
  obtain ⟨ys, k3⟩ := h.en i (Nat.le_refl _) hi
  exact h.setL k3 (by rw [hD]; rfl) (by decide) (by decide) p u
theorem Dg.wipeT (h : Dg w0 wr X l (.slice gf n cf) n D N i) (hi : i < n) {g m c : Nat} (hD : (D i).1 = .slice (some ⟨g, 0, none⟩) m c) (p : Nat) (u : Value) : Dg w0 (wr.setCell ⟨g, p, none⟩ u) X l (.slice gf n cf) n D N i := by
  obtain ⟨ys, k3⟩ := h.tx i (Nat.le_refl _) hi
  exact h.setL k3 (by rw [hD]; rfl) (by decide) (by decide) p u
end
theorem Oc.dg {w0 wr : World} {l : List Value} {vf : Value} {L : FL} (h : Oc w0 wr vf L) {Y : Nat} (hY : wr.heap[Y]? = some (bx 29 l)) (hYl : w0.heap.size ≤ Y) (hb : Below w0.heap.size w0 wr) : ∃ D N, Dg w0 wr Y l vf L.length D N 0 := by
  refine ⟨fun j => (L.getD j (⟨0, 0, 0, 0, [], []⟩, .bool false, .bool false)).2, fun j => ((L.getD j (⟨0, 0, 0, 0, [], []⟩, .bool false, .bool false)).1.ex.length, (L.getD j (⟨0, 0, 0, 0, [], []⟩, .bool false, .bool false)).1.en.length), hY, hYl, ⟨fcells L, h.row, fun j _ hn => ?_⟩, fun j _ hn => ?_, fun j _ hn => ?_, hb⟩
  · have e : L[j]? = some (L.getD j (⟨0, 0, 0, 0, [], []⟩, .bool false, .bool false)) := by simp [List.getD, List.getElem?_eq_getElem hn]
    exact ⟨fcells_at L j _ e 4 _ rfl, fcells_at L j _ e 5 _ rfl⟩
  · have e : L.getD j (⟨0, 0, 0, 0, [], []⟩, .bool false, .bool false) ∈ L := by rw [List.getD, List.getElem?_eq_getElem hn]; exact List.getElem_mem hn
    exact ⟨_, h.tx _ e⟩
  · have e : L.getD j (⟨0, 0, 0, 0, [], []⟩, .bool false, .bool false) ∈ L := by rw [List.getD, List.getElem?_eq_getElem hn]; exact List.getElem_mem hn
    exact ⟨_, h.en _ e⟩
end Go.Proofs.Ytonheibhbilhhab.greet
