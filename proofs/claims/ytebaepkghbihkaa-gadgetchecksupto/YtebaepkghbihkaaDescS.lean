/- plugkeep: what descLives answers. -/
import Derived.Test.YtebaepkghbihkaaDescQ
namespace Go.Proofs.Ytebaepkghbihkaa.desc
open Go.RowKit Go.PlainAid Go.Proofs.Ytebaepkghbihkaa.lane
set_option linter.unusedVariables false

theorem Rc.empty (w : World) (va na atr po : Int) : Rc w (.slice none 0 0) ⟨va, na, atr, po, []⟩ [] :=
  ⟨⟨⟨none, 0, rfl, Nat.le_refl _, Nat.zero_le _, rfl, fun h => absurd h (by decide)⟩, fun q hq => by simp at hq⟩, rfl⟩
theorem lives_c : chkC ⟨1, 0, 0, 50, []⟩ = 0 := by decide +kernel
theorem lives_t : wcT ⟨1, 0, 0, 50, []⟩ = ⟨#[9, 2, 9, 0, 0, 1, 0, 0, 50]⟩ := by decide +kernel
theorem confH_len (n k : Int) (c : Cf) : (confH n k c).length = 9 := rfl
theorem facesP_cons (i : Int) (f : Fc) (r : List Fc) : (facesP i (f :: r)).length = 1 + f.ex.length + f.en.length + (facesP (i + 1) r).length := by
  rw [facesP, List.length_append, faceP, List.length_cons, List.length_append, List.length_map]; omega
theorem facesL_cons (i : Int) (f : Fc) (r : List Fc) : (facesL i (f :: r)).length = 9 + 7 * f.en.length + f.ex.flatten.length + (facesL (i + 1) r).length := by
  rw [facesL, List.length_append, faceL_length]
theorem facesP_any : ∀ (l : List Fc) (i j : Int), (facesP i l).length = (facesP j l).length := by
  intro l
  induction l with
  | nil => intro i j; rfl
  | cons f r ih => intro i j; rw [facesP_cons, facesP_cons, ih (i + 1) (j + 1)]
theorem facesL_any : ∀ (l : List Fc) (i j : Int), (facesL i l).length = (facesL j l).length := by
  intro l
  induction l with
  | nil => intro i j; rfl
  | cons f r ih => intro i j; rw [facesL_cons, facesL_cons, ih (i + 1) (j + 1)]
theorem wrap_small (x : Int) (h0 : 0 ≤ x) (h1 : x ≤ 1000000000) : IntKind.i64.wrap x = x := by rw [IntKind.wrap_i64]; omega
theorem byt_endL {e : En} (h : endOk e = true) : Byt (endL e) := by
  obtain ⟨⟨a1, a2⟩, ⟨k1, k2⟩, ⟨m1, m2⟩, i1, i2⟩ := (endOk_iff e).1 h
  obtain ⟨ad, inw, kd, mx, iv⟩ := e
  simp only at *
  intro x hx
  simp only [endL, wrd, List.cons_append, List.nil_append, List.mem_cons, List.not_mem_nil, or_false] at hx
  cases inw <;> simp at hx <;> omega
theorem byt_append {a b : List Int} (ha : Byt a) (hb : Byt b) : Byt (a ++ b) := fun x hx => by
  rcases List.mem_append.1 hx with h | h
  · exact ha x h
  · exact hb x h
theorem byt_flatten {l : List (List Int)} (h : BB l) : Byt l.flatten := fun x hx => by
  obtain ⟨p, hp, hx⟩ := List.mem_flatten.1 hx
  exact h p hp x hx
theorem byt_faceL {i : Int} {f : Fc} (h0 : 0 ≤ i) (h1 : i ≤ 255) (h : FOk f) (hb : BB f.ex) : Byt (faceL i f) := by
  refine byt_append ?_ (byt_append (byt_flatten hb) ?_)
  · have h2 := h.head
    have h3 := h.enl
    intro x hx
    simp only [faceH, List.mem_cons, List.not_mem_nil, or_false] at hx
    omega
  · intro x hx
    obtain ⟨e, he, hx⟩ := List.mem_flatMap.1 hx
    exact byt_endL (h.en e he) x hx
theorem byt_facesL : ∀ (l : List Fc) (i : Int), 0 ≤ i → i + l.length ≤ 255 → (∀ f ∈ l, FOk f) → (∀ f ∈ l, BB f.ex) → Byt (facesL i l) := by
  intro l
  induction l with
  | nil => intro i _ _ _ _ x hx; simp [facesL] at hx
  | cons f r ih =>
    intro i h0 h1 h hb
    rw [List.length_cons] at h1
    exact byt_append (byt_faceL h0 (by omega) (h f (by simp)) (hb f (by simp))) (ih (i + 1) (by omega) (by omega) (fun g hg => h g (by simp [hg])) (fun g hg => hb g (by simp [hg])))
theorem byt_confL {c : Cf} (h : COk c) (hb : ∀ f ∈ c.fs, BB f.ex) : Byt (confL c) := by
  have hl := confL_le h
  rw [confL_length] at hl
  have h2 := h.head
  have h3 := h.len
  refine byt_append ?_ (byt_facesL _ 0 (by omega) (by omega) h.fs hb)
  intro x hx
  simp only [confH, wrd, List.cons_append, List.nil_append, List.mem_cons, List.not_mem_nil, or_false] at hx
  omega
end Go.Proofs.Ytebaepkghbihkaa.desc
