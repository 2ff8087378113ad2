/- arena: the plain mathematics: spans in a row, the least place, what is taken and given. No program is named here. -/
import Derived.WalkKit
namespace Go.Proofs.Ytifebinpjpalhaa.arena
set_option linter.unusedVariables false

/-- a span: where, how many; an arena: its units, its spans -/
abbrev Sp := Int × Int
structure Ar where
  z : Int
  L : List Sp
def zA : Ar := ⟨0, []⟩
def rowB (z f : Int) : List Sp → Bool
  | [] => true
  | s :: r => (decide (f ≤ s.1) && (decide (1 ≤ s.2) && decide (s.2 ≤ z - s.1))) && rowB z (s.1 + s.2) r
theorem row_cons {z f : Int} {s : Sp} {r : List Sp} : rowB z f (s :: r) = true ↔ (f ≤ s.1 ∧ 1 ≤ s.2 ∧ s.1 + s.2 ≤ z) ∧ rowB z (s.1 + s.2) r = true := by
  simp only [rowB, Bool.and_eq_true, decide_eq_true_eq]
  constructor
  · rintro ⟨⟨a, b, c⟩, d⟩; exact ⟨⟨a, b, by omega⟩, d⟩
  · rintro ⟨⟨a, b, c⟩, d⟩; exact ⟨⟨a, b, by omega⟩, d⟩
theorem row_mono {z f f' : Int} (hf : f' ≤ f) : ∀ {L : List Sp}, rowB z f L = true → rowB z f' L = true
  | [], _ => rfl
  | s :: r, h => by rw [row_cons] at *; exact ⟨⟨by omega, h.1.2⟩, h.2⟩
theorem row_mem {z : Int} {x : Sp} : ∀ {L : List Sp} {f : Int}, rowB z f L = true → x ∈ L → f ≤ x.1 ∧ 1 ≤ x.2 ∧ x.1 + x.2 ≤ z
  | [], f, _, hx => by simp at hx
  | s :: r, f, h, hx => by
    rw [row_cons] at h
    rcases List.mem_cons.1 hx with rfl | hx
    · exact h.1
    · have := row_mem h.2 hx
      omega
/-- where the last of them ends -/
def endS (f : Int) : List Sp → Int
  | [] => f
  | s :: r => endS (s.1 + s.2) r
theorem row_append {z : Int} {B : List Sp} : ∀ {A : List Sp} {f : Int}, rowB z f (A ++ B) = true ↔ rowB z f A = true ∧ rowB z (endS f A) B = true
  | [], f => by simp [rowB, endS]
  | s :: r, f => by
    rw [List.cons_append, row_cons, row_cons, row_append (A := r)]
    exact ⟨fun h => ⟨⟨h.1, h.2.1⟩, h.2.2⟩, fun h => ⟨h.1.1, h.1.2, h.2⟩⟩
theorem row_del {z f : Int} {A B : List Sp} {x : Sp} (h : rowB z f (A ++ x :: B) = true) : rowB z f (A ++ B) = true := by
  rw [row_append, row_cons] at h
  rw [row_append]
  exact ⟨h.1, row_mono (by omega) h.2.2⟩
/-- what comes behind begins further on, what comes ahead not -/
theorem row_split {z f : Int} {A B : List Sp} {x : Sp} (h : rowB z f (A ++ x :: B) = true) : (∀ y ∈ A, y.1 + y.2 ≤ x.1) ∧ (∀ y ∈ B, x.1 + x.2 ≤ y.1) ∧ (∀ y ∈ A ++ B, y.1 ≠ x.1) := by
  have hx := row_mem h (x := x) (by simp)
  have hA : ∀ (A : List Sp) (f : Int), rowB z f (A ++ x :: B) = true → ∀ y ∈ A, y.1 + y.2 ≤ x.1 := by
    intro A
    induction A with
    | nil => intro f _ y hy; simp at hy
    | cons s r ih =>
      intro f h y hy
      rw [List.cons_append, row_cons] at h
      rcases List.mem_cons.1 hy with rfl | hy
      · exact (row_mem h.2 (x := x) (by simp)).1
      · exact ih _ h.2 y hy
  have hA := hA A f h
  have h2 := (row_append.1 h).2
  rw [row_cons] at h2
  have hB : ∀ y ∈ B, x.1 + x.2 ≤ y.1 := fun y hy => (row_mem h2.2 hy).1
  refine ⟨hA, hB, fun y hy => ?_⟩
  rcases List.mem_append.1 hy with hy | hy
  · have := hA y hy
    have := row_mem h (x := y) (by simp [hy])
    omega
  · have := hB y hy
    omega
def szB (z : Int) : Bool := decide (1 ≤ z) && decide (z ≤ 65536)
/-- what Check answers -/
def chk (a : Ar) : Int := if szB a.z = false then 1 else if 64 < a.L.length then 2 else if rowB a.z 0 a.L = false then 4 else 0
theorem chk_ok {a : Ar} (h : chk a = 0) : 1 ≤ a.z ∧ a.z ≤ 65536 ∧ a.L.length ≤ 64 ∧ rowB a.z 0 a.L = true := by
  unfold chk at h
  split at h
  · simp at h
  · split at h
    · simp at h
    · split at h
      · simp at h
      · rename_i h1 h2 h3
        simp only [szB, Bool.not_eq_false, Bool.and_eq_true, decide_eq_true_eq] at h1 h3
        exact ⟨h1.1, h1.2, by omega, h3⟩
theorem chk_of {a : Ar} (h1 : 1 ≤ a.z) (h2 : a.z ≤ 65536) (h3 : a.L.length ≤ 64) (h4 : rowB a.z 0 a.L = true) : chk a = 0 := by
  unfold chk
  rw [if_neg (by simp [szB, h1, h2]), if_neg (by omega), if_neg (by simp [h4])]

/-- the least multiple of k from n on -/
def up (n k : Int) : Int := (n + k - 1) / k * k
theorem up_spec {n k : Int} (hk : 0 < k) : n ≤ up n k ∧ up n k % k = 0 ∧ up n k < n + k ∧ ∀ p, n ≤ p → p % k = 0 → up n k ≤ p := by
  have h1 : (n + k - 1) / k * k ≤ n + k - 1 := Int.ediv_mul_le _ (by omega)
  have h2 : n + k - 1 < ((n + k - 1) / k + 1) * k := Int.lt_ediv_add_one_mul_self _ hk
  have h3 : ((n + k - 1) / k + 1) * k = (n + k - 1) / k * k + k := by rw [Int.add_mul, Int.one_mul]
  refine ⟨by unfold up; omega, by unfold up; exact Int.mul_emod_left _ _, by unfold up; omega, fun p hp hm => ?_⟩
  have h4 : p / k * k = p := by have := Int.ediv_mul_add_emod p k; omega
  unfold up
  rcases Int.lt_or_le (p / k) ((n + k - 1) / k) with q | q
  · have h5 : (p / k + 1) * k ≤ (n + k - 1) / k * k := Int.mul_le_mul_of_nonneg_right (by omega) (by omega)
    rw [Int.add_mul, Int.one_mul] at h5
    omega
  · have h5 : (n + k - 1) / k * k ≤ p / k * k := Int.mul_le_mul_of_nonneg_right q (by omega)
    omega
/-- the place from f on -/
def plc (s g f : Int) : Int := if 4096 < up f g % 4096 + s then up (up f g) 4096 else up f g
theorem plc_spec {s g f : Int} (hg : 0 < g) (hd : g ∣ 4096) (hg2 : g ≤ 4096) (hs : 1 ≤ s) (hs2 : s ≤ 4096) (hf : 0 ≤ f) :
    f ≤ plc s g f ∧ plc s g f % g = 0 ∧ plc s g f % 4096 + s ≤ 4096 ∧ plc s g f < f + 8192 ∧ ∀ p, f ≤ p → p % g = 0 → p % 4096 + s ≤ 4096 → plc s g f ≤ p := by
  obtain ⟨a1, a2, a3, a4⟩ := up_spec (n := f) hg
  obtain ⟨b1, b2, b3, b4⟩ := up_spec (n := up f g) (k := 4096) (by omega)
  unfold plc
  split
  · rename_i h
    refine ⟨by omega, ?_, by omega, by omega, fun p h1 h2 h3 => ?_⟩
    · exact Int.emod_eq_zero_of_dvd (Int.dvd_trans hd (Int.dvd_of_emod_eq_zero b2))
    · have h4 := a4 p h1 h2
      omega
  · exact ⟨a1, a2, by omega, by omega, fun p h1 h2 _ => a4 p h1 h2⟩
/-- p is a place for s units -/
def Fit (z s g : Int) (L : List Sp) (p : Int) : Prop := p % g = 0 ∧ p + s ≤ z ∧ p % 4096 + s ≤ 4096 ∧ ∀ x ∈ L, p + s ≤ x.1 ∨ x.1 + x.2 ≤ p
/-- what find answers -/
structure Fd where
  i : Nat
  p : Int
  ok : Bool
def fnd (z s g : Int) : Int → List Sp → Nat → Fd
  | f, [], i => ⟨i, plc s g f, decide (plc s g f + s ≤ z)⟩
  | f, x :: r, i => if plc s g f + s ≤ x.1 then ⟨i, plc s g f, true⟩ else fnd z s g (x.1 + x.2) r (i + 1)
theorem fnd_spec {z s g : Int} (hg : 0 < g) (hd : g ∣ 4096) (hg2 : g ≤ 4096) (hs : 1 ≤ s) (hs2 : s ≤ 4096) : ∀ (L : List Sp) (f : Int) (i : Nat), 0 ≤ f → rowB z f L = true →
    ∃ A B, L = A ++ B ∧ (fnd z s g f L i).i = i + A.length ∧ f ≤ (fnd z s g f L i).p ∧
      ((fnd z s g f L i).ok = true → rowB z f (A ++ ((fnd z s g f L i).p, s) :: B) = true ∧ Fit z s g L (fnd z s g f L i).p ∧ ∀ p, f ≤ p → Fit z s g L p → (fnd z s g f L i).p ≤ p) ∧
      ((fnd z s g f L i).ok = false → ∀ p, f ≤ p → ¬ Fit z s g L p)
  | [], f, i, hf, h => by
    obtain ⟨a1, a2, a3, a4, a5⟩ := plc_spec (s := s) hg hd hg2 hs hs2 hf
    refine ⟨[], [], rfl, rfl, a1, ?_, ?_⟩
    · intro ho
      simp only [fnd, decide_eq_true_eq] at ho ⊢
      exact ⟨row_cons.2 ⟨⟨a1, hs, ho⟩, rfl⟩, ⟨a2, ho, a3, by simp⟩, fun p hp hF => a5 p hp hF.1 hF.2.2.1⟩
    · intro ho p hp hF
      simp only [fnd, decide_eq_false_iff_not] at ho
      have := a5 p hp hF.1 hF.2.2.1
      have := hF.2.1
      omega
  | x :: r, f, i, hf, h => by
    obtain ⟨a1, a2, a3, a4, a5⟩ := plc_spec (s := s) hg hd hg2 hs hs2 hf
    have hr := row_cons.1 h
    by_cases hp : plc s g f + s ≤ x.1
    · have he : fnd z s g f (x :: r) i = ⟨i, plc s g f, true⟩ := by simp [fnd, hp]
      rw [he]
      refine ⟨[], x :: r, rfl, rfl, a1, fun _ => ⟨row_cons.2 ⟨⟨a1, hs, ?_⟩, row_mono hp (row_cons.2 ⟨⟨Int.le_refl _, hr.1.2⟩, hr.2⟩)⟩, ⟨a2, ?_, a3, fun y hy => ?_⟩, fun p hp hF => a5 p hp hF.1 hF.2.2.1⟩, fun q => by simp at q⟩
      · show plc s g f + s ≤ z
        omega
      · show plc s g f + s ≤ z
        omega
      · show plc s g f + s ≤ y.1 ∨ y.1 + y.2 ≤ plc s g f
        rcases List.mem_cons.1 hy with rfl | hy
        · exact .inl hp
        · have := row_mem hr.2 hy
          exact .inl (by omega)
    · have he : fnd z s g f (x :: r) i = fnd z s g (x.1 + x.2) r (i + 1) := by simp [fnd, hp]
      rw [he]
      obtain ⟨A, B, h1, h2, h3, h4, h5⟩ := fnd_spec hg hd hg2 hs hs2 r (x.1 + x.2) (i + 1) (by omega) hr.2
      have key : ∀ p, f ≤ p → Fit z s g (x :: r) p → x.1 + x.2 ≤ p ∧ Fit z s g r p := by
        intro p hp' hF
        have := a5 p hp' hF.1 hF.2.2.1
        rcases hF.2.2.2 x (by simp) with q | q
        · omega
        · exact ⟨q, hF.1, hF.2.1, hF.2.2.1, fun y hy => hF.2.2.2 y (by simp [hy])⟩
      refine ⟨x :: A, B, by rw [h1]; rfl, by rw [h2, List.length_cons]; omega, by omega, fun ho => ?_, fun ho p hp' hF => h5 ho p (key p hp' hF).1 (key p hp' hF).2⟩
      obtain ⟨k1, k2, k3⟩ := h4 ho
      refine ⟨?_, ⟨k2.1, k2.2.1, k2.2.2.1, fun y hy => ?_⟩, fun p hp' hF => k3 p (key p hp' hF).1 (key p hp' hF).2⟩
      · rw [List.cons_append]; exact row_cons.2 ⟨hr.1, k1⟩
      · rcases List.mem_cons.1 hy with rfl | hy
        · exact .inr h3
        · exact k2.2.2.2 y hy
def als : List Int := [1, 2, 4, 8, 16, 32, 64, 128, 256, 512, 1024, 2048, 4096]
def alB (g : Int) : Bool := als.contains g
theorem al_dvd {g : Int} (h : alB g = true) : 0 < g ∧ g ≤ 4096 ∧ g ∣ 4096 := by
  have h : g ∈ als := by simpa [alB] using h
  simp only [als, List.mem_cons, List.not_mem_nil, or_false] at h
  rcases h with rfl | rfl | rfl | rfl | rfl | rfl | rfl | rfl | rfl | rfl | rfl | rfl | rfl <;> decide
def argB (s g : Int) : Bool := (decide (1 ≤ s) && decide (s ≤ 4096)) && alB g
theorem arg_ok {s g : Int} (h : argB s g = true) : 1 ≤ s ∧ s ≤ 4096 ∧ 0 < g ∧ g ≤ 4096 ∧ g ∣ 4096 := by
  simp only [argB, Bool.and_eq_true, decide_eq_true_eq] at h
  exact ⟨h.1.1, h.1.2, al_dvd h.2⟩
/-- what Take answers -/
def tkF (a : Ar) (s g : Int) : Fd := fnd a.z s g 0 a.L 0
def tkC (a : Ar) (s g : Int) : Int := if ¬ chk a = 0 then chk a else if argB s g = false then 1 else if a.L.length = 64 then 11 else if (tkF a s g).ok = false then 11 else 0
def ins (L : List Sp) (i : Nat) (x : Sp) : List Sp := L.take i ++ x :: L.drop i
def tkV (a : Ar) (s g : Int) : Ar := if tkC a s g = 0 then ⟨a.z, ins a.L (tkF a s g).i ((tkF a s g).p, s)⟩ else zA
def tkP (a : Ar) (s g : Int) : Int := if tkC a s g = 0 then (tkF a s g).p else 0
/-- where a span begins there, and without it -/
def idx (L : List Sp) (p : Int) : Nat := L.findIdx fun x => x.1 == p
def gvC (a : Ar) (p : Int) : Int := if ¬ chk a = 0 then chk a else if a.L.length ≤ idx a.L p then 12 else 0
def gvV (a : Ar) (p : Int) : Ar := if gvC a p = 0 then ⟨a.z, a.L.take (idx a.L p) ++ a.L.drop (idx a.L p + 1)⟩ else zA
/-- how many are taken, how many are free -/
def sumS (L : List Sp) : Int := (L.map fun x => x.2).sum
def frV (a : Ar) : Int := if chk a = 0 then a.z - sumS a.L else 0
theorem sum_nil : sumS [] = 0 := rfl
theorem sum_cons (x : Sp) (r : List Sp) : sumS (x :: r) = x.2 + sumS r := by simp [sumS]
theorem sum_append (A B : List Sp) : sumS (A ++ B) = sumS A + sumS B := by simp [sumS]
theorem sum_row {z : Int} : ∀ {L : List Sp} {f : Int}, rowB z f L = true → 0 ≤ sumS L ∧ (f ≤ z → sumS L ≤ z - f)
  | [], f, _ => by rw [sum_nil]; omega
  | x :: r, f, h => by
    have hr := row_cons.1 h
    have := sum_row hr.2
    rw [sum_cons]
    omega
theorem tk_parts {a : Ar} {s g : Int} (h : tkC a s g = 0) : chk a = 0 ∧ argB s g = true ∧ a.L.length < 64 ∧ (tkF a s g).ok = true ∧ tkV a s g = ⟨a.z, ins a.L (tkF a s g).i ((tkF a s g).p, s)⟩ ∧ tkP a s g = (tkF a s g).p := by
  have h0 := h
  unfold tkC at h
  split at h
  · contradiction
  · split at h
    · simp at h
    · split at h
      · simp at h
      · split at h
        · simp at h
        · rename_i h1 h2 h3 h4
          have h1 : chk a = 0 := Classical.not_not.1 h1
          refine ⟨h1, by simpa using h2, ?_, by simpa using h4, by simp [tkV, h0], by simp [tkP, h0]⟩
          have := (chk_ok h1).2.2.1
          omega
theorem tk_err {a : Ar} {s g : Int} (h : ¬ tkC a s g = 0) : tkV a s g = zA ∧ tkP a s g = 0 := by simp [tkV, tkP, h]
theorem ins_parts {L A B : List Sp} {i : Nat} (h : L = A ++ B) (hi : i = A.length) (x : Sp) : ins L i x = A ++ x :: B := by
  subst h hi; simp [ins]
/-- a span that was taken: what the arena is then -/
theorem tk_facts {a : Ar} {s g : Int} (h : tkC a s g = 0) : ∃ A B, a.L = A ++ B ∧ (tkF a s g).i = A.length ∧ tkV a s g = ⟨a.z, A ++ (tkP a s g, s) :: B⟩ ∧ chk (tkV a s g) = 0 ∧ 0 ≤ tkP a s g ∧ Fit a.z s g a.L (tkP a s g) ∧ ∀ p, 0 ≤ p → Fit a.z s g a.L p → tkP a s g ≤ p := by
  obtain ⟨h1, h2, h3, h4, h5, h6⟩ := tk_parts h
  obtain ⟨c1, c2, c3, c4⟩ := chk_ok h1
  obtain ⟨s1, s2, g1, g2, g3⟩ := arg_ok h2
  obtain ⟨A, B, q1, q2, q3, q4, _⟩ := fnd_spec (z := a.z) g1 g3 g2 s1 s2 a.L 0 0 (Int.le_refl _) c4
  obtain ⟨r1, r2, r3⟩ := q4 h4
  rw [Nat.zero_add] at q2
  have hv : tkV a s g = ⟨a.z, A ++ (tkP a s g, s) :: B⟩ := by rw [h5, h6]; exact congrArg (Ar.mk a.z) (ins_parts q1 q2 _)
  refine ⟨A, B, q1, q2, hv, ?_, by rw [h6]; exact q3, by rw [h6]; exact r2, fun p hp hF => by rw [h6]; exact r3 p hp hF⟩
  rw [hv, h6]
  refine chk_of c1 c2 ?_ r1
  have := congrArg List.length q1
  simp only [List.length_append, List.length_cons] at this ⊢
  omega
/-- none fits -/
theorem tk_full {a : Ar} {s g : Int} (h1 : chk a = 0) (h2 : argB s g = true) (h3 : (tkF a s g).ok = false) : ∀ p, 0 ≤ p → ¬ Fit a.z s g a.L p := by
  obtain ⟨c1, c2, c3, c4⟩ := chk_ok h1
  obtain ⟨s1, s2, g1, g2, g3⟩ := arg_ok h2
  obtain ⟨A, B, q1, q2, q3, _, q5⟩ := fnd_spec (z := a.z) g1 g3 g2 s1 s2 a.L 0 0 (Int.le_refl _) c4
  exact q5 h3
theorem idx_parts {A B : List Sp} {x : Sp} (h : ∀ y ∈ A, y.1 ≠ x.1) : idx (A ++ x :: B) x.1 = A.length := by
  unfold idx
  rw [List.findIdx_append]
  have h1 : List.findIdx (fun y : Sp => y.1 == x.1) A = A.length := List.findIdx_eq_length.2 fun y hy => by simpa using h y hy
  rw [h1]
  simp [List.findIdx_cons]
theorem gv_parts {a : Ar} {p : Int} (h : gvC a p = 0) : chk a = 0 ∧ idx a.L p < a.L.length ∧ gvV a p = ⟨a.z, a.L.take (idx a.L p) ++ a.L.drop (idx a.L p + 1)⟩ := by
  have h0 := h
  unfold gvC at h
  split at h
  · contradiction
  · split at h
    · simp at h
    · rename_i h1 h2
      exact ⟨Classical.not_not.1 h1, by omega, by simp [gvV, h0]⟩
theorem gv_err {a : Ar} {p : Int} (h : ¬ gvC a p = 0) : gvV a p = zA := by simp [gvV, h]
theorem idx_at {L : List Sp} {p : Int} (h : idx L p < L.length) : (L[idx L p]).1 = p := by
  have := List.findIdx_getElem (w := h) (p := fun x : Sp => x.1 == p) (xs := L)
  exact eq_of_beq this
theorem split_at {L : List Sp} {i : Nat} (h : i < L.length) : L = L.take i ++ L[i] :: L.drop (i + 1) := by
  rw [← List.drop_eq_getElem_cons h, List.take_append_drop]
/-- a span that was given back -/
theorem gv_facts {a : Ar} {p : Int} (h : gvC a p = 0) : ∃ A x B, a.L = A ++ x :: B ∧ idx a.L p = A.length ∧ x.1 = p ∧ gvV a p = ⟨a.z, A ++ B⟩ ∧ chk (gvV a p) = 0 := by
  obtain ⟨h1, h2, h3⟩ := gv_parts h
  obtain ⟨c1, c2, c3, c4⟩ := chk_ok h1
  have hs := split_at h2
  refine ⟨_, _, _, hs, by rw [List.length_take]; omega, idx_at h2, h3, ?_⟩
  rw [h3]
  have hl := congrArg List.length hs
  simp only [List.length_append, List.length_cons] at hl
  refine chk_of c1 c2 ?_ (row_del (x := a.L[idx a.L p]) (by rw [← hs]; exact c4))
  simp only [List.length_append]
  omega
/-- what was taken is given back -/
theorem back {a : Ar} {s g : Int} (h : tkC a s g = 0) : gvC (tkV a s g) (tkP a s g) = 0 ∧ gvV (tkV a s g) (tkP a s g) = a := by
  obtain ⟨A, B, h1, h2, h3, h4, _⟩ := tk_facts h
  have hrow := (chk_ok h4).2.2.2
  rw [h3] at hrow
  have hne := (row_split hrow).2.2
  have hi : idx (tkV a s g).L (tkP a s g) = A.length := by
    rw [h3]; exact idx_parts (x := (tkP a s g, s)) fun y hy => hne y (by simp [hy])
  have hc : gvC (tkV a s g) (tkP a s g) = 0 := by
    unfold gvC
    rw [if_neg (fun q => q h4), if_neg ?_]
    rw [hi, h3]
    simp
  refine ⟨hc, ?_⟩
  rw [(gv_parts hc).2.2, hi, h3]
  obtain ⟨z, L⟩ := a
  simp at h1 ⊢
  rw [h1]
theorem count_take {a : Ar} {s g : Int} (h : tkC a s g = 0) : frV (tkV a s g) = frV a - s := by
  obtain ⟨A, B, h1, h2, h3, h4, _⟩ := tk_facts h
  unfold frV
  rw [if_pos h4, if_pos (tk_parts h).1, h3, h1, sum_append, sum_append, sum_cons]
  simp only
  omega
theorem count_give {a : Ar} {p : Int} (h : gvC a p = 0) : ∃ x, a.L[idx a.L p]? = some x ∧ frV (gvV a p) = frV a + x.2 := by
  obtain ⟨A, x, B, h1, h2, h3, h4, h5⟩ := gv_facts h
  refine ⟨x, by rw [h2, h1]; simp, ?_⟩
  unfold frV
  rw [if_pos h5, if_pos (gv_parts h).1, h4, h1, sum_append, sum_append, sum_cons]
  simp only
  omega
/-- the document's way: all others stay -/
theorem give_filter {a : Ar} {p : Int} (h : chk a = 0) : (gvC a p = 0 → (gvV a p).L = a.L.filter (fun x => x.1 != p) ∧ (a.L.filter (fun x => x.1 != p)).length + 1 = a.L.length) ∧ (¬ gvC a p = 0 → gvC a p = 12 ∧ a.L.filter (fun x => x.1 != p) = a.L) := by
  have hrow := (chk_ok h).2.2.2
  constructor
  · intro hg
    obtain ⟨A, x, B, h1, h2, h3, h4, h5⟩ := gv_facts hg
    rw [h1] at hrow
    have hne := (row_split hrow).2.2
    rw [h4, h1, List.filter_append, List.filter_cons_of_neg (by simp [h3])]
    have hA : A.filter (fun x => x.1 != p) = A := List.filter_eq_self.2 fun y hy => by
      have := hne y (by simp [hy]); rw [h3] at this; simpa using this
    have hB : B.filter (fun x => x.1 != p) = B := List.filter_eq_self.2 fun y hy => by
      have := hne y (by simp [hy]); rw [h3] at this; simpa using this
    rw [hA, hB]
    simp
    omega
  · intro hg
    have hlen : a.L.length ≤ idx a.L p := by
      unfold gvC at hg
      rw [if_neg (fun q => q h)] at hg
      split at hg
      · assumption
      · exact absurd rfl hg
    refine ⟨by unfold gvC; rw [if_neg (fun q => q h), if_pos hlen], List.filter_eq_self.2 fun y hy => ?_⟩
    have he : List.findIdx (fun x : Sp => x.1 == p) a.L = a.L.length := Nat.le_antisymm List.findIdx_le_length hlen
    have := List.findIdx_eq_length.1 he y hy
    simpa [bne] using this
end Go.Proofs.Ytifebinpjpalhaa.arena
