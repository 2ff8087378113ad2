/- budget: the plain mathematics of a stable sort in place: insertion, rotation, merging by rotations; rows of numbers. No program is named here. -/
import Derived.WalkKit
namespace Go.Proofs.Ytcenaleladjakab.budget
set_option linter.unusedVariables false
set_option linter.unusedSimpArgs false

/-- which of two tasks comes first: by its key, then by its number -/
def lt (K : Int → Int) (x y : Int) : Prop := K x < K y ∨ (K x = K y ∧ x < y)
def Srt (K : Int → Int) (l : List Int) : Prop := l.Pairwise (lt K)
def Low (L R : List Int) : Prop := ∀ x ∈ L, ∀ y ∈ R, x < y
section
variable {K : Int → Int}
theorem lt_trans {x y z : Int} (h : lt K x y) (g : lt K y z) : lt K x z := by unfold lt at *; omega
theorem lt_irrefl (x : Int) : ¬ lt K x x := by unfold lt; omega
theorem lt_of {x y : Int} (h : x < y) (g : K y < K x) : lt K y x := .inl g
theorem lt_not {x y : Int} (h : x < y) (g : ¬ K y < K x) : lt K x y := by unfold lt; omega
theorem le_lt_le {x a b y : Int} (h : x = a ∨ lt K x a) (g : lt K a b) (k : y = b ∨ lt K b y) : lt K x y := by
  rcases h with rfl | h <;> rcases k with rfl | k
  · exact g
  · exact lt_trans g k
  · exact lt_trans h g
  · exact lt_trans h (lt_trans g k)
theorem getD_at {l : List Int} {i : Nat} (h : i < l.length) : l.getD i 0 = l[i] := by rw [List.getD_eq_getElem?_getD, List.getElem?_eq_getElem h]; rfl
theorem take_lt {L : List Int} (h : Srt K L) {i : Nat} (hi : 0 < i) (hl : i ≤ L.length) {x : Int} (hx : x ∈ L.take i) : x = L.getD (i - 1) 0 ∨ lt K x (L.getD (i - 1) 0) := by
  obtain ⟨t, ht, rfl⟩ := List.mem_iff_getElem.1 hx
  rw [List.getElem_take, getD_at (by omega)]
  have ht' : t < i := by simp at ht; omega
  by_cases e : t = i - 1
  · subst e; exact .inl rfl
  · exact .inr (List.pairwise_iff_getElem.1 h t (i - 1) (by omega) (by omega) (by omega))
theorem drop_lt {R : List Int} (h : Srt K R) {j : Nat} (hj : j < R.length) {y : Int} (hy : y ∈ R.drop j) : y = R.getD j 0 ∨ lt K (R.getD j 0) y := by
  obtain ⟨t, ht, rfl⟩ := List.mem_iff_getElem.1 hy
  rw [List.getElem_drop, getD_at hj]
  have ht' : t < R.length - j := by simpa using ht
  cases t with
  | zero => exact .inl rfl
  | succ t => exact .inr (List.pairwise_iff_getElem.1 h j (j + (t + 1)) (by omega) (by omega) (by omega))
theorem cut_a {L R : List Int} (hL : Srt K L) (hR : Srt K R) {i j : Nat} (hi : i ≤ L.length) (hj : j ≤ R.length) (h : i = 0 ∨ j = R.length ∨ lt K (L.getD (i - 1) 0) (R.getD j 0)) : ∀ x ∈ L.take i, ∀ y ∈ R.drop j, lt K x y := by
  intro x hx y hy
  by_cases h1 : i = 0
  · subst h1; simp at hx
  by_cases h2 : j = R.length
  · subst h2; simp at hy
  exact le_lt_le (take_lt hL (by omega) hi hx) (by rcases h with h | h | h <;> first | contradiction | exact h) (drop_lt hR (by omega) hy)
theorem cut_srt {L1 L2 R1 R2 M N : List Int} (h1 : Srt K (L1 ++ L2)) (h2 : Srt K (R1 ++ R2)) (ha : ∀ x ∈ L1, ∀ y ∈ R2, lt K x y) (hb : ∀ y ∈ R1, ∀ x ∈ L2, lt K y x)
    (hM : M.Perm (L1 ++ R1)) (hN : N.Perm (L2 ++ R2)) (sM : Srt K M) (sN : Srt K N) : Srt K (M ++ N) ∧ (M ++ N).Perm (L1 ++ L2 ++ (R1 ++ R2)) := by
  constructor
  · refine List.pairwise_append.2 ⟨sM, sN, fun x hx y hy => ?_⟩
    have hx' := hM.mem_iff.1 hx
    have hy' := hN.mem_iff.1 hy
    rcases List.mem_append.1 hx' with q | q <;> rcases List.mem_append.1 hy' with r | r
    · exact (List.pairwise_append.1 h1).2.2 x q y r
    · exact ha x q y r
    · exact hb x q y r
    · exact (List.pairwise_append.1 h2).2.2 x q y r
  · refine (hM.append hN).trans ?_
    rw [List.append_assoc, List.append_assoc]
    refine List.Perm.append_left L1 ?_
    rw [← List.append_assoc, ← List.append_assoc]
    exact List.Perm.append_right R2 List.perm_append_comm
/-- two places change their values -/
def sw (l : List Int) (i j : Nat) : List Int := (l.set i (l.getD j 0)).set j (l.getD i 0)
theorem sw_len (l : List Int) (i j : Nat) : (sw l i j).length = l.length := by simp [sw]
theorem sw_comm {l : List Int} {i j : Nat} (h : i ≠ j) : (l.set j (l.getD i 0)).set i (l.getD j 0) = sw l i j := by
  unfold sw
  exact List.set_comm _ _ (by omega)
theorem at_app (U V : List Int) (k : Nat) : (U ++ V).getD (U.length + k) 0 = V.getD k 0 := by
  rw [List.getD_eq_getElem?_getD, List.getElem?_append_right (by omega), List.getD_eq_getElem?_getD]
  congr 2
  omega
theorem at_fst {U : List Int} (V : List Int) {k : Nat} (h : k < U.length) : (U ++ V).getD k 0 = U.getD k 0 := by
  rw [List.getD_eq_getElem?_getD, List.getElem?_append_left h, List.getD_eq_getElem?_getD]
theorem set_app (U V : List Int) (k : Nat) (x : Int) : (U ++ V).set (U.length + k) x = U ++ V.set k x := by
  rw [List.set_append_right _ _ (by omega)]
  congr 2
  omega
theorem sw_gen (U V W : List Int) (x z : Int) {i j : Nat} (hi : i = U.length) (hj : j = U.length + (V.length + 1)) : sw (U ++ x :: (V ++ z :: W)) i j = U ++ z :: (V ++ x :: W) := by
  subst hi hj
  have h1 : (U ++ x :: (V ++ z :: W)).getD U.length 0 = x := by simp
  have h2 : (U ++ x :: (V ++ z :: W)).getD (U.length + (V.length + 1)) 0 = z := by
    rw [at_app, List.getD_cons_succ]
    simp
  unfold sw
  rw [h1, h2]
  have e : (U ++ x :: (V ++ z :: W)).set U.length z = U ++ z :: (V ++ z :: W) := by simp
  rw [e, set_app, List.set_cons_succ]
  simp
theorem sw_adj (U W : List Int) (x z : Int) {i : Nat} (hi : i = U.length) : sw (U ++ x :: z :: W) i (i + 1) = U ++ z :: x :: W := sw_gen U [] W x z hi (by simp [hi])
/-- rows of blocks: each of k, the last one of at most k; each is sorted, and its numbers are less than those behind it -/
def ChF (K : Int → Int) (k : Nat) : Nat → List Int → Prop
  | 0, l => l.length ≤ k ∧ Srt K l
  | n + 1, l => (l.length ≤ k ∧ Srt K l) ∨ ∃ L r, l = L ++ r ∧ L.length = k ∧ Srt K L ∧ Low L r ∧ ChF K k n r
def Ch (K : Int → Int) (k : Nat) (l : List Int) : Prop := ∃ n, ChF K k n l
theorem Ch.last {k : Nat} (L : List Int) (h1 : L.length ≤ k) (h2 : Srt K L) : Ch K k L := ⟨0, h1, h2⟩
theorem Ch.more {k : Nat} (L r : List Int) (h1 : L.length = k) (h2 : Srt K L) (h3 : Low L r) (h4 : Ch K k r) : Ch K k (L ++ r) := by
  obtain ⟨n, hn⟩ := h4
  exact ⟨n + 1, .inr ⟨L, r, rfl, h1, h2, h3, hn⟩⟩
theorem Ch.open {k : Nat} {l : List Int} (h : Ch K k l) : (l.length ≤ k ∧ Srt K l) ∨ ∃ L r, l = L ++ r ∧ L.length = k ∧ Srt K L ∧ Low L r ∧ Ch K k r := by
  obtain ⟨n, hn⟩ := h
  cases n with
  | zero => exact .inl hn
  | succ n =>
    rcases hn with q | ⟨L, r, e, h1, h2, h3, h4⟩
    · exact .inl q
    · exact .inr ⟨L, r, e, h1, h2, h3, n, h4⟩
theorem Ch.cut {k : Nat} {r : List Int} (h : Ch K k r) (hk : k ≤ r.length) : ∃ L q, r = L ++ q ∧ L.length = k ∧ Srt K L ∧ Low L q ∧ Ch K k q := by
  rcases h.open with ⟨h1, h2⟩ | q
  · exact ⟨r, [], by simp, by omega, h2, fun x _ y hy => by simp at hy, .last [] (by simp) List.Pairwise.nil⟩
  · exact q
theorem Ch.srt {k : Nat} {r : List Int} (h : Ch K k r) (hk : r.length ≤ k) : Srt K r := by
  rcases h.open with ⟨_, h2⟩ | ⟨L, q, rfl, h1, h2, h3, h4⟩
  · exact h2
  · have : q = [] := by rw [List.length_append] at hk; exact List.eq_nil_of_length_eq_zero (by omega)
    subst this
    simpa using h2
theorem Low.perm {L R M N : List Int} (h : Low L R) (p : M.Perm L) (q : N.Perm R) : Low M N := fun x hx y hy => h x (p.mem_iff.1 hx) y (q.mem_iff.1 hy)
theorem Low.left {L R S : List Int} (h : Low (L ++ R) S) : Low L S := fun x hx y hy => h x (List.mem_append_left _ hx) y hy
theorem Low.app {L R S : List Int} (h : Low L S) (g : Low R S) : Low (L ++ R) S := fun x hx y hy => by
  rcases List.mem_append.1 hx with q | q
  · exact h x q y hy
  · exact g x q y hy
theorem Low.of_app {L R S : List Int} (h : Low L (R ++ S)) : Low L R ∧ Low L S := ⟨fun x hx y hy => h x hx y (List.mem_append_left _ hy), fun x hx y hy => h x hx y (List.mem_append_right _ hy)⟩
/-- a row of which the front is done -/
structure Dn (K : Int → Int) (k : Nat) (l X r : List Int) : Prop where
  on : ∀ r', r'.Perm r → Ch K k r' → Ch K k (X ++ r')
  perm : (X ++ r).Perm l
theorem Dn.start (k : Nat) (l : List Int) : Dn K k l [] l := ⟨fun r' _ h => by simpa using h, by simp⟩
theorem Dn.next {k : Nat} {l X L M q : List Int} (h : Dn K k l X (L ++ q)) (hM : M.Perm L) (sM : Srt K M) (hk : L.length = k) (hl : Low L q) : Dn K k l (X ++ M) q where
  on := fun r' hr' hc => by
    rw [List.append_assoc]
    refine h.on _ (hM.append hr') (.more M r' (by rw [hM.length_eq, hk]) sM (hl.perm hM hr') hc)
  perm := by
    rw [List.append_assoc]
    exact (List.Perm.append_left X (hM.append_right q)).trans h.perm
theorem Dn.done {k : Nat} {l X L M : List Int} (h : Dn K k l X L) (hM : M.Perm L) (sM : Srt K M) (hk : L.length ≤ k) : Ch K k (X ++ M) ∧ (X ++ M).Perm l :=
  ⟨h.on M hM (.last M (by rw [hM.length_eq]; exact hk) sM), (List.Perm.append_left X hM).trans h.perm⟩
theorem Srt.ins {M1 M2 : List Int} {x : Int} (h : Srt K (M1 ++ M2)) (h1 : ∀ y ∈ M1, lt K y x) (h2 : ∀ y ∈ M2, lt K x y) : Srt K (M1 ++ x :: M2) := by
  obtain ⟨g1, g2, g3⟩ := List.pairwise_append.1 h
  refine List.pairwise_append.2 ⟨g1, List.pairwise_cons.2 ⟨h2, g2⟩, fun y hy z hz => ?_⟩
  rcases List.mem_cons.1 hz with rfl | q
  · exact h1 y hy
  · exact g3 y hy z q
theorem asc_srt_low {L R : List Int} (h : (L ++ R).Pairwise (· < ·)) : Low L R := fun x hx y hy => (List.pairwise_append.1 h).2.2 x hx y hy
theorem sorted_eq {M T : List Int} (h : M.Perm T) (hM : Srt K M) (hT : Srt K T) : M = T :=
  h.eq_of_pairwise (le := lt K) (fun a b _ _ h1 h2 => absurd (lt_trans h1 h2) (lt_irrefl a)) hM hT
end
end Go.Proofs.Ytcenaleladjakab.budget
