/- budget: the plain mathematics of berths: who clashes, the first berth that is free, plans; KRAFT: what rooms are asked for and had. No program is named here. -/
import Derived.Test.YtcenaleladjakabBudM
namespace Go.Proofs.Ytcenaleladjakab.budget
set_option linter.unusedVariables false
set_option linter.unusedSimpArgs false

def okp (p : Nat) : Bool := p == 1 || p == 2 || p == 4 || p == 8 || p == 16 || p == 32
theorem okp_iff {p : Nat} : okp p = true ↔ p = 1 ∨ p = 2 ∨ p = 4 ∨ p = 8 ∨ p = 16 ∨ p = 32 := by simp [okp, or_assoc]
/-- a task that has its berth: its period, lane and phase -/
abbrev En := Nat × Nat × Nat
def cl (x y : En) : Bool := x.2.1 == y.2.1 && x.2.2 % min x.1 y.1 == y.2.2 % min x.1 y.1
theorem cl_comm (x y : En) : cl x y = cl y x := by
  unfold cl
  rw [Nat.min_comm x.1 y.1, Bool.eq_iff_iff]
  simp
  constructor
  · rintro ⟨h1, h2⟩; exact ⟨h1.symm, h2.symm⟩
  · rintro ⟨h1, h2⟩; exact ⟨h1.symm, h2.symm⟩
/-- the rooms of a berth as bits -/
def mkF : Nat → Nat → Nat → Nat
  | 0, _, _ => 0
  | k + 1, p, f => if f < 32 then 2 ^ f ||| mkF k p (f + p) else 0
def mk (p f : Nat) : Nat := mkF 32 p f
theorem mkF_end {k p f : Nat} (h : 32 ≤ f) : mkF k p f = 0 := by cases k with | zero => rfl | succ k => simp [mkF]; omega
theorem mk_tbl : ([1, 2, 4, 8, 16, 32].all fun p => [1, 2, 4, 8, 16, 32].all fun q => (List.range p).all fun f => (List.range q).all fun g => ((mk p f &&& mk q g) == 0) == !(f % min p q == g % min p q)) = true := by decide +kernel
theorem mk_small_tbl : ([1, 2, 4, 8, 16, 32].all fun p => (List.range p).all fun f => decide (mk p f < 4294967296) && decide (mk p f ≠ 0)) = true := by decide +kernel
theorem mk_and {p q f g : Nat} (hp : okp p = true) (hq : okp q = true) (hf : f < p) (hg : g < q) : (mk p f &&& mk q g = 0) ↔ ¬ f % min p q = g % min p q := by
  have h := mk_tbl
  have hp' : p ∈ [1, 2, 4, 8, 16, 32] := by simpa using okp_iff.1 hp
  have hq' : q ∈ [1, 2, 4, 8, 16, 32] := by simpa using okp_iff.1 hq
  have h1 := List.all_eq_true.1 h p hp'
  have h2 := List.all_eq_true.1 h1 q hq'
  have h3 := List.all_eq_true.1 h2 f (List.mem_range.2 hf)
  have h4 := List.all_eq_true.1 h3 g (List.mem_range.2 hg)
  have h5 := beq_iff_eq.1 h4
  constructor
  · intro q1 q2
    rw [q1, q2] at h5
    simp at h5
  · intro q1
    rw [show (f % min p q == g % min p q) = false by simpa using q1] at h5
    simpa using h5
theorem mk_small {p f : Nat} (hp : okp p = true) (hf : f < p) : mk p f < 4294967296 := by
  have hp' : p ∈ [1, 2, 4, 8, 16, 32] := by simpa using okp_iff.1 hp
  have h3 := List.all_eq_true.1 (List.all_eq_true.1 mk_small_tbl p hp') f (List.mem_range.2 hf)
  simp at h3
  exact h3.1
theorem and_zero_or (a b c : Nat) : ((a ||| b) &&& c = 0) ↔ (a &&& c = 0 ∧ b &&& c = 0) := by
  rw [Nat.and_or_distrib_right]
  constructor
  · intro h
    constructor
    · apply Nat.eq_of_testBit_eq
      intro i
      have := congrArg (fun n => Nat.testBit n i) h
      simp only [Nat.testBit_or, Nat.zero_testBit, Bool.or_eq_false_iff] at this
      rw [this.1, Nat.zero_testBit]
    · apply Nat.eq_of_testBit_eq
      intro i
      have := congrArg (fun n => Nat.testBit n i) h
      simp only [Nat.testBit_or, Nat.zero_testBit, Bool.or_eq_false_iff] at this
      rw [this.2, Nat.zero_testBit]
  · rintro ⟨h1, h2⟩
    rw [h1, h2]
    rfl
theorem or_small {a b : Nat} (ha : a < 4294967296) (hb : b < 4294967296) : a ||| b < 4294967296 := Nat.or_lt_two_pow (n := 32) ha hb
/-- a berth that is one -/
structure Ve (m : Nat) (x : En) : Prop where
  ok : okp x.1 = true
  ln : x.2.1 < m
  ph : x.2.2 < x.1
/-- the rooms of a lane that are had -/
def msk (S : List En) (lane : Nat) : Nat := S.foldl (fun acc x => if x.2.1 = lane then acc ||| mk x.1 x.2.2 else acc) 0
theorem msk_snoc (S : List En) (x : En) (lane : Nat) : msk (S ++ [x]) lane = if x.2.1 = lane then msk S lane ||| mk x.1 x.2.2 else msk S lane := by simp [msk, List.foldl_append]
theorem msk_ind {m : Nat} {lane : Nat} (Q : List En → Nat → Prop) (h0 : Q [] 0) (h1 : ∀ S x, Q S (msk S lane) → Q (S ++ [x]) (if x.2.1 = lane then msk S lane ||| mk x.1 x.2.2 else msk S lane)) (S : List En) : Q S (msk S lane) := by
  generalize hn : S.length = n
  induction n generalizing S with
  | zero => rw [List.eq_nil_of_length_eq_zero hn]; exact h0
  | succ n ih =>
    rcases List.eq_nil_or_concat S with rfl | ⟨T, x, rfl⟩
    · simp at hn
    · rw [List.concat_eq_append] at hn ⊢
      rw [msk_snoc]
      exact h1 T x (ih T (by simp at hn; exact hn))
theorem msk_small {m : Nat} {S : List En} (h : ∀ x ∈ S, Ve m x) (lane : Nat) : msk S lane < 4294967296 := by
  refine msk_ind (m := m) (lane := lane) (fun S v => (∀ x ∈ S, Ve m x) → v < 4294967296) (fun _ => by omega) (fun S x ih hS => ?_) S h
  have h1 := ih (fun y hy => hS y (List.mem_append_left _ hy))
  have h2 := hS x (by simp)
  split
  · exact or_small h1 (mk_small h2.ok h2.ph)
  · exact h1
theorem msk_free {m : Nat} {S : List En} (h : ∀ x ∈ S, Ve m x) {p lane f : Nat} (hp : okp p = true) (hf : f < p) : (msk S lane &&& mk p f = 0) ↔ ∀ x ∈ S, cl (p, lane, f) x = false := by
  refine msk_ind (m := m) (lane := lane) (fun S v => (∀ x ∈ S, Ve m x) → ((v &&& mk p f = 0) ↔ ∀ x ∈ S, cl (p, lane, f) x = false)) (fun _ => by simp) (fun S x ih hS => ?_) S h
  have h1 := ih (fun y hy => hS y (List.mem_append_left _ hy))
  have h2 := hS x (by simp)
  have hc : cl (p, lane, f) x = (decide (x.2.1 = lane) && decide (x.2.2 % min x.1 p = f % min x.1 p)) := by
    rw [cl_comm]
    unfold cl
    simp [Bool.beq_eq_decide_eq]
  have hd : (∀ y ∈ S ++ [x], cl (p, lane, f) y = false) ↔ (∀ y ∈ S, cl (p, lane, f) y = false) ∧ cl (p, lane, f) x = false := by
    constructor
    · intro q; exact ⟨fun y hy => q y (List.mem_append_left _ hy), q x (by simp)⟩
    · rintro ⟨q1, q2⟩ y hy
      rcases List.mem_append.1 hy with r | r
      · exact q1 y r
      · rw [List.mem_singleton.1 r]; exact q2
  rw [hd]
  by_cases e : x.2.1 = lane
  · rw [if_pos e, and_zero_or, h1, mk_and h2.ok hp h2.ph hf, hc]
    simp [e]
  · rw [if_neg e, h1, hc]
    simp [e]
/-- is the k-th berth of that period free? -/
def free (S : List En) (p k : Nat) : Bool := S.all fun x => !cl (p, k / p, k % p) x
theorem free_iff {S : List En} {p k : Nat} : free S p k = true ↔ ∀ x ∈ S, cl (p, k / p, k % p) x = false := by simp [free]
def fit (S : List En) (p m : Nat) : Option Nat := (List.range (m * p)).find? (free S p)
theorem fit_some {S : List En} {p m k : Nat} (hk : k < m * p) (hf : free S p k = true) (hl : ∀ j, j < k → free S p j = false) : fit S p m = some k := by
  unfold fit
  rw [List.find?_range_eq_some]
  exact ⟨hf, List.mem_range.2 hk, fun j hj => by rw [hl j hj]; rfl⟩
theorem fit_none {S : List En} {p m : Nat} (hl : ∀ j, j < m * p → free S p j = false) : fit S p m = none := by
  unfold fit
  rw [List.find?_range_eq_none]
  intro j hj
  rw [hl j hj]
  rfl
theorem fit_is {S : List En} {p m k : Nat} (h : fit S p m = some k) : k < m * p ∧ free S p k = true := by
  unfold fit at h
  rw [List.find?_range_eq_some] at h
  exact ⟨List.mem_range.1 h.2.1, h.1⟩
theorem fit_no {S : List En} {p m : Nat} (h : fit S p m = none) : ∀ j, j < m * p → free S p j = false := by
  unfold fit at h
  rw [List.find?_range_eq_none] at h
  intro j hj
  simpa using h j hj
abbrev Bt := Nat × Nat
def pN (P : List Int) (t : Nat) : Nat := (P.getD t 0).toNat
def sOf (P : List Int) (H : List Nat) (B : List Bt) : List En := H.map fun t => (pN P t, B.getD t (0, 0))
/-- berths for tasks, one by one -/
def pln (P : List Int) (m : Nat) : List Nat → List Nat → List Bt → Option (List Bt)
  | [], _, B => some B
  | t :: ts, H, B => match fit (sOf P H B) (pN P t) m with
    | none => none
    | some k => pln P m ts (H ++ [t]) (B.set t (k / pN P t, k % pN P t))
def okP (P : List Int) : Prop := ∀ p ∈ P, 0 ≤ p ∧ okp p.toNat = true
theorem okP.at {P : List Int} (h : okP P) {t : Nat} (ht : t < P.length) : okp (pN P t) = true ∧ P.getD t 0 = (pN P t : Int) := by
  have : P.getD t 0 ∈ P := by rw [getD_at ht]; exact List.getElem_mem _
  have h1 := h _ this
  exact ⟨h1.2, by unfold pN; omega⟩
/-- the tasks in the order in which they are given berths -/
def ord (P : List Int) : List Nat := [1, 2, 4, 8, 16, 32].flatMap fun p => (List.range P.length).filter fun i => pN P i == p
theorem ord_mem {P : List Int} {t : Nat} (h : t ∈ ord P) : t < P.length := by
  unfold ord at h
  obtain ⟨p, _, q⟩ := List.mem_flatMap.1 h
  exact List.mem_range.1 (List.mem_filter.1 q).1
theorem ord_has {P : List Int} (h : okP P) {t : Nat} (ht : t < P.length) : t ∈ ord P := by
  unfold ord
  refine List.mem_flatMap.2 ⟨pN P t, by simpa using okp_iff.1 (h.at ht).1, List.mem_filter.2 ⟨List.mem_range.2 ht, by simp⟩⟩
/-- by period, then by number -/
def lt2 (P : List Int) (x y : Nat) : Prop := pN P x < pN P y ∨ (pN P x = pN P y ∧ x < y)
theorem filt_srt (P : List Int) (p : Nat) : ((List.range P.length).filter fun i => pN P i == p).Pairwise (lt2 P) := by
  have h : (List.range P.length).Pairwise (· < ·) := List.pairwise_lt_range
  rw [List.pairwise_filter]
  refine h.imp ?_
  intro x y hxy h1 h2
  exact .inr ⟨by rw [beq_iff_eq.1 h1, beq_iff_eq.1 h2], hxy⟩
theorem ord_srt (P : List Int) : (ord P).Pairwise (lt2 P) := by
  unfold ord
  rw [List.pairwise_flatMap]
  refine ⟨fun p _ => filt_srt P p, ?_⟩
  have : List.Pairwise (· < ·) [1, 2, 4, 8, 16, 32] := by decide
  refine this.imp ?_
  intro p q hpq x hx y hy
  have h1 := beq_iff_eq.1 (List.mem_filter.1 hx).2
  have h2 := beq_iff_eq.1 (List.mem_filter.1 hy).2
  exact .inl (by omega)
theorem ord_nodup (P : List Int) : (ord P).Nodup := (ord_srt P).imp (fun {x y} h => by rcases h with h | h <;> (rintro rfl; omega))
theorem ord_perm {P : List Int} (h : okP P) : (ord P).Perm (List.range P.length) := by
  refine (List.perm_ext_iff_of_nodup (ord_nodup P) List.nodup_range).2 fun t => ?_
  constructor
  · intro q; exact List.mem_range.2 (ord_mem q)
  · intro q; exact ord_has h (List.mem_range.1 q)
/-- keys of tasks -/
def kP (P : List Int) (x : Int) : Int := P.getD x.toNat 0
theorem ord_is {P : List Int} (h : okP P) {M : List Int} (hp : M.Perm ((List.range P.length).map Int.ofNat)) (hs : Srt (kP P) M) : M = (ord P).map Int.ofNat := by
  refine sorted_eq (hp.trans ((ord_perm h).map _).symm) hs ?_
  unfold Srt
  rw [List.pairwise_map]
  have := (ord_srt P)
  refine List.Pairwise.imp_of_mem ?_ this
  intro x y hx hy hxy
  have h1 := (h.at (ord_mem hx)).2
  have h2 := (h.at (ord_mem hy)).2
  unfold lt kP
  simp only [Int.ofNat_eq_natCast, Int.toNat_natCast]
  rw [h1, h2]
  rcases hxy with q | q <;> omega
end Go.Proofs.Ytcenaleladjakab.budget
