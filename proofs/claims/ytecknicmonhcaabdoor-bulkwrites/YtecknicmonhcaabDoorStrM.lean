/- strike: the plain mathematics: pieces of a text; how a transfer ends. No program is named here. -/
import Derived.WalkKit
import Derived.Test.YtecknicmonhcaabDoorPipM
namespace Go.Proofs.YtecknicmonhcaabDoor.strike
open Go.RowKit Go.Proofs.YtecknicmonhcaabDoor.pipe
set_option linter.unusedVariables false

theorem size_list (t : ByteArray) : t.size = t.data.toList.length := by rw [Array.length_toList]; rfl
theorem ext_list {a b : ByteArray} (h : a.data.toList = b.data.toList) : a = b := ByteArray.ext (Array.toList_inj.1 h)
theorem ex_list (t : ByteArray) (a b : Nat) : (t.extract a b).data.toList = (t.data.toList.drop a).take (b - a) := by
  rw [ByteArray.data_extract, Array.toList_extract, List.extract_eq_take_drop]
/-- all of these, as one text; how many bytes they have -/
def cat (l : List ByteArray) : ByteArray := ⟨(l.map fun t => t.data.toList).flatten.toArray⟩
def sizes (l : List ByteArray) : Nat := (l.map fun t => t.size).sum
theorem cat_list (l : List ByteArray) : (cat l).data.toList = (l.map fun t => t.data.toList).flatten := by simp [cat]
theorem cat_size (l : List ByteArray) : (cat l).size = sizes l := by
  rw [size_list, cat_list, List.length_flatten, List.map_map]
  unfold sizes
  congr 1
theorem cat_append (a b : List ByteArray) : (cat (a ++ b)).data.toList = (cat a).data.toList ++ (cat b).data.toList := by
  rw [cat_list, cat_list, cat_list, List.map_append, List.flatten_append]
theorem cat_cons (x : ByteArray) (l : List ByteArray) : (cat (x :: l)).data.toList = x.data.toList ++ (cat l).data.toList := by
  rw [cat_list, cat_list, List.map_cons, List.flatten_cons]
theorem cat_one (x : ByteArray) : cat [x] = x := by apply ext_list; rw [cat_cons, cat_list]; simp
theorem sizes_cons (x : ByteArray) (l : List ByteArray) : sizes (x :: l) = x.size + sizes l := by unfold sizes; rw [List.map_cons, List.sum_cons]
theorem sizes_append (a b : List ByteArray) : sizes (a ++ b) = sizes a + sizes b := by unfold sizes; rw [List.map_append, List.sum_append]
theorem sizes_drop {l : List ByteArray} {k : Nat} (h : k < l.length) : sizes (l.drop k) = l[k].size + sizes (l.drop (k + 1)) := by
  rw [List.drop_eq_getElem_cons h, sizes_cons]

/-- the piece i of t -/
def pc (n : Nat) (t : ByteArray) (i : Nat) : ByteArray := t.extract (i * n) (min ((i + 1) * n) t.size)
def pcs (n : Nat) (t : ByteArray) : List ByteArray := (List.range (t.size / n + 1)).map (pc n t)
theorem pcs_length (n : Nat) (t : ByteArray) : (pcs n t).length = t.size / n + 1 := by simp [pcs]
theorem pcs_at {n : Nat} {t : ByteArray} {i : Nat} (h : i < (pcs n t).length) : (pcs n t)[i] = pc n t i := by simp [pcs]
theorem pc_size (n : Nat) (t : ByteArray) (i : Nat) : (pc n t i).size = min ((i + 1) * n) t.size - i * n := by
  unfold pc; rw [ByteArray.size_extract]; omega
theorem div_fits {n s i : Nat} (hn : 0 < n) : i ≤ s / n ↔ i * n ≤ s := Nat.le_div_iff_mul_le hn
theorem div_over {n s : Nat} (hn : 0 < n) : s < (s / n + 1) * n := by
  have h1 := Nat.div_add_mod s n
  have h2 := Nat.mod_lt s hn
  rw [Nat.succ_mul, Nat.mul_comm]
  omega
theorem cat_take {n : Nat} (t : ByteArray) (hn : 0 < n) : ∀ g, g ≤ t.size / n + 1 → cat ((pcs n t).take g) = t.extract 0 (min (g * n) t.size) := by
  intro g
  induction g with
  | zero => intro _; apply ext_list; rw [ex_list, List.take_zero, cat_list]; simp
  | succ g ih =>
    intro hg
    have hlt : g < (pcs n t).length := by rw [pcs_length]; omega
    have hm : g * n ≤ t.size := (div_fits hn).1 (by omega)
    apply ext_list
    rw [List.take_succ_eq_append_getElem hlt, cat_append, ih (by omega), cat_one, pcs_at, ex_list, pc, ex_list, ex_list, Nat.succ_mul]
    generalize g * n = m at *
    rw [List.drop_zero, Nat.sub_zero, Nat.sub_zero, Nat.min_eq_left hm, ← List.take_add]
    congr 1
    omega
theorem cat_pcs {n : Nat} (t : ByteArray) (hn : 0 < n) : cat (pcs n t) = t := by
  have h := cat_take t hn (t.size / n + 1) (Nat.le_refl _)
  have h1 := div_over (s := t.size) hn
  rw [List.take_of_length_le (by rw [pcs_length]; omega), Nat.min_eq_right (by omega)] at h
  rw [h]
  apply ext_list
  rw [ex_list, List.drop_zero, List.take_of_length_le (by rw [← size_list]; omega)]
theorem size_take {n : Nat} (t : ByteArray) (hn : 0 < n) {g : Nat} (hg : g ≤ t.size / n + 1) : sizes ((pcs n t).take g) = min (g * n) t.size := by
  rw [← cat_size, cat_take t hn g hg, ByteArray.size_extract]; omega
theorem size_pcs {n : Nat} (t : ByteArray) (hn : 0 < n) : sizes (pcs n t) = t.size := by rw [← cat_size, cat_pcs t hn]
theorem size_drop {n : Nat} (t : ByteArray) (hn : 0 < n) {g : Nat} (hg : g ≤ t.size / n + 1) : sizes ((pcs n t).drop g) + min (g * n) t.size = t.size := by
  have h := sizes_append ((pcs n t).take g) ((pcs n t).drop g)
  rw [List.take_append_drop, size_pcs t hn, size_take t hn hg] at h
  omega

/-- are they pieces of this size, in a row? -/
def rowB (n : Nat) : List ByteArray → Bool
  | [] => false
  | [x] => decide (x.size < n)
  | x :: y :: r => decide (x.size = n) && rowB n (y :: r)
theorem row_of {n : Nat} : ∀ (l : List ByteArray), l ≠ [] → (∀ i (h : i < l.length), (i + 1 < l.length → l[i].size = n) ∧ (i + 1 = l.length → l[i].size < n)) → rowB n l = true := by
  intro l
  induction l with
  | nil => intro h; exact absurd rfl h
  | cons x r ih =>
    intro _ h
    cases r with
    | nil =>
      have := (h 0 (by simp)).2 rfl
      simpa [rowB] using this
    | cons y r =>
      have h0 := (h 0 (by simp)).1 (by simp)
      have := ih (by simp) fun i hi => by
        have := h (i + 1) (by simpa using hi)
        simpa using this
      unfold rowB
      rw [this]
      simpa using h0
theorem row_pcs {n : Nat} (t : ByteArray) (hn : 0 < n) : rowB n (pcs n t) = true := by
  refine row_of _ (by intro h; have := congrArg List.length h; rw [pcs_length] at this; cases this) fun i hi => ?_
  rw [pcs_at, pc_size]
  rw [pcs_length] at *
  have h1 := div_over (s := t.size) hn
  constructor
  · intro h
    have := (div_fits (s := t.size) (i := i + 1) hn).1 (by omega)
    rw [Nat.succ_mul] at *
    omega
  · intro h
    obtain rfl : i = t.size / n := by omega
    rw [Nat.succ_mul] at *
    omega
theorem pcs_cons {n : Nat} {x t T : ByteArray} (hn : 0 < n) (hx : x.size = n) (hT : T.data.toList = x.data.toList ++ t.data.toList) : pcs n T = x :: pcs n t := by
  have hz : T.size = n + t.size := by rw [size_list, hT, List.length_append, ← size_list, ← size_list, hx]
  have hxl : x.data.toList.length = n := by rw [← size_list, hx]
  unfold pcs
  rw [hz, Nat.add_div_left _ hn, List.range_succ_eq_map, List.map_cons, List.map_map]
  congr 1
  · apply ext_list
    unfold pc
    rw [ex_list, hT, hz]
    simp only [Nat.zero_mul, Nat.zero_add, Nat.one_mul, List.drop_zero, Nat.sub_zero]
    rw [Nat.min_eq_left (by omega), List.take_append_of_le_length (by omega), List.take_of_length_le (by omega)]
  · apply List.map_congr_left
    intro i _
    apply ext_list
    show (pc n T (i + 1)).data.toList = _
    unfold pc
    rw [ex_list, ex_list, hT, hz, List.drop_append, List.drop_eq_nil_of_le (by rw [hxl, Nat.succ_mul]; omega), List.nil_append, hxl]
    rw [Nat.succ_mul (i + 1), Nat.succ_mul i]
    generalize i * n = m
    rw [show m + n - n = m by omega]
    congr 1
    omega
theorem pcs_cat {n : Nat} (hn : 0 < n) : ∀ (l : List ByteArray), rowB n l = true → pcs n (cat l) = l := by
  intro l
  induction l with
  | nil => intro h; cases h
  | cons x r ih =>
    intro h
    cases r with
    | nil =>
      have hx : x.size < n := by simpa [rowB] using h
      rw [cat_one]
      unfold pcs
      rw [Nat.div_eq_of_lt hx]
      show [pc n x 0] = [x]
      congr 1
      apply ext_list
      unfold pc
      rw [ex_list, Nat.zero_mul, List.drop_zero, List.take_of_length_le]
      rw [← size_list]; omega
    | cons y r =>
      unfold rowB at h
      rw [Bool.and_eq_true] at h
      have hx : x.size = n := by simpa using h.1
      rw [pcs_cons hn hx (cat_cons x (y :: r)), ih h.2]
theorem row_iff {n : Nat} (hn : 0 < n) (l : List ByteArray) : rowB n l = decide (pcs n (cat l) = l) := by
  by_cases h : pcs n (cat l) = l
  · rw [decide_eq_true h, ← h]; exact row_pcs _ hn
  · rw [decide_eq_false h]
    cases hr : rowB n l with
    | false => rfl
    | true => exact absurd (pcs_cat hn l hr) h
theorem row_sizes {n : Nat} : ∀ (l : List ByteArray), rowB n l = true → sizes l ≤ n * l.length := by
  intro l
  induction l with
  | nil => intro h; cases h
  | cons x r ih =>
    intro h
    rw [sizes_cons, List.length_cons, Nat.mul_succ]
    cases r with
    | nil =>
      have hx : x.size < n := by simpa [rowB] using h
      have : sizes [] = 0 := rfl
      omega
    | cons y r =>
      unfold rowB at h
      rw [Bool.and_eq_true] at h
      have hx : x.size = n := by simpa using h.1
      have := ih h.2
      omega
theorem row_step {n : Nat} {l : List ByteArray} {k : Nat} (h : k + 1 < l.length) : rowB n (l.drop k) = (decide (l[k].size = n) && rowB n (l.drop (k + 1))) := by
  rw [List.drop_eq_getElem_cons (by omega), List.drop_eq_getElem_cons h]
  rfl
theorem row_last {n : Nat} {l : List ByteArray} {k : Nat} (h : k < l.length) (h1 : k + 1 = l.length) : rowB n (l.drop k) = decide (l[k].size < n) := by
  rw [List.drop_eq_getElem_cons h, List.drop_eq_nil_of_le (by omega)]
  rfl

/-- what Split answers -/
def sizB (z : Int) : Bool := decide (1 ≤ z) && decide (z ≤ 64)
def spC (z : Int) (t : ByteArray) : Int := if sizB z = false then 1 else if 4096 < t.size then 2 else 0
def spP (z : Int) (t : ByteArray) : List ByteArray := if spC z t = 0 then pcs z.toNat t else []
/-- what Join answers -/
def joC (z : Int) (l : List ByteArray) : Int := if sizB z = false then 1 else if 4096 < wrap64 (sizes l : Int) then 2 else if rowB z.toNat l = false then 4 else 0
def joT (z : Int) (l : List ByteArray) : ByteArray := if joC z l = 0 then cat l else ⟨#[]⟩
theorem siz_iff (z : Int) : sizB z = true ↔ 1 ≤ z ∧ z ≤ 64 := by
  unfold sizB
  rw [Bool.and_eq_true, decide_eq_true_eq, decide_eq_true_eq]
theorem sp_ok {z : Int} {t : ByteArray} (h : spC z t = 0) : 1 ≤ z ∧ z ≤ 64 ∧ t.size ≤ 4096 ∧ spP z t = pcs z.toNat t := by
  have h' := h
  unfold spC at h
  cases hb : sizB z with
  | false => rw [hb, if_pos rfl] at h; cases h
  | true =>
    rw [hb, if_neg (by decide)] at h
    obtain ⟨h1, h2⟩ := (siz_iff z).1 hb
    refine ⟨h1, h2, ?_, by unfold spP; rw [if_pos h']⟩
    by_cases hl : 4096 < t.size
    · rw [if_pos hl] at h; cases h
    · omega
theorem wrap_small {k : Nat} (h : k ≤ 1000000000000000) : wrap64 (k : Int) = (k : Int) := by
  unfold wrap64; omega

/-- the strikes behind a fate -/
def strk (s f : Int) : Int := if f = 2 ∨ f = 3 then s + 1 else if f = 1 then 0 else s
/-- what a transfer comes to: told and taken, how it ended, how many fates were used -/
structure Rs where
  c : Nat × Nat
  k : Int
  u : Nat
def Rs.up (r : Rs) (j : Nat) : Rs := ⟨r.c, r.k, r.u + j⟩
theorem Rs.up_zero (r : Rs) : r.up 0 = r := rfl
theorem Rs.up_up (r : Rs) (i j : Nat) : (r.up i).up j = r.up (i + j) := by unfold Rs.up; simp only [Nat.add_assoc]
def gt (n : Nat) : Nat × Nat → Int → List Int → Rs
  | c, _, [] => ⟨c, 10, 0⟩
  | c, s, f :: F =>
    if f = 5 then ⟨c, 8, 1⟩
    else if n ≤ (cs n c f).1 then ⟨cs n c f, 0, 1⟩
    else if strk s f = 3 then ⟨cs n c f, 9, 1⟩
    else (gt n (cs n c f) (strk s f) F).up 1
section
variable {n : Nat} {c : Nat × Nat} {s f : Int} {F : List Int}
theorem gt_nil : gt n c s [] = ⟨c, 10, 0⟩ := rfl
theorem gt_stall : gt n c s (5 :: F) = ⟨c, 8, 1⟩ := by unfold gt; rw [if_pos rfl]
theorem gt_done (h5 : ¬ f = 5) (h : n ≤ (cs n c f).1) : gt n c s (f :: F) = ⟨cs n c f, 0, 1⟩ := by unfold gt; rw [if_neg h5, if_pos h]
theorem gt_bus (h5 : ¬ f = 5) (h : ¬ n ≤ (cs n c f).1) (hs : strk s f = 3) : gt n c s (f :: F) = ⟨cs n c f, 9, 1⟩ := by unfold gt; rw [if_neg h5, if_neg h, if_pos hs]
theorem gt_on (h5 : ¬ f = 5) (h : ¬ n ≤ (cs n c f).1) (hs : ¬ strk s f = 3) : gt n c s (f :: F) = (gt n (cs n c f) (strk s f) F).up 1 := by
  conv => lhs; unfold gt
  rw [if_neg h5, if_neg h, if_neg hs]
end
/-- the four ends -/
theorem gt_cases {n : Nat} (P : Nat × Nat → Int → List Int → Rs → Prop) (h0 : ∀ c s, P c s [] ⟨c, 10, 0⟩) (h8 : ∀ c s F, P c s (5 :: F) ⟨c, 8, 1⟩)
    (h1 : ∀ c s f F, ¬ f = 5 → n ≤ (cs n c f).1 → P c s (f :: F) ⟨cs n c f, 0, 1⟩) (h9 : ∀ c s f F, ¬ f = 5 → ¬ n ≤ (cs n c f).1 → strk s f = 3 → P c s (f :: F) ⟨cs n c f, 9, 1⟩)
    (hn : ∀ c s f F, ¬ f = 5 → ¬ n ≤ (cs n c f).1 → ¬ strk s f = 3 → P (cs n c f) (strk s f) F (gt n (cs n c f) (strk s f) F) → P c s (f :: F) ((gt n (cs n c f) (strk s f) F).up 1)) :
    ∀ (F : List Int) (c : Nat × Nat) (s : Int), P c s F (gt n c s F) := by
  intro F
  induction F with
  | nil => intro c s; exact h0 c s
  | cons f F ih =>
    intro c s
    by_cases h5 : f = 5
    · subst h5; rw [gt_stall]; exact h8 c s F
    by_cases hd : n ≤ (cs n c f).1
    · rw [gt_done h5 hd]; exact h1 c s f F h5 hd
    by_cases hs : strk s f = 3
    · rw [gt_bus h5 hd hs]; exact h9 c s f F h5 hd hs
    · rw [gt_on h5 hd hs]; exact hn c s f F h5 hd hs (ih _ _)
theorem gt_okc {n : Nat} (F : List Int) (c : Nat × Nat) (s : Int) : okc n c → okc n (gt n c s F).c :=
  gt_cases (fun c s F r => okc n c → okc n r.c) (fun _ _ h => h) (fun _ _ _ h => h) (fun c s f F _ _ h => okc_cs h f) (fun c s f F _ _ _ h => okc_cs h f) (fun c s f F _ _ _ ih h => ih (okc_cs h f)) F c s
theorem gt_used {n : Nat} (F : List Int) (c : Nat × Nat) (s : Int) : (gt n c s F).u ≤ F.length ∧ ((gt n c s F).k = 10 → (gt n c s F).u = F.length) ∧ ((gt n c s F).k ≠ 10 → 1 ≤ (gt n c s F).u) ∧ ((gt n c s F).k = 0 → n ≤ (gt n c s F).c.1) ∧ ((gt n c s F).k = 0 ∨ (gt n c s F).k = 8 ∨ (gt n c s F).k = 9 ∨ (gt n c s F).k = 10) :=
  gt_cases (fun c s F r => r.u ≤ F.length ∧ (r.k = 10 → r.u = F.length) ∧ (r.k ≠ 10 → 1 ≤ r.u) ∧ (r.k = 0 → n ≤ r.c.1) ∧ (r.k = 0 ∨ r.k = 8 ∨ r.k = 9 ∨ r.k = 10))
    (fun _ _ => ⟨Nat.le_refl _, fun _ => rfl, fun h => absurd rfl h, fun h => (by cases h), .inr (.inr (.inr rfl))⟩)
    (fun _ _ F => ⟨by simp, fun h => (by cases h), fun _ => Nat.le_refl _, fun h => (by cases h), .inr (.inl rfl)⟩)
    (fun c s f F _ h => ⟨by simp, fun h => (by cases h), fun _ => Nat.le_refl _, fun _ => h, .inl rfl⟩)
    (fun c s f F _ _ _ => ⟨by simp, fun h => (by cases h), fun _ => Nat.le_refl _, fun h => (by cases h), .inr (.inr (.inl rfl))⟩)
    (fun c s f F _ _ _ ih => ⟨by have := ih.1; simp only [Rs.up, List.length_cons]; omega, fun h => by have := ih.2.1 h; simp only [Rs.up, List.length_cons]; omega, fun _ => by simp [Rs.up], ih.2.2.2.1, ih.2.2.2.2⟩) F c s
/-- the last fate that was used -/
theorem gt_last {n : Nat} (F : List Int) (c : Nat × Nat) (s : Int) : c.1 < n → ((gt n c s F).k = 8 → F[(gt n c s F).u - 1]? = some 5) ∧ ((gt n c s F).k = 0 → F[(gt n c s F).u - 1]? = some 1) := by
  refine gt_cases (n := n) (fun c s F r => c.1 < n → (r.k = 8 → F[r.u - 1]? = some 5) ∧ (r.k = 0 → F[r.u - 1]? = some 1)) ?_ ?_ ?_ ?_ ?_ F c s
  · exact fun _ _ _ => ⟨fun h => (by cases h), fun h => (by cases h)⟩
  · exact fun _ _ _ _ => ⟨fun _ => rfl, fun h => (by cases h)⟩
  · intro c s f F _ hd hc
    refine ⟨fun h => (by cases h), fun _ => ?_⟩
    rw [cs_fst] at hd
    by_cases h : c.1 < n ∧ f = 1
    · rw [h.2]; rfl
    · rw [if_neg h] at hd; omega
  · exact fun _ _ _ _ _ _ _ _ => ⟨fun h => (by cases h), fun h => (by cases h)⟩
  · intro c s f F _ hd _ ih hc
    have h1 := gt_used (n := n) F (cs n c f) (strk s f)
    have hi := ih (by omega)
    generalize gt n (cs n c f) (strk s f) F = r at *
    have key : ∀ k : Int, k ≠ 10 → (r.k = k → ∀ y, F[r.u - 1]? = some y → (f :: F)[(r.up 1).u - 1]? = some y) := by
      intro k hk hr y hy
      have := h1.2.2.1 (by rw [hr]; exact hk)
      show (f :: F)[r.u + 1 - 1]? = some y
      rw [show r.u + 1 - 1 = (r.u - 1) + 1 by omega, List.getElem?_cons_succ]
      exact hy
    exact ⟨fun h => key 8 (by decide) h _ (hi.1 h), fun h => key 0 (by decide) h _ (hi.2 h)⟩
/-- how many strikes stand at the end of a row (from its end on) -/
def cb : List Int → Int
  | [] => 0
  | f :: r => if f = 1 then 0 else if f = 4 then cb r else 1 + cb r
theorem cb_strk {f : Int} {P : List Int} (hf : fateB f = true) (h5 : ¬ f = 5) : cb (f :: P) = strk (cb P) f := by
  have := (fate_iff f).1 hf
  unfold strk
  show (if f = 1 then 0 else if f = 4 then cb P else 1 + cb P) = _
  by_cases h1 : f = 1
  · subst h1; rfl
  by_cases h4 : f = 4
  · subst h4; rfl
  · rw [if_neg h1, if_neg h4, if_pos (by omega)]; omega
theorem gt_three {n : Nat} (F : List Int) (c : Nat × Nat) (s : Int) : ∀ P : List Int, F.all fateB = true → s ≠ 3 → s = cb P → (gt n c s F).k = 9 → cb ((F.take (gt n c s F).u).reverse ++ P) = 3 ∧ (F[(gt n c s F).u - 1]? = some 2 ∨ F[(gt n c s F).u - 1]? = some 3) := by
  refine gt_cases (n := n) (fun c s F r => ∀ P : List Int, F.all fateB = true → s ≠ 3 → s = cb P → r.k = 9 → cb ((F.take r.u).reverse ++ P) = 3 ∧ (F[r.u - 1]? = some 2 ∨ F[r.u - 1]? = some 3)) ?_ ?_ ?_ ?_ ?_ F c s
  · exact fun _ _ _ _ _ _ h => by cases h
  · exact fun _ _ _ _ _ _ _ h => by cases h
  · exact fun _ _ _ _ _ _ _ _ _ _ h => by cases h
  · intro c s f F h5 _ hs P ha h3 hP _
    rw [List.all_cons, Bool.and_eq_true] at ha
    refine ⟨?_, ?_⟩
    · show cb ([f] ++ P) = 3
      rw [List.singleton_append, cb_strk ha.1 h5, ← hP, hs]
    · show some f = some 2 ∨ some f = some 3
      have h1 := (fate_iff f).1 ha.1
      unfold strk at hs
      by_cases h2 : f = 2 ∨ f = 3
      · rcases h2 with rfl | rfl
        · exact .inl rfl
        · exact .inr rfl
      · rw [if_neg h2] at hs
        by_cases h1 : f = 1
        · rw [if_pos h1] at hs; cases hs
        · rw [if_neg h1] at hs; exact absurd hs h3
  · intro c s f F h5 hd h3 ih P ha _ hP hk
    rw [List.all_cons, Bool.and_eq_true] at ha
    have h1 := gt_used (n := n) F (cs n c f) (strk s f)
    have hi := ih (f :: P) ha.2 h3 (by rw [cb_strk ha.1 h5, hP]) hk
    generalize gt n (cs n c f) (strk s f) F = r at *
    have hu := h1.2.2.1 (by rw [show r.k = 9 from hk]; decide)
    refine ⟨?_, ?_⟩
    · show cb (((f :: F).take (r.u + 1)).reverse ++ P) = 3
      rw [List.take_succ_cons, List.reverse_cons, List.append_assoc, List.singleton_append]
      exact hi.1
    · show (f :: F)[r.u + 1 - 1]? = some 2 ∨ (f :: F)[r.u + 1 - 1]? = some 3
      rw [show r.u + 1 - 1 = (r.u - 1) + 1 by omega, List.getElem?_cons_succ]
      exact hi.2
/-- fates that were not used do not matter -/
theorem gt_cut {n : Nat} (M : List Int) (F : List Int) (c : Nat × Nat) (s : Int) : (gt n c s F).k ≠ 10 → gt n c s (F.take (gt n c s F).u ++ M) = gt n c s F := by
  refine gt_cases (n := n) (fun c s F r => r.k ≠ 10 → gt n c s (F.take r.u ++ M) = r) ?_ ?_ ?_ ?_ ?_ F c s
  · exact fun _ _ h => absurd rfl h
  · exact fun _ _ _ _ => gt_stall
  · exact fun c s f F h5 hd _ => gt_done h5 hd
  · exact fun c s f F h5 hd hs _ => gt_bus h5 hd hs
  · intro c s f F h5 hd hs ih hk
    have hi := ih hk
    show gt n c s ((f :: F).take ((gt n (cs n c f) (strk s f) F).u + 1) ++ M) = _
    rw [List.take_succ_cons, List.cons_append, gt_on h5 hd hs, hi]
/-- is there a fate FStall, or are there three strikes in a row? -/
def bad : Int → List Int → Bool
  | _, [] => false
  | s, f :: F => decide (f = 5) || decide (strk s f = 3) || bad (strk s f) F
theorem gt_well {n : Nat} (F : List Int) (c : Nat × Nat) (s : Int) : c.1 < n → bad s F = false → (c.1 + gds F < n → (gt n c s F).k = 10) ∧ (n ≤ c.1 + gds F → (gt n c s F).k = 0) := by
  refine gt_cases (n := n) (fun c s F r => c.1 < n → bad s F = false → (c.1 + gds F < n → r.k = 10) ∧ (n ≤ c.1 + gds F → r.k = 0)) ?_ ?_ ?_ ?_ ?_ F c s
  · intro c s hc _
    exact ⟨fun _ => rfl, fun h => by simp [gds] at h; omega⟩
  · intro c s F hc hb; simp [bad] at hb
  · intro c s f F h5 hd hc hb
    refine ⟨fun h => ?_, fun _ => rfl⟩
    rw [cs_fst] at hd
    by_cases h1 : c.1 < n ∧ f = 1
    · rw [gds_cons, if_pos h1.2] at h; rw [if_pos h1] at hd; omega
    · rw [if_neg h1] at hd; omega
  · intro c s f F h5 hd hs hc hb; simp [bad, hs] at hb
  · intro c s f F h5 hd hs ih hc hb
    have hb' : bad (strk s f) F = false := by simp [bad, h5, hs] at hb; exact hb
    have hi := ih (by omega) hb'
    have he : (cs n c f).1 + gds F = c.1 + gds (f :: F) := by
      rw [cs_fst, gds_cons]
      by_cases h1 : f = 1
      · rw [if_pos ⟨hc, h1⟩, if_pos h1]; omega
      · rw [if_neg (fun q => h1 q.2), if_neg h1, Nat.add_zero]
    rw [he] at hi
    exact hi

/-- what Carry answers -/
def fC (F : List Int) : Int := if 1000 < F.length then 2 else if F.all fateB = false then 1 else 0
def caC (z : Int) (t : ByteArray) (F : List Int) : Int := if ¬ spC z t = 0 then spC z t else if 200 < (pcs z.toNat t).length then 2 else fC F
/-- what is told: the code, what was taken, how much is known, how many were used -/
structure Cd where
  k : Int
  g : ByteArray
  d : Int
  u : Int
def zC : Cd := ⟨0, ⟨#[]⟩, 0, 0⟩
def toC (n : Nat) (t : ByteArray) (r : Rs) : Cd := ⟨r.k, t.extract 0 (min (r.c.2 * n) t.size), (min (r.c.1 * n) t.size : Nat), r.u⟩
def caV (z : Int) (t : ByteArray) (F : List Int) : Cd := if caC z t F = 0 then toC z.toNat t (gt (pcs z.toNat t).length (0, 0) 0 F) else zC
theorem ca_ok {z : Int} {t : ByteArray} {F : List Int} (h : caC z t F = 0) : spC z t = 0 ∧ (pcs z.toNat t).length ≤ 200 ∧ F.length ≤ 1000 ∧ F.all fateB = true ∧ caV z t F = toC z.toNat t (gt (pcs z.toNat t).length (0, 0) 0 F) := by
  have h' := h
  unfold caC at h
  by_cases h0 : spC z t = 0
  · rw [if_neg (fun q => q h0)] at h
    by_cases h1 : 200 < (pcs z.toNat t).length
    · rw [if_pos h1] at h; cases h
    · rw [if_neg h1] at h
      unfold fC at h
      by_cases h2 : 1000 < F.length
      · rw [if_pos h2] at h; cases h
      · rw [if_neg h2] at h
        cases h3 : F.all fateB with
        | false => rw [h3, if_pos rfl] at h; cases h
        | true => exact ⟨h0, by omega, by omega, rfl, by unfold caV; rw [if_pos h']⟩
  · rw [if_pos h0] at h; exact absurd h h0
theorem ca_err {z : Int} {t : ByteArray} {F : List Int} (h : ¬ caC z t F = 0) : caV z t F = zC := by unfold caV; rw [if_neg h]
end Go.Proofs.YtecknicmonhcaabDoor.strike
