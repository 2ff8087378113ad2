/- budget: KRAFT, plainly: rooms are counted. No program is named here. -/
import Derived.Test.YtcenaleladjakabBudN
namespace Go.Proofs.Ytcenaleladjakab.budget
set_option linter.unusedVariables false
set_option linter.unusedSimpArgs false

/-- has a berth that room? -/
def has (l f : Nat) (x : En) : Bool := x.2.1 == l && f % x.1 == x.2.2
def cnt (S : List En) (l f : Nat) : Nat := S.countP (has l f)
def sumN (n : Nat) (g : Nat → Nat) : Nat := ((List.range n).map g).sum
theorem sumN_zero (g : Nat → Nat) : sumN 0 g = 0 := rfl
theorem sumN_succ (n : Nat) (g : Nat → Nat) : sumN (n + 1) g = sumN n g + g n := by simp [sumN, List.range_succ]
theorem sumN_add (n : Nat) (g h : Nat → Nat) : sumN n (fun i => g i + h i) = sumN n g + sumN n h := by
  induction n with
  | zero => rfl
  | succ n ih => rw [sumN_succ, sumN_succ, sumN_succ, ih]; omega
theorem sumN_le {n c : Nat} {g : Nat → Nat} (h : ∀ i, i < n → g i ≤ c) : sumN n g ≤ n * c := by
  induction n with
  | zero => simp [sumN_zero]
  | succ n ih => rw [sumN_succ, Nat.succ_mul]; have := ih (fun i hi => h i (by omega)); have := h n (by omega); omega
theorem sumN_ge {n c : Nat} {g : Nat → Nat} (h : ∀ i, i < n → c ≤ g i) : n * c ≤ sumN n g := by
  induction n with
  | zero => simp [sumN_zero]
  | succ n ih => rw [sumN_succ, Nat.succ_mul]; have := ih (fun i hi => h i (by omega)); have := h n (by omega); omega
theorem sumN_congr {n : Nat} {g h : Nat → Nat} (e : ∀ i, i < n → g i = h i) : sumN n g = sumN n h := by
  induction n with
  | zero => rfl
  | succ n ih => rw [sumN_succ, sumN_succ, ih (fun i hi => e i (by omega)), e n (by omega)]
theorem sumN_nil (n : Nat) : sumN n (fun _ => 0) = 0 := by
  induction n with
  | zero => rfl
  | succ n ih => rw [sumN_succ, ih]
theorem sumN_at {n l c : Nat} (h : l < n) : sumN n (fun i => if l = i then c else 0) = c := by
  induction n with
  | zero => omega
  | succ n ih =>
    rw [sumN_succ]
    by_cases e : l = n
    · subst e
      rw [if_pos rfl, sumN_congr (h := fun _ => 0) (fun i hi => if_neg (by omega)), sumN_nil]
      omega
    · rw [ih (by omega), if_neg e]
      omega
/-- all rooms of m lanes and 32 frames that are had -/
def tot (S : List En) (m : Nat) : Nat := sumN m fun l => sumN 32 fun f => cnt S l f
theorem cnt_tbl : ([1, 2, 4, 8, 16, 32].all fun p => (List.range p).all fun g => sumN 32 (fun f => if f % p == g then 1 else 0) == 32 / p) = true := by decide +kernel
theorem cnt_one {p g : Nat} (hp : okp p = true) (hg : g < p) : sumN 32 (fun f => if f % p == g then 1 else 0) = 32 / p := by
  have hp' : p ∈ [1, 2, 4, 8, 16, 32] := by simpa using okp_iff.1 hp
  simpa using List.all_eq_true.1 (List.all_eq_true.1 cnt_tbl p hp') g (List.mem_range.2 hg)
theorem sumN_has {n l : Nat} {x : En} {S : List En} : (sumN n fun f => cnt (x :: S) l f) = (sumN n fun f => cnt S l f) + (sumN n fun f => if has l f x = true then 1 else 0) := by
  rw [← sumN_add]
  exact sumN_congr fun f _ => by
    unfold cnt
    rw [List.countP_cons]
theorem has_sum {n l : Nat} {x : En} : (sumN n fun f => if has l f x = true then 1 else 0) = if x.2.1 = l then (sumN n fun f => if f % x.1 == x.2.2 then 1 else 0) else 0 := by
  by_cases q : x.2.1 = l
  · rw [if_pos q]
    exact sumN_congr fun f _ => by simp [has, q]
  · rw [if_neg q, sumN_congr (h := fun _ => 0) (fun f _ => by simp [has, q]), sumN_nil]
theorem tot_cons {m : Nat} {x : En} {S : List En} (h : Ve m x) : tot (x :: S) m = tot S m + 32 / x.1 := by
  unfold tot
  rw [sumN_congr (fun l _ => sumN_has), sumN_add, sumN_congr (g := fun l => sumN 32 fun f => if has l f x = true then 1 else 0) (fun l _ => has_sum), cnt_one h.ok h.ph, sumN_at h.ln]
/-- what they ask for -/
def shr (S : List En) : Nat := (S.map fun x => 32 / x.1).sum
theorem tot_is {m : Nat} : ∀ (S : List En), (∀ x ∈ S, Ve m x) → tot S m = shr S
  | [], _ => by
    unfold tot cnt shr
    simp only [List.countP_nil, List.map_nil, List.sum_nil]
    rw [sumN_congr (fun l _ => sumN_nil 32), sumN_nil]
  | x :: S, h => by
    rw [tot_cons (h x (by simp)), tot_is S (fun y hy => h y (by simp [hy]))]
    simp [shr]
    omega
theorem min_dvd {p q : Nat} (hp : okp p = true) (hq : okp q = true) : min p q ∣ p ∧ min p q ∣ q := by
  rcases okp_iff.1 hp with rfl | rfl | rfl | rfl | rfl | rfl <;> rcases okp_iff.1 hq with rfl | rfl | rfl | rfl | rfl | rfl <;> decide
theorem has_clash {m : Nat} {x y : En} {l f : Nat} (hx : Ve m x) (hy : Ve m y) (h1 : has l f x = true) (h2 : has l f y = true) : cl x y = true := by
  unfold has at h1 h2
  simp at h1 h2
  have hd := min_dvd hx.ok hy.ok
  unfold cl
  simp
  refine ⟨by omega, ?_⟩
  rw [← h1.2, ← h2.2, Nat.mod_mod_of_dvd _ hd.1, Nat.mod_mod_of_dvd _ hd.2]
/-- none of them clash -/
def Apart (S : List En) : Prop := S.Pairwise fun x y => cl x y = false
theorem cnt_le {m : Nat} {S : List En} (hv : ∀ x ∈ S, Ve m x) (ha : Apart S) (l f : Nat) : cnt S l f ≤ 1 := by
  induction S with
  | nil => simp [cnt]
  | cons x S ih =>
    have h1 := List.pairwise_cons.1 ha
    have h2 := ih (fun y hy => hv y (by simp [hy])) h1.2
    unfold cnt at h2 ⊢
    rw [List.countP_cons]
    by_cases q : has l f x = true
    · have : S.countP (has l f) = 0 := by
        rw [List.countP_eq_zero]
        intro y hy q2
        have := has_clash (hv x (by simp)) (hv y (by simp [hy])) q q2
        rw [h1.1 y hy] at this
        exact absurd this (by simp)
      rw [if_pos q]
      omega
    · rw [if_neg q]
      omega
theorem shr_le {m : Nat} {S : List En} (hv : ∀ x ∈ S, Ve m x) (ha : Apart S) : shr S ≤ 32 * m := by
  rw [← tot_is S hv]
  have := sumN_le (n := m) (c := 32) (g := fun l => sumN 32 fun f => cnt S l f) (fun l _ => by have := sumN_le (n := 32) (c := 1) (g := fun f => cnt S l f) (fun f _ => cnt_le hv ha l f); omega)
  unfold tot
  omega
theorem le_dvd {p q : Nat} (hp : okp p = true) (hq : okp q = true) (h : p ≤ q) : p ∣ q := by
  have := (min_dvd hp hq).2
  rwa [Nat.min_eq_left h] at this
theorem shr_ge {m p : Nat} {S : List En} (hv : ∀ x ∈ S, Ve m x) (hp : okp p = true) (hle : ∀ x ∈ S, x.1 ≤ p) (hf : fit S p m = none) : 32 * m ≤ shr S := by
  rw [← tot_is S hv]
  have hp0 : 0 < p := by rcases okp_iff.1 hp with rfl | rfl | rfl | rfl | rfl | rfl <;> omega
  have key : ∀ l f, l < m → f < 32 → 1 ≤ cnt S l f := fun l f hl hf' => by
    have h1 := fit_no hf (l * p + f % p) (by
      have := Nat.mod_lt f hp0
      have : l * p + p ≤ m * p := by rw [← Nat.succ_mul]; exact Nat.mul_le_mul_right p hl
      omega)
    have hd : (l * p + f % p) / p = l := by rw [Nat.mul_comm, Nat.mul_add_div hp0, Nat.div_eq_of_lt (Nat.mod_lt f hp0), Nat.add_zero]
    have hm : (l * p + f % p) % p = f % p := by rw [Nat.mul_comm, Nat.mul_add_mod, Nat.mod_mod]
    have h2 : ¬ (∀ x ∈ S, cl (p, l, f % p) x = false) := fun q => by
      have := free_iff.2 (by rw [hd, hm]; exact q)
      rw [h1] at this
      exact absurd this (by simp)
    have h3 : ∃ x ∈ S, cl (p, l, f % p) x = true := by
      apply Classical.byContradiction
      intro q
      exact h2 fun x hx => by
        cases hc : cl (p, l, f % p) x with
        | false => rfl
        | true => exact absurd ⟨x, hx, hc⟩ q
    obtain ⟨x, hx, hc⟩ := h3
    have hd2 := le_dvd (hv x hx).ok hp (hle x hx)
    unfold cl at hc
    simp only [Nat.min_eq_right (hle x hx)] at hc
    simp at hc
    unfold cnt
    rw [Nat.one_le_iff_ne_zero]
    intro q
    rw [List.countP_eq_zero] at q
    refine q x hx ?_
    unfold has
    simp
    refine ⟨hc.1.symm, ?_⟩
    have := hc.2
    rw [Nat.mod_mod_of_dvd _ hd2, Nat.mod_eq_of_lt (hv x hx).ph] at this
    exact this
  have := sumN_ge (n := m) (c := 32) (g := fun l => sumN 32 fun f => cnt S l f) (fun l hl => by have := sumN_ge (n := 32) (c := 1) (g := fun f => cnt S l f) (fun f hf' => key l f hl hf'); omega)
  unfold tot
  omega
/-- a plan that is being made: tasks H have their berths -/
structure Mk (P : List Int) (m : Nat) (H : List Nat) (B : List Bt) : Prop where
  len : B.length = P.length
  nd : H.Nodup
  lt : ∀ t ∈ H, t < P.length
  ve : ∀ x ∈ sOf P H B, Ve m x
  ap : Apart (sOf P H B)
theorem sOf_snoc {P : List Int} {H : List Nat} {B : List Bt} {t : Nat} {b : Bt} (ht : t ∉ H) (hl : t < B.length) : sOf P (H ++ [t]) (B.set t b) = sOf P H B ++ [(pN P t, b)] := by
  unfold sOf
  rw [List.map_append, List.map_singleton]
  congr 1
  · refine List.map_congr_left fun s hs => ?_
    have : ¬ t = s := fun e => ht (by rw [e]; exact hs)
    simp [List.getD_eq_getElem?_getD, List.getElem?_set, this]
  · simp [List.getD_eq_getElem?_getD, List.getElem?_set, hl]
theorem cand {p m k : Nat} (hp : okp p = true) (h : k < m * p) : Ve m (p, k / p, k % p) := by
  have hp0 : 0 < p := by rcases okp_iff.1 hp with rfl | rfl | rfl | rfl | rfl | rfl <;> omega
  exact ⟨hp, Nat.div_lt_of_lt_mul (by rw [Nat.mul_comm]; exact h), Nat.mod_lt _ hp0⟩
theorem Mk.next {P : List Int} {m : Nat} {H : List Nat} {B : List Bt} (h : Mk P m H B) (hP : okP P) {t k : Nat} (ht : t ∉ H) (hl : t < P.length) (hk : fit (sOf P H B) (pN P t) m = some k) : Mk P m (H ++ [t]) (B.set t (k / pN P t, k % pN P t)) := by
  have hs := sOf_snoc (P := P) (b := (k / pN P t, k % pN P t)) ht (by rw [h.len]; exact hl)
  have hf := fit_is hk
  have hv := cand (hP.at hl).1 hf.1
  refine ⟨by rw [List.length_set, h.len], ?_, ?_, ?_, ?_⟩
  · rw [List.nodup_append]
    exact ⟨h.nd, by simp, fun a ha b hb => by rw [List.mem_singleton.1 hb]; rintro rfl; exact ht ha⟩
  · intro s hs'
    rcases List.mem_append.1 hs' with q | q
    · exact h.lt s q
    · rw [List.mem_singleton.1 q]; exact hl
  · rw [hs]
    intro x hx
    rcases List.mem_append.1 hx with q | q
    · exact h.ve x q
    · rw [List.mem_singleton.1 q]; exact hv
  · unfold Apart
    rw [hs, List.pairwise_append]
    refine ⟨h.ap, by simp, fun x hx y hy => ?_⟩
    rw [List.mem_singleton.1 hy, cl_comm]
    exact free_iff.1 hf.2 x hx
theorem pln_ok {P : List Int} {m : Nat} (hP : okP P) : ∀ (ts H : List Nat) (B C : List Bt), Mk P m H B → (H ++ ts).Nodup → (∀ t ∈ ts, t < P.length) → pln P m ts H B = some C → Mk P m (H ++ ts) C
  | [], H, B, C, h, _, _, e => by
    have : B = C := by simpa [pln] using e
    subst this
    simpa using h
  | t :: ts, H, B, C, h, hn, hl, e => by
    unfold pln at e
    have ht : t ∉ H := fun q => by
      have := (List.nodup_append.1 hn).2.2 t q t (by simp)
      exact this rfl
    split at e
    · simp at e
    · rename_i k hk
      have := pln_ok hP ts (H ++ [t]) _ C (h.next hP ht (hl t (by simp)) hk) (by simpa using hn) (fun s hs => hl s (by simp [hs])) e
      simpa using this
theorem shr_sOf (P : List Int) (H : List Nat) (B : List Bt) : shr (sOf P H B) = (H.map fun t => 32 / pN P t).sum := by
  unfold shr sOf
  rw [List.map_map]
  rfl
theorem pln_no {P : List Int} {m : Nat} (hP : okP P) : ∀ (ts H : List Nat) (B : List Bt), Mk P m H B → (H ++ ts).Nodup → (∀ t ∈ ts, t < P.length) → (H ++ ts).Pairwise (lt2 P) → pln P m ts H B = none → 32 * m < ((H ++ ts).map fun t => 32 / pN P t).sum
  | [], H, B, h, _, _, _, e => by simp [pln] at e
  | t :: ts, H, B, h, hn, hl, hs, e => by
    unfold pln at e
    have ht : t ∉ H := fun q => by
      have := (List.nodup_append.1 hn).2.2 t q t (by simp)
      exact this rfl
    have hp := (hP.at (hl t (by simp))).1
    split at e
    · rename_i hk
      have h1 := shr_ge h.ve hp (fun x hx => by
        unfold sOf at hx
        obtain ⟨s, hs', rfl⟩ := List.mem_map.1 hx
        have := (List.pairwise_append.1 hs).2.2 s hs' t (by simp)
        rcases this with q | q <;> simp <;> omega) hk
      rw [shr_sOf] at h1
      have h2 : 1 ≤ 32 / pN P t := by rcases okp_iff.1 hp with q | q | q | q | q | q <;> rw [q] <;> decide
      rw [List.map_append, List.sum_append, List.map_cons, List.sum_cons]
      omega
    · rename_i k hk
      have := pln_no hP ts (H ++ [t]) _ (h.next hP ht (hl t (by simp)) hk) (by simpa using hn) (fun s hs => hl s (by simp [hs])) (by simpa using hs) e
      simpa using this
def zB (n : Nat) : List Bt := List.replicate n (0, 0)
theorem mk0 (P : List Int) (m : Nat) : Mk P m [] (zB P.length) := ⟨by simp [zB], List.nodup_nil, fun t h => by simp at h, fun x h => by simp [sOf] at h, by simp [Apart, sOf]⟩
/-- the plan that is told -/
def plan (P : List Int) (m : Nat) : Option (List Bt) := pln P m (ord P) [] (zB P.length)
def shareN (P : List Int) : Nat := ((List.range P.length).map fun t => 32 / pN P t).sum
theorem ord_share {P : List Int} (hP : okP P) : ((ord P).map fun t => 32 / pN P t).sum = shareN P := ((ord_perm hP).map _).sum_nat
theorem plan_mk {P : List Int} {m : Nat} (hP : okP P) {B : List Bt} (h : plan P m = some B) : Mk P m (ord P) B := by
  have := pln_ok hP (ord P) [] _ B (mk0 P m) (by simpa using ord_nodup P) (fun t ht => ord_mem ht) h
  simpa using this
theorem kraft_ok {P : List Int} {m : Nat} (hP : okP P) {B : List Bt} (h : plan P m = some B) : shareN P ≤ 32 * m := by
  have hm := plan_mk hP h
  have := shr_le hm.ve hm.ap
  rw [shr_sOf, ord_share hP] at this
  exact this
theorem kraft_no {P : List Int} {m : Nat} (hP : okP P) (h : plan P m = none) : 32 * m < shareN P := by
  have := pln_no hP (ord P) [] _ (mk0 P m) (by simpa using ord_nodup P) (fun t ht => ord_mem ht) (by simpa using ord_srt P) h
  rw [List.nil_append, ord_share hP] at this
  exact this
/-- a plan's berths, task by task -/
def ens (P : List Int) (B : List Bt) : List En := sOf P (List.range P.length) B
theorem plan_ens {P : List Int} {m : Nat} (hP : okP P) {B : List Bt} (h : plan P m = some B) : B.length = P.length ∧ (∀ x ∈ ens P B, Ve m x) ∧ Apart (ens P B) := by
  have hm := plan_mk hP h
  have hp : (ens P B).Perm (sOf P (ord P) B) := ((ord_perm hP).map _).symm
  refine ⟨hm.len, fun x hx => hm.ve x (hp.mem_iff.1 hx), ?_⟩
  exact (hp.pairwise_iff (fun {x y} hxy => by rw [cl_comm]; exact hxy)).2 hm.ap
theorem ens_share {P : List Int} (hP : okP P) {m : Nat} {B : List Bt} (hv : ∀ x ∈ ens P B, Ve m x) (ha : Apart (ens P B)) : shareN P ≤ 32 * m := by
  have := shr_le hv ha
  unfold ens at this
  rw [shr_sOf] at this
  exact this
end Go.Proofs.Ytcenaleladjakab.budget
