/- topo: the plain mathematics of trees that are lists of nodes. No function of the program is walked here. -/
import Derived.Test.YtemlafdmeaobfabRouB
namespace Go.Proofs.Ytemlafdmeaobfab.topo
open Go.Proofs.Ytemlafdmeaobfab.route
set_option linter.unusedVariables false
set_option linter.unusedSimpArgs false

/-- a node: its path, kind, ports, serial -/
abbrev Nd := List Int × Int × Int × Int
def wrg (n : Nd) : Bool := if chk n.1 ≠ 0 then true else if n.2.1 = 1 then (decide (n.2.2.1 < 1) || decide (15 < n.2.2.1) || decide (n.1.length = 6)) else if n.2.1 = 2 ∨ n.2.1 = 3 then decide (n.2.2.1 ≠ 0) else true
/-- a right node -/
def Rgt (n : Nd) : Prop := chk n.1 = 0 ∧ ((n.2.1 = 1 ∧ 1 ≤ n.2.2.1 ∧ n.2.2.1 ≤ 15 ∧ n.1.length < 6) ∨ ((n.2.1 = 2 ∨ n.2.1 = 3) ∧ n.2.2.1 = 0))
theorem wrg_no {n : Nd} : wrg n = false ↔ Rgt n := by
  obtain ⟨p, k, q, s⟩ := n
  unfold wrg Rgt
  simp only
  by_cases h : chk p = 0
  · have := chk_ok h
    by_cases h1 : k = 1
    · subst h1
      simp [h]
      omega
    · by_cases h2 : k = 2 ∨ k = 3
      · simp [h, h1, h2]
      · simp [h, h1, h2]
  · simp [h]
theorem wrg_yes {n : Nd} : wrg n = true ↔ ¬ Rgt n := by rw [← wrg_no]; simp
/-- each ahead of the next -/
def inO : List Nd → Bool
  | [] => true
  | [_] => true
  | x :: y :: t => decide (odr x.1 y.1 < 0) && inO (y :: t)
def Lt (x y : Nd) : Prop := odr x.1 y.1 < 0
theorem Lt.trans {x y z : Nd} (h1 : Lt x y) (h2 : Lt y z) : Lt x z := by
  unfold Lt at *
  have h3 := odr_trans x.1 y.1 z.1 (by omega) (by omega)
  rcases (by omega : odr x.1 z.1 < 0 ∨ odr x.1 z.1 = 0) with q | q
  · exact q
  · have e := (odr_zero _ _).1 q
    rw [e] at h1
    have := odr_neg z.1 y.1
    omega
theorem Lt.ne {x y : Nd} (h : Lt x y) : x.1 ≠ y.1 := fun e => by
  unfold Lt at h
  rw [(odr_zero _ _).2 e] at h
  omega
theorem Lt.anti {x y : Nd} (h1 : Lt x y) (h2 : Lt y x) : False := (h1.trans h2).ne rfl
theorem lt_or {x y : Nd} (h : x.1 ≠ y.1) : Lt x y ∨ Lt y x := by
  unfold Lt
  have h1 := odr_neg x.1 y.1
  have h2 : odr x.1 y.1 ≠ 0 := fun q => h ((odr_zero _ _).1 q)
  omega
theorem inO_iff : ∀ T : List Nd, inO T = true ↔ T.Pairwise Lt
  | [] => by simp [inO]
  | [_] => by simp [inO]
  | x :: y :: t => by
    have ih := inO_iff (y :: t)
    unfold inO
    rw [Bool.and_eq_true, ih, decide_eq_true_iff]
    constructor
    · rintro ⟨h1, h2⟩
      refine List.pairwise_cons.2 ⟨fun z hz => ?_, h2⟩
      rcases List.mem_cons.1 hz with rfl | q
      · exact h1
      · exact Lt.trans h1 ((List.pairwise_cons.1 h2).1 z q)
    · intro h
      obtain ⟨h1, h2⟩ := List.pairwise_cons.1 h
      exact ⟨h1 y (by simp), h2⟩
/-- the first one with that path -/
def fnd (T : List Nd) (p : List Int) : Option Nd := T.find? fun n => decide (n.1 = p)
theorem fnd_some {T : List Nd} {p : List Int} {n : Nd} (h : fnd T p = some n) : n ∈ T ∧ n.1 = p := by
  unfold fnd at h
  exact ⟨List.mem_of_find?_eq_some h, by simpa using List.find?_some h⟩
theorem fnd_none {T : List Nd} {p : List Int} : fnd T p = none ↔ ∀ x ∈ T, x.1 ≠ p := by
  unfold fnd
  rw [List.find?_eq_none]
  simp
theorem path_inj {T : List Nd} (h : T.Pairwise Lt) {x y : Nd} (hx : x ∈ T) (hy : y ∈ T) (e : x.1 = y.1) : x = y := by
  induction T with
  | nil => simp at hx
  | cons a t ih =>
    rw [List.pairwise_cons] at h
    rcases List.mem_cons.1 hx with q | q
    · rcases List.mem_cons.1 hy with r | r
      · rw [q, r]
      · exact absurd (q ▸ e) (h.1 y r).ne
    · rcases List.mem_cons.1 hy with r | r
      · exact absurd (r ▸ e).symm (h.1 x q).ne
      · exact ih h.2 q r
theorem fnd_mem {T : List Nd} (h : T.Pairwise Lt) {n : Nd} (hn : n ∈ T) : fnd T n.1 = some n := by
  cases q : fnd T n.1 with
  | none => exact absurd rfl (fnd_none.1 q n hn)
  | some m =>
    obtain ⟨h1, h2⟩ := fnd_some q
    rw [path_inj h h1 hn h2]
/-- how many ports there are at that path -/
def prt (T : List Nd) (p : List Int) : Int := ((fnd T p).map fun n => n.2.2.1).getD 0
def lst (p : List Int) : Int := p.getD (p.length - 1) 0
def ini (p : List Int) : List Int := p.take (p.length - 1)
def fit (T : List Nd) (n : Nd) : Bool := if n.1.length = 1 then decide (lst n.1 ≤ 4) else decide (lst n.1 ≤ prt T (ini n.1))
def Fit (T : List Nd) (n : Nd) : Prop := (n.1.length = 1 ∧ lst n.1 ≤ 4) ∨ (1 < n.1.length ∧ ∃ h ∈ T, h.1 = ini n.1 ∧ lst n.1 ≤ h.2.2.1)
theorem lst_in {p : List Int} (h : chk p = 0) : 1 ≤ lst p ∧ lst p ≤ 15 := by
  obtain ⟨h1, h2, h3⟩ := chk_ok h
  unfold lst
  rw [List.getD_eq_getElem?_getD, List.getElem?_eq_getElem (by omega)]
  exact h3 _ (List.getElem_mem _)
theorem fit_iff {T : List Nd} (hT : T.Pairwise Lt) {n : Nd} (hn : chk n.1 = 0) : fit T n = true ↔ Fit T n := by
  have h1 := (chk_ok hn).1
  have h2 := lst_in hn
  unfold fit Fit
  by_cases e : n.1.length = 1
  · rw [if_pos e, decide_eq_true_iff]
    constructor
    · intro q; exact .inl ⟨e, q⟩
    · rintro (⟨_, q⟩ | ⟨q, _⟩)
      · exact q
      · omega
  · rw [if_neg e, decide_eq_true_iff]
    unfold prt
    constructor
    · intro q
      cases hf : fnd T (ini n.1) with
      | none => rw [hf] at q; simp at q; omega
      | some m =>
        rw [hf] at q
        obtain ⟨q1, q2⟩ := fnd_some hf
        exact .inr ⟨by omega, m, q1, q2, by simpa using q⟩
    · rintro (⟨q, _⟩ | ⟨_, m, q1, q2, q3⟩)
      · exact absurd q e
      · have := fnd_mem hT q1
        rw [q2] at this
        rw [this]
        simpa using q3
theorem Fit.mono {T U : List Nd} {n : Nd} (h : Fit T n) (hs : ∀ x ∈ T, x ∈ U) : Fit U n := by
  rcases h with q | ⟨q, m, h1, h2⟩
  · exact .inl q
  · exact .inr ⟨q, m, hs m h1, h2⟩
def chkT (T : List Nd) : Int := if 40 < T.length then 2 else if T.any wrg = true then 1 else if inO T = false then 4 else if T.all (fit T) = false then 12 else 0
structure Gd (T : List Nd) : Prop where
  len : T.length ≤ 40
  rgt : ∀ n ∈ T, Rgt n
  srt : T.Pairwise Lt
  fits : ∀ n ∈ T, Fit T n
theorem chkT_ok {T : List Nd} : chkT T = 0 ↔ Gd T := by
  unfold chkT
  constructor
  · intro h
    split at h
    · omega
    split at h
    · omega
    split at h
    · omega
    split at h
    · omega
    rename_i h1 h2 h3 h4
    have hr : ∀ n ∈ T, Rgt n := fun n hn => by
      rw [← wrg_no]
      cases q : wrg n with
      | false => rfl
      | true => exact absurd (List.any_eq_true.2 ⟨n, hn, q⟩) h2
    have hs : T.Pairwise Lt := (inO_iff T).1 (by simpa using h3)
    refine ⟨by omega, hr, hs, fun n hn => (fit_iff hs (hr n hn).1).1 ?_⟩
    have h4 : T.all (fit T) = true := by simpa using h4
    exact List.all_eq_true.1 h4 n hn
  · intro h
    rw [if_neg (by have := h.len; omega), if_neg, if_neg, if_neg]
    · intro q
      have : T.all (fit T) = true := List.all_eq_true.2 fun n hn => (fit_iff h.srt (h.rgt n hn).1).2 (h.fits n hn)
      rw [this] at q
      cases q
    · rw [(inO_iff T).2 h.srt]; simp
    · intro q
      obtain ⟨n, hn, e⟩ := List.any_eq_true.1 q
      rw [wrg_no.2 (h.rgt n hn)] at e
      cases e
theorem chkT_range (T : List Nd) : chkT T = 0 ∨ chkT T = 1 ∨ chkT T = 2 ∨ chkT T = 4 ∨ chkT T = 12 := by
  unfold chkT
  split
  · simp
  split
  · simp
  split
  · simp
  split <;> simp
theorem sorted_eq {M T : List Nd} (h : M.Perm T) (hM : M.Pairwise Lt) (hT : T.Pairwise Lt) : M = T :=
  h.eq_of_pairwise (le := Lt) (fun a b _ _ h1 h2 => absurd (Lt.anti h1 h2) id) hM hT
/-- in its place -/
def ins (n : Nd) : List Nd → List Nd
  | [] => [n]
  | x :: t => if odr x.1 n.1 < 0 then x :: ins n t else n :: x :: t
theorem ins_perm (n : Nd) : ∀ T, (ins n T).Perm (n :: T)
  | [] => List.Perm.refl _
  | x :: t => by
    unfold ins
    split
    · exact ((ins_perm n t).cons x).trans (List.Perm.swap n x t)
    · exact List.Perm.refl _
theorem ins_mem {n x : Nd} {T : List Nd} : x ∈ ins n T ↔ x = n ∨ x ∈ T := by rw [(ins_perm n T).mem_iff, List.mem_cons]
theorem ins_len (n : Nd) (T : List Nd) : (ins n T).length = T.length + 1 := by rw [(ins_perm n T).length_eq]; rfl
theorem ins_srt (n : Nd) : ∀ T : List Nd, T.Pairwise Lt → (∀ x ∈ T, x.1 ≠ n.1) → (ins n T).Pairwise Lt
  | [], _, _ => by simp [ins]
  | x :: t, h, hn => by
    rw [List.pairwise_cons] at h
    unfold ins
    split
    · rename_i q
      rw [List.pairwise_cons]
      refine ⟨fun y hy => ?_, ins_srt n t h.2 fun y hy => hn y (List.mem_cons_of_mem _ hy)⟩
      rcases ins_mem.1 hy with rfl | hy
      · exact q
      · exact h.1 y hy
    · rename_i q
      have hx : Lt n x := by
        rcases lt_or (hn x (by simp)) with r | r
        · exact absurd r q
        · exact r
      rw [List.pairwise_cons, List.pairwise_cons]
      refine ⟨fun y hy => ?_, h⟩
      rcases List.mem_cons.1 hy with rfl | hy
      · exact hx
      · exact hx.trans (h.1 y hy)
theorem ins_at {n : Nd} : ∀ {T : List Nd} {k : Nat}, (∀ x ∈ T.take k, odr x.1 n.1 < 0) → (∀ x, T[k]? = some x → ¬ odr x.1 n.1 < 0) → T.take k ++ n :: T.drop k = ins n T
  | [], k, _, _ => by simp [ins]
  | x :: t, 0, _, h => by
    have := h x rfl
    unfold ins
    rw [if_neg this]
    rfl
  | x :: t, k + 1, h1, h2 => by
    have h0 := h1 x (by simp)
    unfold ins
    rw [if_pos h0, List.take_succ_cons, List.drop_succ_cons, List.cons_append, ins_at (fun y hy => h1 y (by simp [hy])) (fun y hy => h2 y (by simpa using hy))]
/-- what Plug says -/
def plC (T : List Nd) (n : Nd) : Int := if chkT T ≠ 0 then chkT T else if wrg n = true then 1 else if (fnd T n.1).isSome = true then 13 else if fit T n = false then 12 else if T.length = 40 then 2 else 0
def plT (T : List Nd) (n : Nd) : List Nd := if plC T n = 0 then ins n T else []
structure Pl (T : List Nd) (n : Nd) : Prop where
  gd : Gd T
  rgt : Rgt n
  new : ∀ x ∈ T, x.1 ≠ n.1
  fits : Fit T n
theorem plC_ok {T : List Nd} {n : Nd} : plC T n = 0 ↔ Pl T n ∧ T.length < 40 := by
  unfold plC
  constructor
  · intro h
    split at h
    · omega
    split at h
    · omega
    split at h
    · omega
    split at h
    · omega
    split at h
    · omega
    rename_i h1 h2 h3 h4 h5
    have hg : Gd T := chkT_ok.1 (by simpa using h1)
    have hr : Rgt n := wrg_no.1 (by simpa using h2)
    refine ⟨⟨hg, hr, fnd_none.1 ?_, (fit_iff hg.srt hr.1).1 (by simpa using h4)⟩, by have := hg.len; omega⟩
    cases q : fnd T n.1 with
    | none => rfl
    | some m => rw [q] at h3; simp at h3
  · rintro ⟨h, hl⟩
    rw [if_neg (by simp [chkT_ok.2 h.gd]), if_neg (by simp [wrg_no.2 h.rgt]), if_neg (by rw [fnd_none.2 h.new]; simp), if_neg (by rw [(fit_iff h.gd.srt h.rgt.1).2 h.fits]; simp), if_neg (by omega)]
theorem plC_full {T : List Nd} {n : Nd} (h : Pl T n) (hl : T.length = 40) : plC T n = 2 := by
  unfold plC
  rw [if_neg (by simp [chkT_ok.2 h.gd]), if_neg (by simp [wrg_no.2 h.rgt]), if_neg (by rw [fnd_none.2 h.new]; simp), if_neg (by rw [(fit_iff h.gd.srt h.rgt.1).2 h.fits]; simp), if_pos hl]
theorem Pl.gdi {T : List Nd} {n : Nd} (h : Pl T n) (hl : T.length < 40) : Gd (ins n T) where
  len := by rw [ins_len]; omega
  rgt := fun x hx => by
    rcases ins_mem.1 hx with rfl | q
    · exact h.rgt
    · exact h.gd.rgt x q
  srt := ins_srt n T h.gd.srt h.new
  fits := fun x hx => by
    rcases ins_mem.1 hx with rfl | q
    · exact h.fits.mono fun y hy => ins_mem.2 (.inr hy)
    · exact (h.gd.fits x q).mono fun y hy => ins_mem.2 (.inr hy)
theorem pl_right {T : List Nd} {n : Nd} (h : plC T n = 0) : chkT (ins n T) = 0 ∧ fnd (ins n T) n.1 = some n := by
  obtain ⟨hp, hl⟩ := plC_ok.1 h
  exact ⟨chkT_ok.2 (hp.gdi hl), fnd_mem (hp.gdi hl).srt (ins_mem.2 (.inl rfl))⟩
/-- what Unplug says -/
def unC (T : List Nd) (p : List Int) : Int := if chkT T ≠ 0 then chkT T else if (fnd T p).isSome = false then 12 else 0
def lef (T : List Nd) (p : List Int) : List Nd := T.filter fun n => !und n.1 p
def gon (T : List Nd) (p : List Int) : List Nd := T.filter fun n => und n.1 p
theorem unC_ok {T : List Nd} {p : List Int} : unC T p = 0 ↔ Gd T ∧ ∃ n ∈ T, n.1 = p := by
  unfold unC
  constructor
  · intro h
    split at h
    · omega
    split at h
    · omega
    rename_i h1 h2
    refine ⟨chkT_ok.1 (by simpa using h1), ?_⟩
    cases q : fnd T p with
    | none => rw [q] at h2; simp at h2
    | some m => exact ⟨m, fnd_some q⟩
  · rintro ⟨h, n, hn, rfl⟩
    rw [if_neg (by simp [chkT_ok.2 h]), if_neg (by rw [fnd_mem h.srt hn]; simp)]
theorem und_self (p : List Int) : und p p = true := (und_iff p p).2 (List.prefix_refl p)
theorem ini_pre (p : List Int) : ini p <+: p := List.take_prefix _ _
theorem lef_gd {T : List Nd} (h : Gd T) (p : List Int) : Gd (lef T p) where
  len := Nat.le_trans (List.length_filter_le ..) h.len
  rgt := fun x hx => h.rgt x ((List.mem_filter.1 hx).1)
  srt := h.srt.filter _
  fits := fun x hx => by
    obtain ⟨hx, hu⟩ := List.mem_filter.1 hx
    rcases h.fits x hx with q | ⟨q, m, h1, h2, h3⟩
    · exact .inl q
    · refine .inr ⟨q, m, List.mem_filter.2 ⟨h1, ?_⟩, h2, h3⟩
      cases e : und m.1 p with
      | false => rfl
      | true =>
        have : und x.1 p = true := (und_iff _ _).2 (((und_iff _ _).1 e).trans (h2 ▸ ini_pre x.1))
        rw [this] at hu
        cases hu
theorem two_len (T : List Nd) (p : List Int) : (lef T p).length + (gon T p).length = T.length := by
  unfold lef gon
  induction T with
  | nil => rfl
  | cons x t ih => cases h : und x.1 p <;> simp [h] at ih ⊢ <;> omega
theorem un_right {T : List Nd} {p : List Int} (h : unC T p = 0) : chkT (lef T p) = 0 ∧ fnd (lef T p) p = none ∧ (lef T p).length + (gon T p).length = T.length ∧ 0 < (gon T p).length := by
  obtain ⟨hg, n, hn, rfl⟩ := unC_ok.1 h
  refine ⟨chkT_ok.2 (lef_gd hg _), fnd_none.2 fun x hx e => ?_, two_len _ _, ?_⟩
  · have := (List.mem_filter.1 hx).2
    rw [e, und_self] at this
    cases this
  · exact List.length_pos_of_mem (List.mem_filter.2 ⟨hn, und_self _⟩)
/-- whoever is there has all above it there -/
theorem closed {T : List Nd} (h : Gd T) (p : List Int) (hp : 1 ≤ p.length) : ∀ (k : Nat) (x : Nd), x ∈ T → p <+: x.1 → x.1.length = p.length + k → ∃ y ∈ T, y.1 = p
  | 0, x, hx, hq, hl => ⟨x, hx, (hq.eq_of_length (by omega)).symm⟩
  | k + 1, x, hx, hq, hl => by
    rcases h.fits x hx with ⟨q, _⟩ | ⟨q, m, h1, h2, _⟩
    · omega
    · have hi : p <+: ini x.1 := by
        unfold ini
        rw [List.prefix_take_iff]
        exact ⟨hq, by omega⟩
      have hl2 : m.1.length = p.length + k := by rw [h2]; unfold ini; rw [List.length_take]; omega
      exact closed h p hp k m h1 (h2 ▸ hi) hl2
theorem not_under {T : List Nd} {n : Nd} (h : Pl T n) : ∀ x ∈ T, und x.1 n.1 = false := fun x hx => by
  cases e : und x.1 n.1 with
  | false => rfl
  | true =>
    have hq := (und_iff _ _).1 e
    have := hq.length_le
    obtain ⟨y, hy, e2⟩ := closed h.gd n.1 (chk_ok h.rgt.1).1 (x.1.length - n.1.length) x hx hq (by omega)
    exact absurd e2 (h.new y hy)
theorem pl_back {T : List Nd} {n : Nd} (h : plC T n = 0) : unC (ins n T) n.1 = 0 ∧ lef (ins n T) n.1 = T ∧ gon (ins n T) n.1 = [n] := by
  obtain ⟨hp, hl⟩ := plC_ok.1 h
  have hg := hp.gdi hl
  have hu := not_under hp
  refine ⟨unC_ok.2 ⟨hg, n, ins_mem.2 (.inl rfl), rfl⟩, ?_, ?_⟩
  · refine sorted_eq ?_ (hg.srt.filter _) hp.gd.srt
    have := (ins_perm n T).filter fun x => !und x.1 n.1
    refine this.trans ?_
    rw [List.filter_cons_of_neg (by simp [und_self]), List.filter_eq_self.2 fun x hx => by simp [hu x hx]]
  · refine sorted_eq ?_ (hg.srt.filter _) (by simp)
    have := (ins_perm n T).filter fun x => und x.1 n.1
    refine this.trans ?_
    rw [List.filter_cons_of_pos (by simp [und_self]), List.filter_eq_nil_iff.2 fun x hx => by simp [hu x hx]]
/-- two that both may be plugged -/
theorem pl_both {T : List Nd} {m n : Nd} (h1 : plC T m = 0) (h2 : plC T n = 0) (hne : m.1 ≠ n.1) : Pl (ins m T) n := by
  obtain ⟨p1, l1⟩ := plC_ok.1 h1
  obtain ⟨p2, l2⟩ := plC_ok.1 h2
  refine ⟨p1.gdi l1, p2.rgt, fun x hx => ?_, p2.fits.mono fun y hy => ins_mem.2 (.inr hy)⟩
  rcases ins_mem.1 hx with rfl | q
  · exact hne
  · exact p2.new x q
theorem ins_comm {T : List Nd} {m n : Nd} (h1 : plC T m = 0) (h2 : plC T n = 0) (hne : m.1 ≠ n.1) : ins n (ins m T) = ins m (ins n T) := by
  obtain ⟨p1, l1⟩ := plC_ok.1 h1
  obtain ⟨p2, l2⟩ := plC_ok.1 h2
  have a := pl_both h1 h2 hne
  have b := pl_both h2 h1 (Ne.symm hne)
  refine sorted_eq ?_ (ins_srt n _ a.gd.srt a.new) (ins_srt m _ b.gd.srt b.new)
  exact (ins_perm n _).trans (((ins_perm m T).cons n).trans ((List.Perm.swap m n T).trans (((ins_perm n T).symm.cons m).trans (ins_perm m _).symm)))
theorem pl_order {T : List Nd} {m n : Nd} (h1 : plC T m = 0) (h2 : plC T n = 0) (hne : m.1 ≠ n.1) : plC (ins m T) n = plC (ins n T) m ∧ plT (ins m T) n = plT (ins n T) m ∧ (plC (ins m T) n = 0 ∨ (plC (ins m T) n = 2 ∧ T.length = 39)) := by
  have a := pl_both h1 h2 hne
  have b := pl_both h2 h1 (Ne.symm hne)
  have l := (plC_ok.1 h1).2
  unfold plT
  by_cases hl : T.length = 39
  · have e1 := plC_full a (by rw [ins_len]; omega)
    have e2 := plC_full b (by rw [ins_len]; omega)
    rw [e1, e2]
    exact ⟨rfl, rfl, .inr ⟨rfl, hl⟩⟩
  · have e1 := plC_ok.2 ⟨a, by rw [ins_len]; omega⟩
    have e2 := plC_ok.2 ⟨b, by rw [ins_len]; omega⟩
    rw [e1, e2, if_pos rfl, if_pos rfl, ins_comm h1 h2 hne]
    exact ⟨rfl, rfl, .inl rfl⟩
/-- branches that are apart -/
theorem und_apart {x p q : List Int} (h1 : com p q ≠ p.length) (h2 : com p q ≠ q.length) (hp : und x p = true) (hq : und x q = true) : False := by
  rw [und_iff] at hp hq
  rcases Nat.le_total p.length q.length with l | l
  · have : p <+: q := List.prefix_of_prefix_length_le hp hq l
    have e := (und_iff q p).2 this
    unfold und at e
    rw [beq_iff_eq, com_comm] at e
    exact h1 e
  · have : q <+: p := List.prefix_of_prefix_length_le hq hp l
    have e := (und_iff p q).2 this
    unfold und at e
    rw [beq_iff_eq] at e
    exact h2 e
theorem un_apart {T : List Nd} {p q : List Int} (hp : unC T p = 0) (hq : unC T q = 0) (h1 : com p q ≠ p.length) (h2 : com p q ≠ q.length) : unC (lef T p) q = 0 ∧ gon (lef T p) q = gon T q ∧ lef (lef T p) q = lef (lef T q) p := by
  obtain ⟨hg, n, hn, en⟩ := unC_ok.1 hp
  obtain ⟨_, m, hm, em⟩ := unC_ok.1 hq
  refine ⟨unC_ok.2 ⟨lef_gd hg p, m, List.mem_filter.2 ⟨hm, ?_⟩, em⟩, ?_, ?_⟩
  · cases e : und m.1 p with
    | false => rfl
    | true => exact absurd (und_apart h1 h2 e (by rw [em]; exact und_self q)) id
  · unfold gon lef
    rw [List.filter_filter]
    refine List.filter_congr fun x _ => ?_
    cases e : und x.1 q with
    | false => rfl
    | true =>
      cases e2 : und x.1 p with
      | false => rfl
      | true => exact absurd (und_apart h1 h2 e2 e) id
  · unfold lef
    rw [List.filter_filter, List.filter_filter]
    refine List.filter_congr fun x _ => ?_
    rw [Bool.and_comm]
/-- what is gone: its uppermost is the first -/
theorem gon_first {T : List Nd} {p : List Int} (h : unC T p = 0) : ∃ g r, gon T p = g :: r ∧ g.1 = p := by
  obtain ⟨hg, n, hn, rfl⟩ := unC_ok.1 h
  have hm : n ∈ gon T n.1 := List.mem_filter.2 ⟨hn, und_self _⟩
  have hs : (gon T n.1).Pairwise Lt := hg.srt.filter _
  cases q : gon T n.1 with
  | nil => rw [q] at hm; simp at hm
  | cons g r =>
    refine ⟨g, r, rfl, ?_⟩
    rw [q] at hm hs
    rcases List.mem_cons.1 hm with e | e
    · rw [← e]
    · have hlt := (List.pairwise_cons.1 hs).1 n e
      have hgm : g ∈ gon T n.1 := by rw [q]; simp
      have := odr_und n.1 g.1 ((und_iff _ _).1 (List.mem_filter.1 hgm).2)
      unfold Lt at hlt
      have := odr_neg n.1 g.1
      omega
/-- what there is once the first k of them are plugged again -/
def bak (T : List Nd) (p : List Int) (k : Nat) : List Nd := ((gon T p).take k).foldl (fun b n => ins n b) (lef T p)
theorem bak_zero (T : List Nd) (p : List Int) : bak T p 0 = lef T p := by simp [bak]
theorem bak_next {T : List Nd} {p : List Int} {k : Nat} {n : Nd} (h : (gon T p)[k]? = some n) : bak T p (k + 1) = ins n (bak T p k) := by
  obtain ⟨hk, e⟩ := List.getElem?_eq_some_iff.1 h
  unfold bak
  rw [List.take_succ_eq_append_getElem hk, List.foldl_append, e]
  rfl
theorem bak_perm (T : List Nd) (p : List Int) : ∀ k, k ≤ (gon T p).length → (bak T p k).Perm (lef T p ++ (gon T p).take k)
  | 0, _ => by rw [bak_zero]; simp
  | k + 1, h => by
    have hk : k < (gon T p).length := h
    rw [bak_next (List.getElem?_eq_getElem hk), List.take_succ_eq_append_getElem hk, ← List.append_assoc]
    exact (ins_perm _ _).trans (((bak_perm T p k (by omega)).cons _).trans (List.perm_append_singleton _ _).symm)
theorem parent_ahead {T : List Nd} (h : Gd T) {p : List Int} {k : Nat} {n : Nd} (hk : (gon T p)[k]? = some n) : Fit (lef T p ++ (gon T p).take k) n := by
  have hs : (gon T p).Pairwise Lt := h.srt.filter _
  have hn := List.mem_of_getElem? hk
  rcases h.fits n ((List.mem_filter.1 hn).1) with q | ⟨q, m, h1, h2, h3⟩
  · exact .inl q
  · refine .inr ⟨q, m, ?_, h2, h3⟩
    rw [List.mem_append]
    cases e : und m.1 p with
    | false => exact .inl (List.mem_filter.2 ⟨h1, by rw [e]; rfl⟩)
    | true =>
      right
      have hm : m ∈ gon T p := List.mem_filter.2 ⟨h1, e⟩
      have hlt : Lt m n := by
        have h4 := odr_und m.1 n.1 (h2 ▸ ini_pre n.1)
        have h5 : m.1 ≠ n.1 := fun e => by
          have : (ini n.1).length = n.1.length := by rw [← h2, e]
          unfold ini at this
          rw [List.length_take] at this
          omega
        rcases lt_or h5 with r | r
        · exact r
        · unfold Lt at r
          have := odr_neg m.1 n.1
          omega
      obtain ⟨j, hj, ej⟩ := List.getElem_of_mem hm
      obtain ⟨hk', ek⟩ := List.getElem?_eq_some_iff.1 hk
      have hjk : j < k := by
        rcases Nat.lt_trichotomy j k with r | r | r
        · exact r
        · subst r; rw [ej] at ek; subst ek; exact absurd rfl hlt.ne
        · have := List.pairwise_iff_getElem.1 hs k j hk' hj r
          rw [ek, ej] at this
          exact absurd (hlt.anti this) id
      rw [List.mem_take_iff_getElem]
      exact ⟨j, by omega, ej⟩
theorem bak_gd {T : List Nd} (h : Gd T) (p : List Int) : ∀ k, k ≤ (gon T p).length → Gd (bak T p k) ∧ ∀ n, (gon T p)[k]? = some n → plC (bak T p k) n = 0
  | k, hk => by
    have hgd : Gd (bak T p k) := by
      cases k with
      | zero => rw [bak_zero]; exact lef_gd h p
      | succ j =>
        have ih := bak_gd h p j (by omega)
        have hj : j < (gon T p).length := hk
        obtain ⟨q1, q2⟩ := plC_ok.1 (ih.2 _ (List.getElem?_eq_getElem hj))
        rw [bak_next (List.getElem?_eq_getElem hj)]
        exact q1.gdi q2
    refine ⟨hgd, fun n hn => plC_ok.2 ⟨⟨hgd, h.rgt n ((List.mem_filter.1 (List.mem_of_getElem? hn)).1), fun x hx e => ?_, ?_⟩, ?_⟩⟩
    · have hp := (bak_perm T p k hk).mem_iff.1 hx
      have hnT := List.mem_of_getElem? hn
      rcases List.mem_append.1 hp with q | q
      · have := (List.mem_filter.1 q).2
        rw [e, (List.mem_filter.1 hnT).2] at this
        cases this
      · obtain ⟨j, hj, ej⟩ := List.mem_take_iff_getElem.1 q
        obtain ⟨hk', ek⟩ := List.getElem?_eq_some_iff.1 hn
        have hs : (gon T p).Pairwise Lt := h.srt.filter _
        have := List.pairwise_iff_getElem.1 hs j k (by omega) hk' (by omega)
        rw [ej, ek] at this
        exact this.ne e
    · exact (parent_ahead h hn).mono fun x hx => (bak_perm T p k hk).mem_iff.2 hx
    · have hk' := (List.getElem?_eq_some_iff.1 hn).1
      have h1 := (bak_perm T p k hk).length_eq
      rw [List.length_append, List.length_take, Nat.min_eq_left hk] at h1
      have h2 := two_len T p
      have h3 := h.len
      omega
theorem bak_all {T : List Nd} (h : Gd T) (p : List Int) : bak T p (gon T p).length = T := by
  refine sorted_eq ?_ (bak_gd h p _ (Nat.le_refl _)).1.srt h.srt
  refine (bak_perm T p _ (Nat.le_refl _)).trans ?_
  rw [List.take_length]
  unfold lef gon
  have := List.filter_append_perm (fun n : Nd => !und n.1 p) T
  simpa using this
end Go.Proofs.Ytemlafdmeaobfab.topo
