/- desc: the plain mathematics: descriptors, devices, configurations and their texts. No program is named here. -/
import Derived.WalkKit
import Derived.PlainAid
import Derived.Test.YtebaepkghbihkaaLaneM
namespace Go.Proofs.Ytebaepkghbihkaa.desc
open Go.PlainAid Go.Proofs.Ytebaepkghbihkaa.lane

/-- the descriptors of a text, from the front -/
def splitF : Nat → List Int → Int × List (List Int)
  | _, [] => (0, [])
  | 0, _ :: _ => (4, [])
  | k + 1, n :: r =>
    if n < 2 then (4, []) else if ((n :: r).length : Int) < n then (3, [])
    else if (splitF k ((n :: r).drop n.toNat)).1 = 0 then (0, (n :: r).take n.toNat :: (splitF k ((n :: r).drop n.toNat)).2) else splitF k ((n :: r).drop n.toNat)
def splitL (l : List Int) : Int × List (List Int) := splitF l.length l
theorem splitF_err (k : Nat) : ∀ l : List Int, (splitF k l).1 ≠ 0 → (splitF k l).2 = [] := by
  induction k with
  | zero => intro l h; cases l <;> rfl
  | succ k ih =>
    intro l h
    cases l with
    | nil => rfl
    | cons n r =>
      unfold splitF at h ⊢
      by_cases h1 : n < 2
      · rw [if_pos h1]
      · rw [if_neg h1] at h ⊢
        by_cases h2 : ((n :: r).length : Int) < n
        · rw [if_pos h2]
        · rw [if_neg h2] at h ⊢
          by_cases h3 : (splitF k ((n :: r).drop n.toNat)).1 = 0
          · rw [if_pos h3] at h; exact absurd rfl h
          · rw [if_neg h3]; exact ih _ h3
theorem splitF_fuel (k : Nat) : ∀ (j : Nat) (l : List Int), l.length ≤ k → l.length ≤ j → splitF k l = splitF j l := by
  induction k with
  | zero =>
    intro j l h _
    have : l = [] := List.eq_nil_of_length_eq_zero (by omega)
    subst this
    cases j <;> rfl
  | succ k ih =>
    intro j l h hj
    cases l with
    | nil => cases j <;> rfl
    | cons n r =>
      cases j with
      | zero => simp at hj
      | succ j =>
        unfold splitF
        by_cases h1 : n < 2
        · rw [if_pos h1, if_pos h1]
        · have e : ((n :: r).drop n.toNat).length ≤ r.length := by rw [List.length_drop, List.length_cons]; omega
          rw [List.length_cons] at h hj
          rw [ih j ((n :: r).drop n.toNat) (by omega) (by omega)]
theorem split_nil : splitL [] = (0, []) := rfl
theorem split_form (n : Int) (r : List Int) (h : n < 2) : splitL (n :: r) = (4, []) := by
  unfold splitL; rw [List.length_cons, splitF, if_pos h]
theorem split_short (n : Int) (r : List Int) (h : ¬ n < 2) (h2 : ((n :: r).length : Int) < n) : splitL (n :: r) = (3, []) := by
  unfold splitL; rw [List.length_cons, splitF, if_neg h, if_pos h2]
/-- ahead of what follows -/
def ahd (a : List (List Int)) (p : Int × List (List Int)) : Int × List (List Int) := if p.1 = 0 then (0, a ++ p.2) else p
theorem ahd_nil (p : Int × List (List Int)) : ahd [] p = p := by
  unfold ahd
  split
  · rename_i h; obtain ⟨a, b⟩ := p; simp at h; subst h; rfl
  · rfl
theorem ahd_ahd (a b : List (List Int)) (p : Int × List (List Int)) : ahd a (ahd b p) = ahd (a ++ b) p := by
  unfold ahd
  by_cases h : p.1 = 0
  · simp [h]
  · rw [if_neg h, if_neg h, if_neg h]
theorem split_step (n : Int) (r : List Int) (h : ¬ n < 2) (h2 : ¬ ((n :: r).length : Int) < n) :
    splitL (n :: r) = ahd [(n :: r).take n.toNat] (splitL ((n :: r).drop n.toNat)) := by
  have e : ((n :: r).drop n.toNat).length ≤ r.length := by rw [List.length_drop, List.length_cons]; omega
  unfold splitL
  rw [List.length_cons, splitF, if_neg h, if_neg h2, splitF_fuel r.length _ _ e (Nat.le_refl _)]
  rfl
theorem split_err {l : List Int} (h : (splitL l).1 ≠ 0) : (splitL l).2 = [] := splitF_err _ _ h
/-- a piece: its first byte tells its length -/
def piece (p : List Int) : Prop := 2 ≤ p.length ∧ p.getD 0 0 = (p.length : Int)
theorem splitF_pieces (k : Nat) : ∀ l : List Int, (splitF k l).1 = 0 → (splitF k l).2.flatten = l ∧ ∀ p ∈ (splitF k l).2, piece p := by
  induction k with
  | zero => intro l h; cases l with
    | nil => exact ⟨rfl, fun p hp => by simp [splitF] at hp⟩
    | cons n r => simp [splitF] at h
  | succ k ih =>
    intro l h
    cases l with
    | nil => exact ⟨rfl, fun p hp => by simp [splitF] at hp⟩
    | cons n r =>
      unfold splitF at h ⊢
      by_cases h1 : n < 2
      · rw [if_pos h1] at h; simp at h
      · rw [if_neg h1] at h ⊢
        by_cases h2 : ((n :: r).length : Int) < n
        · rw [if_pos h2] at h; simp at h
        · rw [if_neg h2] at h ⊢
          by_cases h3 : (splitF k ((n :: r).drop n.toNat)).1 = 0
          · rw [if_pos h3]
            obtain ⟨i1, i2⟩ := ih _ h3
            refine ⟨by simp only [List.flatten_cons]; rw [i1, List.take_append_drop], fun p hp => ?_⟩
            rcases List.mem_cons.1 hp with rfl | hp
            · have hl : ((n :: r).take n.toNat).length = n.toNat := by rw [List.length_take]; omega
              refine ⟨by omega, ?_⟩
              obtain ⟨m, hm⟩ : ∃ m, n.toNat = m + 1 := ⟨n.toNat - 1, by omega⟩
              rw [hl]
              rw [hm, List.take_succ_cons]
              simp
              omega
            · exact i2 p hp
          · rw [if_neg h3] at h; exact absurd h h3
theorem split_pieces {l : List Int} (h : (splitL l).1 = 0) : (splitL l).2.flatten = l ∧ ∀ p ∈ (splitL l).2, piece p := splitF_pieces _ _ h
theorem split_flatten (ps : List (List Int)) (h : ∀ p ∈ ps, piece p) : splitL ps.flatten = (0, ps) := by
  induction ps with
  | nil => rfl
  | cons p ps ih =>
    obtain ⟨h1, h2⟩ := h p (by simp)
    cases p with
    | nil => simp at h1
    | cons n r =>
      simp at h2
      have e1 : n.toNat = (n :: r).length := by rw [List.length_cons]; omega
      rw [List.flatten_cons, List.cons_append, split_step n (r ++ ps.flatten) (by rw [List.length_cons] at h1; omega) (by rw [List.length_cons, List.length_append]; omega), ← List.cons_append, e1, List.take_left, List.drop_left, ih (fun q hq => h q (by simp [hq]))]
      rfl

/-- a word, the lower byte first -/
def wrd (n : Int) : List Int := [n % 256, n / 256]
structure En where
  ad : Int
  inw : Bool
  kd : Int
  mx : Int
  iv : Int
structure Fc where
  cl : Int
  su : Int
  pr : Int
  nm : Int
  ex : List (List Int)
  en : List En
structure Cf where
  va : Int
  na : Int
  atr : Int
  po : Int
  fs : List Fc
def noC : Cf := ⟨0, 0, 0, 0, []⟩
def byt (n : Int) : Bool := decide (0 ≤ n) && decide (n ≤ 255)
theorem byt_iff (n : Int) : byt n = true ↔ 0 ≤ n ∧ n ≤ 255 := by simp [byt]
def endOk (e : En) : Bool := (decide (1 ≤ e.ad) && decide (e.ad ≤ 15)) && ((decide (0 ≤ e.kd) && decide (e.kd ≤ 3)) && ((decide (1 ≤ e.mx) && decide (e.mx ≤ 64)) && byt e.iv))
theorem endOk_iff (e : En) : endOk e = true ↔ (1 ≤ e.ad ∧ e.ad ≤ 15) ∧ (0 ≤ e.kd ∧ e.kd ≤ 3) ∧ (1 ≤ e.mx ∧ e.mx ≤ 64) ∧ (0 ≤ e.iv ∧ e.iv ≤ 255) := by simp [endOk, byt]
def exOk (x : List Int) : Bool := (decide (2 ≤ x.length) && decide (x.length ≤ 32)) && ((x.getD 0 0 == (x.length : Int)) && decide (6 ≤ x.getD 1 0))
theorem exOk_iff (x : List Int) : exOk x = true ↔ (2 ≤ x.length ∧ x.length ≤ 32) ∧ x.getD 0 0 = (x.length : Int) ∧ 6 ≤ x.getD 1 0 := by
  simp [exOk]
def wayOf (e : En) : Int × Bool := (e.ad, e.inw)
/-- what is wrong with endpoints, some ways being taken -/
def chkE : List (Int × Bool) → List En → Int
  | _, [] => 0
  | tk, e :: r => if endOk e = false then 1 else if tk.contains (wayOf e) = true then 13 else chkE (tk ++ [wayOf e]) r
def headF (f : Fc) : Bool := byt f.cl && (byt f.su && (byt f.pr && byt f.nm))
def chkF (tk : List (Int × Bool)) (f : Fc) : Int :=
  if headF f = false then 1 else if 2 < f.ex.length then 2 else if f.ex.all exOk = false then 1 else if 4 < f.en.length then 2 else chkE tk f.en
def chkFs : List (Int × Bool) → List Fc → Int
  | _, [] => 0
  | tk, f :: r => if chkF tk f = 0 then chkFs (tk ++ f.en.map wayOf) r else chkF tk f
def headC (c : Cf) : Bool := (decide (1 ≤ c.va) && decide (c.va ≤ 255)) && (byt c.na && (byt c.atr && byt c.po))
def chkC (c : Cf) : Int := if headC c = false then 1 else if 4 < c.fs.length then 2 else chkFs [] c.fs
def endL (e : En) : List Int := [7, 5, e.ad + (if e.inw then 128 else 0), e.kd] ++ wrd e.mx ++ [e.iv]
def faceH (i : Int) (f : Fc) : List Int := [9, 4, i, 0, (f.en.length : Int), f.cl, f.su, f.pr, f.nm]
def faceL (i : Int) (f : Fc) : List Int := faceH i f ++ (f.ex.flatten ++ f.en.flatMap endL)
def facesL : Int → List Fc → List Int
  | _, [] => []
  | i, f :: r => faceL i f ++ facesL (i + 1) r
def confH (n k : Int) (c : Cf) : List Int := [9, 2] ++ wrd n ++ [k, c.va, c.na, c.atr, c.po]
def confL (c : Cf) : List Int := confH (9 + ((facesL 0 c.fs).length : Int)) (c.fs.length : Int) c ++ facesL 0 c.fs
/-- the pieces of faces -/
def faceP (i : Int) (f : Fc) : List (List Int) := faceH i f :: (f.ex ++ f.en.map endL)
def facesP : Int → List Fc → List (List Int)
  | _, [] => []
  | i, f :: r => faceP i f ++ facesP (i + 1) r
theorem flatten_faceP (i : Int) (f : Fc) : (faceP i f).flatten = faceL i f := by
  simp [faceP, faceL, List.flatMap]
theorem flatten_facesP (fs : List Fc) : ∀ i : Int, (facesP i fs).flatten = facesL i fs := by
  induction fs with
  | nil => intro i; rfl
  | cons f r ih => intro i; rw [facesP, facesL, List.flatten_append, flatten_faceP, ih]
def confP (c : Cf) : List (List Int) := confH (9 + ((facesL 0 c.fs).length : Int)) (c.fs.length : Int) c :: facesP 0 c.fs
theorem flatten_confP (c : Cf) : (confP c).flatten = confL c := by
  rw [confP, List.flatten_cons, flatten_facesP]; rfl
theorem endL_length (e : En) : (endL e).length = 7 := rfl
theorem endL_piece (e : En) : piece (endL e) := ⟨by rw [endL_length]; omega, rfl⟩
theorem faceH_piece (i : Int) (f : Fc) : piece (faceH i f) := ⟨by simp [faceH], rfl⟩
theorem confH_piece (n k : Int) (c : Cf) : piece (confH n k c) := ⟨by simp [confH, wrd], rfl⟩
/-- the parts of a face that is right -/
structure FOk (f : Fc) : Prop where
  head : (0 ≤ f.cl ∧ f.cl ≤ 255) ∧ (0 ≤ f.su ∧ f.su ≤ 255) ∧ (0 ≤ f.pr ∧ f.pr ≤ 255) ∧ (0 ≤ f.nm ∧ f.nm ≤ 255)
  exl : f.ex.length ≤ 2
  ex : ∀ x ∈ f.ex, exOk x = true
  enl : f.en.length ≤ 4
  en : ∀ e ∈ f.en, endOk e = true
theorem chkE_ok : ∀ (l : List En) (tk : List (Int × Bool)), chkE tk l = 0 → ∀ e ∈ l, endOk e = true := by
  intro l
  induction l with
  | nil => intro tk _ e he; simp at he
  | cons x r ih =>
    intro tk h e he
    unfold chkE at h
    by_cases h1 : endOk x = false
    · rw [if_pos h1] at h; simp at h
    · rw [if_neg h1] at h
      by_cases h2 : tk.contains (wayOf x) = true
      · rw [if_pos h2] at h; simp at h
      · rw [if_neg h2] at h
        rcases List.mem_cons.1 he with rfl | he
        · simpa using h1
        · exact ih _ h e he
theorem chkF_ok {tk : List (Int × Bool)} {f : Fc} (h : chkF tk f = 0) : FOk f := by
  unfold chkF at h
  by_cases h1 : headF f = false
  · rw [if_pos h1] at h; simp at h
  rw [if_neg h1] at h
  by_cases h2 : 2 < f.ex.length
  · rw [if_pos h2] at h; simp at h
  rw [if_neg h2] at h
  by_cases h3 : f.ex.all exOk = false
  · rw [if_pos h3] at h; simp at h
  rw [if_neg h3] at h
  by_cases h4 : 4 < f.en.length
  · rw [if_pos h4] at h; simp at h
  rw [if_neg h4] at h
  have h1' : headF f = true := by simpa using h1
  have h3' : f.ex.all exOk = true := by simpa using h3
  refine ⟨?_, by omega, fun x hx => List.all_eq_true.1 h3' x hx, by omega, chkE_ok _ _ h⟩
  simpa [headF, byt, and_assoc] using h1'
theorem chkFs_ok : ∀ (l : List Fc) (tk : List (Int × Bool)), chkFs tk l = 0 → ∀ f ∈ l, FOk f := by
  intro l
  induction l with
  | nil => intro tk _ e he; simp at he
  | cons x r ih =>
    intro tk h f hf
    unfold chkFs at h
    by_cases h1 : chkF tk x = 0
    · rw [if_pos h1] at h
      rcases List.mem_cons.1 hf with rfl | hf
      · exact chkF_ok h1
      · exact ih _ h f hf
    · rw [if_neg h1] at h; exact absurd h h1
structure COk (c : Cf) : Prop where
  head : (1 ≤ c.va ∧ c.va ≤ 255) ∧ (0 ≤ c.na ∧ c.na ≤ 255) ∧ (0 ≤ c.atr ∧ c.atr ≤ 255) ∧ (0 ≤ c.po ∧ c.po ≤ 255)
  len : c.fs.length ≤ 4
  fs : ∀ f ∈ c.fs, FOk f
theorem chkC_ok {c : Cf} (h : chkC c = 0) : COk c := by
  unfold chkC at h
  by_cases h1 : headC c = false
  · rw [if_pos h1] at h; simp at h
  rw [if_neg h1] at h
  by_cases h2 : 4 < c.fs.length
  · rw [if_pos h2] at h; simp at h
  rw [if_neg h2] at h
  have h1' : headC c = true := by simpa using h1
  exact ⟨by simpa [headC, byt, and_assoc] using h1', by omega, chkFs_ok _ _ h⟩
theorem exOk_piece {x : List Int} (h : exOk x = true) : piece x := by
  obtain ⟨⟨h1, h2⟩, h3, h4⟩ := (exOk_iff x).1 h
  exact ⟨h1, h3⟩
theorem faceP_piece {i : Int} {f : Fc} (h : FOk f) : ∀ p ∈ faceP i f, piece p := by
  intro p hp
  rcases List.mem_cons.1 hp with rfl | hp
  · exact faceH_piece i f
  · rcases List.mem_append.1 hp with hp | hp
    · exact exOk_piece (h.ex p hp)
    · obtain ⟨e, _, rfl⟩ := List.mem_map.1 hp
      exact endL_piece e
theorem facesP_piece : ∀ (l : List Fc) (i : Int), (∀ f ∈ l, FOk f) → ∀ p ∈ facesP i l, piece p := by
  intro l
  induction l with
  | nil => intro i _ p hp; simp [facesP] at hp
  | cons f r ih =>
    intro i h p hp
    rcases List.mem_append.1 hp with hp | hp
    · exact faceP_piece (h f (by simp)) p hp
    · exact ih _ (fun g hg => h g (by simp [hg])) p hp
theorem split_confL {c : Cf} (h : COk c) : splitL (confL c) = (0, confP c) := by
  rw [← flatten_confP]
  refine split_flatten _ fun p hp => ?_
  rcases List.mem_cons.1 hp with rfl | hp
  · exact confH_piece _ _ c
  · exact facesP_piece _ _ h.fs p hp
theorem flatten_le (l : List (List Int)) (n : Nat) (h : ∀ x ∈ l, x.length ≤ n) : l.flatten.length ≤ l.length * n := by
  induction l with
  | nil => simp
  | cons x r ih =>
    have := ih (fun y hy => h y (by simp [hy]))
    have := h x (by simp)
    rw [List.flatten_cons, List.length_append, List.length_cons, Nat.add_mul]; omega
theorem ends_length (l : List En) : (l.flatMap endL).length = 7 * l.length := by
  induction l with
  | nil => rfl
  | cons e r ih => rw [List.flatMap_cons, List.length_append, ih, endL_length, List.length_cons]; omega
theorem faceL_length (i : Int) (f : Fc) : (faceL i f).length = 9 + 7 * f.en.length + f.ex.flatten.length := by
  unfold faceL
  rw [List.length_append, List.length_append, ends_length]
  simp [faceH]; omega
theorem faceL_le {i : Int} {f : Fc} (h : FOk f) : (faceL i f).length ≤ 101 := by
  have h1 := flatten_le f.ex 32 (fun x hx => by have := (exOk_iff x).1 (h.ex x hx); omega)
  have h2 := h.exl
  have h3 := h.enl
  have h4 : f.ex.length * 32 ≤ 64 := by omega
  rw [faceL_length]; omega
theorem facesL_le : ∀ (l : List Fc) (i : Int), (∀ f ∈ l, FOk f) → (facesL i l).length ≤ 101 * l.length := by
  intro l
  induction l with
  | nil => intro i _; simp [facesL]
  | cons f r ih =>
    intro i h
    have h1 := faceL_le (i := i) (h f (by simp))
    have h2 := ih (i + 1) (fun g hg => h g (by simp [hg]))
    rw [facesL, List.length_append, List.length_cons]; omega
theorem confL_length (c : Cf) : (confL c).length = 9 + (facesL 0 c.fs).length := by
  unfold confL; rw [List.length_append]; rfl
theorem confL_le {c : Cf} (h : COk c) : (confL c).length ≤ 413 := by
  have h1 := facesL_le c.fs 0 h.fs
  have h2 := h.len
  rw [confL_length]; omega
end Go.Proofs.Ytebaepkghbihkaa.desc
