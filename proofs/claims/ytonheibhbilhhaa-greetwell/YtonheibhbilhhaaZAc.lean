/- desc: the plain mathematics: descriptors, devices, configurations and their texts. No program is named here. -/
import Derived.WalkKit
import Derived.PlainAid
import Derived.Test.YtonheibhbilhhaaZAa
import Derived.Laws.OwnMore
import Derived.Deep.AppendLies
import Derived.OneCell
import Derived.RegionTactic
import Derived.WalkSmall
import Derived.Test.YtonheibhbilhhaaZAb
namespace Go.Proofs.Ytonheibhbilhhaa.desc
open Go.PlainAid Go.Proofs.Ytonheibhbilhhaa.lane

/-- the descriptors of a text, from the front -/
def splitF : Nat → List Int → Int × List (List Int)
  | _, [] => (0, [])
  | 0, _ :: _ => (4, [])
  | k + 1, n :: r =>
    if n < 2 then (4, []) else if ((n :: r).length : Int) < n then (3, [])
    else if (splitF k ((n :: r).drop n.toNat)).1 = 0 then (0, (n :: r).take n.toNat :: (splitF k ((n :: r).drop n.toNat)).2) else splitF k ((n :: r).drop n.toNat)
def splitL (l : List Int) : Int × List (List Int) := splitF l.length l
theorem splitF_err (k : Nat) : ∀ l : List Int, (splitF k l).1 ≠ 0 → (splitF k l).2 = [] := by
  induction k with
  | zero => intro l h; cases l <;> rfl
  | succ k ih =>
    intro l h
    cases l with
    | nil => rfl
    | cons n r =>
      unfold splitF at h ⊢
      by_cases h1 : n < 2
      · rw [if_pos h1]
      · rw [if_neg h1] at h ⊢
        by_cases h2 : ((n :: r).length : Int) < n
        · rw [if_pos h2]
        · rw [if_neg h2] at h ⊢
          by_cases h3 : (splitF k ((n :: r).drop n.toNat)).1 = 0
          · rw [if_pos h3] at h; exact absurd rfl h
          · rw [if_neg h3]; exact ih _ h3
theorem splitF_fuel (k : Nat) : ∀ (j : Nat) (l : List Int), l.length ≤ k → l.length ≤ j → splitF k l = splitF j l := by
  induction k with
  | zero =>
    intro j l h _
    have : l = [] := List.eq_nil_of_length_eq_zero (by omega)
    subst this
    cases j <;> rfl
  | succ k ih =>
    intro j l h hj
    cases l with
    | nil => cases j <;> rfl
    | cons n r =>
      cases j with
      | zero => simp at hj
      | succ j =>
        unfold splitF
        by_cases h1 : n < 2
        · rw [if_pos h1, if_pos h1]
        · have e : ((n :: r).drop n.toNat).length ≤ r.length := by rw [List.length_drop, List.length_cons]; omega
          rw [List.length_cons] at h hj
          rw [ih j ((n :: r).drop n.toNat) (by omega) (by omega)]
theorem split_nil : splitL [] = (0, []) := rfl
theorem split_form (n : Int) (r : List Int) (h : n < 2) : splitL (n :: r) = (4, []) := by
  unfold splitL; rw [List.length_cons, splitF, if_pos h]
theorem split_short (n : Int) (r : List Int) (h : ¬ n < 2) (h2 : ((n :: r).length : Int) < n) : splitL (n :: r) = (3, []) := by
  unfold splitL; rw [List.length_cons, splitF, if_neg h, if_pos h2]
/-- ahead of what follows -/
def ahd (a : List (List Int)) (p : Int × List (List Int)) : Int × List (List Int) := if p.1 = 0 then (0, a ++ p.2) else p
theorem ahd_nil (p : Int × List (List Int)) : ahd [] p = p := by
  unfold ahd
  split
  · rename_i h; obtain ⟨a, b⟩ := p; simp at h; subst h; rfl
  · rfl
theorem ahd_ahd (a b : List (List Int)) (p : Int × List (List Int)) : ahd a (ahd b p) = ahd (a ++ b) p := by
  unfold ahd
  by_cases h : p.1 = 0
  · simp [h]
  · rw [if_neg h, if_neg h, if_neg h]
theorem split_step (n : Int) (r : List Int) (h : ¬ n < 2) (h2 : ¬ ((n :: r).length : Int) < n) :
    splitL (n :: r) = ahd [(n :: r).take n.toNat] (splitL ((n :: r).drop n.toNat)) := by
  have e : ((n :: r).drop n.toNat).length ≤ r.length := by rw [List.length_drop, List.length_cons]; omega
  unfold splitL
  rw [List.length_cons, splitF, if_neg h, if_neg h2, splitF_fuel r.length _ _ e (Nat.le_refl _)]
  rfl
theorem split_err {l : List Int} (h : (splitL l).1 ≠ 0) : (splitL l).2 = [] := splitF_err _ _ h
/-- a piece: its first byte tells its length -/
def piece (p : List Int) : Prop := 2 ≤ p.length ∧ p.getD 0 0 = (p.length : Int)
theorem splitF_pieces (k : Nat) : ∀ l : List Int, (splitF k l).1 = 0 → (splitF k l).2.flatten = l ∧ ∀ p ∈ (splitF k l).2, piece p := by
  induction k with
  | zero => intro l h; cases l with
    | nil => exact ⟨rfl, fun p hp => by simp [splitF] at hp⟩
    | cons n r => simp [splitF] at h
  | succ k ih =>
    intro l h
    cases l with
    | nil => exact ⟨rfl, fun p hp => by simp [splitF] at hp⟩
    | cons n r =>
      unfold splitF at h ⊢
      by_cases h1 : n < 2
      · rw [if_pos h1] at h; simp at h
      · rw [if_neg h1] at h ⊢
        by_cases h2 : ((n :: r).length : Int) < n
        · rw [if_pos h2] at h; simp at h
        · rw [if_neg h2] at h ⊢
          by_cases h3 : (splitF k ((n :: r).drop n.toNat)).1 = 0
          · rw [if_pos h3]
            obtain ⟨i1, i2⟩ := ih _ h3
            refine ⟨by simp only [List.flatten_cons]; rw [i1, List.take_append_drop], fun p hp => ?_⟩
            rcases List.mem_cons.1 hp with rfl | hp
            · have hl : ((n :: r).take n.toNat).length = n.toNat := by rw [List.length_take]; omega
              refine ⟨by omega, ?_⟩
              obtain ⟨m, hm⟩ : ∃ m, n.toNat = m + 1 := ⟨n.toNat - 1, by omega⟩
              rw [hl]
              rw [hm, List.take_succ_cons]
              simp
              omega
            · exact i2 p hp
          · rw [if_neg h3] at h; exact absurd h h3
theorem split_pieces {l : List Int} (h : (splitL l).1 = 0) : (splitL l).2.flatten = l ∧ ∀ p ∈ (splitL l).2, piece p := splitF_pieces _ _ h
theorem split_flatten (ps : List (List Int)) (h : ∀ p ∈ ps, piece p) : splitL ps.flatten = (0, ps) := by
  induction ps with
  | nil => rfl
  | cons p ps ih =>
    obtain ⟨h1, h2⟩ := h p (by simp)
    cases p with
    | nil => simp at h1
    | cons n r =>
      simp at h2
      have e1 : n.toNat = (n :: r).length := by rw [List.length_cons]; omega
      rw [List.flatten_cons, List.cons_append, split_step n (r ++ ps.flatten) (by rw [List.length_cons] at h1; omega) (by rw [List.length_cons, List.length_append]; omega), ← List.cons_append, e1, List.take_left, List.drop_left, ih (fun q hq => h q (by simp [hq]))]
      rfl

/-- a word, the lower byte first -/
def wrd (n : Int) : List Int := [n % 256, n / 256]
structure En where
  ad : Int
  inw : Bool
  kd : Int
  mx : Int
  iv : Int
structure Fc where
  cl : Int
  su : Int
  pr : Int
  nm : Int
  ex : List (List Int)
  en : List En
structure Cf where
  va : Int
  na : Int
  atr : Int
  po : Int
  fs : List Fc
def noC : Cf := ⟨0, 0, 0, 0, []⟩
def byt (n : Int) : Bool := decide (0 ≤ n) && decide (n ≤ 255)
theorem byt_iff (n : Int) : byt n = true ↔ 0 ≤ n ∧ n ≤ 255 := by simp [byt]
def endOk (e : En) : Bool := (decide (1 ≤ e.ad) && decide (e.ad ≤ 15)) && ((decide (0 ≤ e.kd) && decide (e.kd ≤ 3)) && ((decide (1 ≤ e.mx) && decide (e.mx ≤ 64)) && byt e.iv))
theorem endOk_iff (e : En) : endOk e = true ↔ (1 ≤ e.ad ∧ e.ad ≤ 15) ∧ (0 ≤ e.kd ∧ e.kd ≤ 3) ∧ (1 ≤ e.mx ∧ e.mx ≤ 64) ∧ (0 ≤ e.iv ∧ e.iv ≤ 255) := by simp [endOk, byt]
def exOk (x : List Int) : Bool := (decide (2 ≤ x.length) && decide (x.length ≤ 32)) && ((x.getD 0 0 == (x.length : Int)) && decide (6 ≤ x.getD 1 0))
theorem exOk_iff (x : List Int) : exOk x = true ↔ (2 ≤ x.length ∧ x.length ≤ 32) ∧ x.getD 0 0 = (x.length : Int) ∧ 6 ≤ x.getD 1 0 := by
  simp [exOk]
def wayOf (e : En) : Int × Bool := (e.ad, e.inw)
/-- what is wrong with endpoints, some ways being taken -/
def chkE : List (Int × Bool) → List En → Int
  | _, [] => 0
  | tk, e :: r => if endOk e = false then 1 else if tk.contains (wayOf e) = true then 13 else chkE (tk ++ [wayOf e]) r
def headF (f : Fc) : Bool := byt f.cl && (byt f.su && (byt f.pr && byt f.nm))
def chkF (tk : List (Int × Bool)) (f : Fc) : Int :=
  if headF f = false then 1 else if 2 < f.ex.length then 2 else if f.ex.all exOk = false then 1 else if 4 < f.en.length then 2 else chkE tk f.en
def chkFs : List (Int × Bool) → List Fc → Int
  | _, [] => 0
  | tk, f :: r => if chkF tk f = 0 then chkFs (tk ++ f.en.map wayOf) r else chkF tk f
def headC (c : Cf) : Bool := (decide (1 ≤ c.va) && decide (c.va ≤ 255)) && (byt c.na && (byt c.atr && byt c.po))
def chkC (c : Cf) : Int := if headC c = false then 1 else if 4 < c.fs.length then 2 else chkFs [] c.fs
def endL (e : En) : List Int := [7, 5, e.ad + (if e.inw then 128 else 0), e.kd] ++ wrd e.mx ++ [e.iv]
def faceH (i : Int) (f : Fc) : List Int := [9, 4, i, 0, (f.en.length : Int), f.cl, f.su, f.pr, f.nm]
def faceL (i : Int) (f : Fc) : List Int := faceH i f ++ (f.ex.flatten ++ f.en.flatMap endL)
def facesL : Int → List Fc → List Int
  | _, [] => []
  | i, f :: r => faceL i f ++ facesL (i + 1) r
def confH (n k : Int) (c : Cf) : List Int := [9, 2] ++ wrd n ++ [k, c.va, c.na, c.atr, c.po]
def confL (c : Cf) : List Int := confH (9 + ((facesL 0 c.fs).length : Int)) (c.fs.length : Int) c ++ facesL 0 c.fs
/-- the pieces of faces -/
def faceP (i : Int) (f : Fc) : List (List Int) := faceH i f :: (f.ex ++ f.en.map endL)
def facesP : Int → List Fc → List (List Int)
  | _, [] => []
  | i, f :: r => faceP i f ++ facesP (i + 1) r
theorem flatten_faceP (i : Int) (f : Fc) : (faceP i f).flatten = faceL i f := by
  simp [faceP, faceL, List.flatMap]
theorem flatten_facesP (fs : List Fc) : ∀ i : Int, (facesP i fs).flatten = facesL i fs := by
  induction fs with
  | nil => intro i; rfl
  | cons f r ih => intro i; rw [facesP, facesL, List.flatten_append, flatten_faceP, ih]
def confP (c : Cf) : List (List Int) := confH (9 + ((facesL 0 c.fs).length : Int)) (c.fs.length : Int) c :: facesP 0 c.fs
theorem flatten_confP (c : Cf) : (confP c).flatten = confL c := by
  rw [confP, List.flatten_cons, flatten_facesP]; rfl
theorem endL_length (e : En) : (endL e).length = 7 := rfl
theorem endL_piece (e : En) : piece (endL e) := ⟨by rw [endL_length]; omega, rfl⟩
theorem faceH_piece (i : Int) (f : Fc) : piece (faceH i f) := ⟨by simp [faceH], rfl⟩
theorem confH_piece (n k : Int) (c : Cf) : piece (confH n k c) := ⟨by simp [confH, wrd], rfl⟩
/-- the parts of a face that is right -/
structure FOk (f : Fc) : Prop where
  head : (0 ≤ f.cl ∧ f.cl ≤ 255) ∧ (0 ≤ f.su ∧ f.su ≤ 255) ∧ (0 ≤ f.pr ∧ f.pr ≤ 255) ∧ (0 ≤ f.nm ∧ f.nm ≤ 255)
  exl : f.ex.length ≤ 2
  ex : ∀ x ∈ f.ex, exOk x = true
  enl : f.en.length ≤ 4
  en : ∀ e ∈ f.en, endOk e = true
theorem chkE_ok : ∀ (l : List En) (tk : List (Int × Bool)), chkE tk l = 0 → ∀ e ∈ l, endOk e = true := by
  intro l
  induction l with
  | nil => intro tk _ e he; simp at he
  | cons x r ih =>
    intro tk h e he
    unfold chkE at h
    by_cases h1 : endOk x = false
    · rw [if_pos h1] at h; simp at h
    · rw [if_neg h1] at h
      by_cases h2 : tk.contains (wayOf x) = true
      · rw [if_pos h2] at h; simp at h
      · rw [if_neg h2] at h
        rcases List.mem_cons.1 he with rfl | he
        · simpa using h1
        · exact ih _ h e he
theorem chkF_ok {tk : List (Int × Bool)} {f : Fc} (h : chkF tk f = 0) : FOk f := by
  unfold chkF at h
  by_cases h1 : headF f = false
  · rw [if_pos h1] at h; simp at h
  rw [if_neg h1] at h
  by_cases h2 : 2 < f.ex.length
  · rw [if_pos h2] at h; simp at h
  rw [if_neg h2] at h
  by_cases h3 : f.ex.all exOk = false
  · rw [if_pos h3] at h; simp at h
  rw [if_neg h3] at h
  by_cases h4 : 4 < f.en.length
  · rw [if_pos h4] at h; simp at h
  rw [if_neg h4] at h
  have h1' : headF f = true := by simpa using h1
  have h3' : f.ex.all exOk = true := by simpa using h3
  refine ⟨?_, by omega, fun x hx => List.all_eq_true.1 h3' x hx, by omega, chkE_ok _ _ h⟩
  simpa [headF, byt, and_assoc] using h1'
theorem chkFs_ok : ∀ (l : List Fc) (tk : List (Int × Bool)), chkFs tk l = 0 → ∀ f ∈ l, FOk f := by
  intro l
  induction l with
  | nil => intro tk _ e he; simp at he
  | cons x r ih =>
    intro tk h f hf
    unfold chkFs at h
    by_cases h1 : chkF tk x = 0
    · rw [if_pos h1] at h
      rcases List.mem_cons.1 hf with rfl | hf
      · exact chkF_ok h1
      · exact ih _ h f hf
    · rw [if_neg h1] at h; exact absurd h h1
structure COk (c : Cf) : Prop where
  head : (1 ≤ c.va ∧ c.va ≤ 255) ∧ (0 ≤ c.na ∧ c.na ≤ 255) ∧ (0 ≤ c.atr ∧ c.atr ≤ 255) ∧ (0 ≤ c.po ∧ c.po ≤ 255)
  len : c.fs.length ≤ 4
  fs : ∀ f ∈ c.fs, FOk f
theorem chkC_ok {c : Cf} (h : chkC c = 0) : COk c := by
  unfold chkC at h
  by_cases h1 : headC c = false
  · rw [if_pos h1] at h; simp at h
  rw [if_neg h1] at h
  by_cases h2 : 4 < c.fs.length
  · rw [if_pos h2] at h; simp at h
  rw [if_neg h2] at h
  have h1' : headC c = true := by simpa using h1
  exact ⟨by simpa [headC, byt, and_assoc] using h1', by omega, chkFs_ok _ _ h⟩
theorem exOk_piece {x : List Int} (h : exOk x = true) : piece x := by
  obtain ⟨⟨h1, h2⟩, h3, h4⟩ := (exOk_iff x).1 h
  exact ⟨h1, h3⟩
theorem faceP_piece {i : Int} {f : Fc} (h : FOk f) : ∀ p ∈ faceP i f, piece p := by
  intro p hp
  rcases List.mem_cons.1 hp with rfl | hp
  · exact faceH_piece i f
  · rcases List.mem_append.1 hp with hp | hp
    · exact exOk_piece (h.ex p hp)
    · obtain ⟨e, _, rfl⟩ := List.mem_map.1 hp
      exact endL_piece e
theorem facesP_piece : ∀ (l : List Fc) (i : Int), (∀ f ∈ l, FOk f) → ∀ p ∈ facesP i l, piece p := by
  intro l
  induction l with
  | nil => intro i _ p hp; simp [facesP] at hp
  | cons f r ih =>
    intro i h p hp
    rcases List.mem_append.1 hp with hp | hp
    · exact faceP_piece (h f (by simp)) p hp
    · exact ih _ (fun g hg => h g (by simp [hg])) p hp
theorem split_confL {c : Cf} (h : COk c) : splitL (confL c) = (0, confP c) := by
  rw [← flatten_confP]
  refine split_flatten _ fun p hp => ?_
  rcases List.mem_cons.1 hp with rfl | hp
  · exact confH_piece _ _ c
  · exact facesP_piece _ _ h.fs p hp
theorem flatten_le (l : List (List Int)) (n : Nat) (h : ∀ x ∈ l, x.length ≤ n) : l.flatten.length ≤ l.length * n := by
  induction l with
  | nil => simp
  | cons x r ih =>
    have := ih (fun y hy => h y (by simp [hy]))
    have := h x (by simp)
    rw [List.flatten_cons, List.length_append, List.length_cons, Nat.add_mul]; omega
theorem ends_length (l : List En) : (l.flatMap endL).length = 7 * l.length := by
  induction l with
  | nil => rfl
  | cons e r ih => rw [List.flatMap_cons, List.length_append, ih, endL_length, List.length_cons]; omega
theorem faceL_length (i : Int) (f : Fc) : (faceL i f).length = 9 + 7 * f.en.length + f.ex.flatten.length := by
  unfold faceL
  rw [List.length_append, List.length_append, ends_length]
  simp [faceH]; omega
theorem faceL_le {i : Int} {f : Fc} (h : FOk f) : (faceL i f).length ≤ 101 := by
  have h1 := flatten_le f.ex 32 (fun x hx => by have := (exOk_iff x).1 (h.ex x hx); omega)
  have h2 := h.exl
  have h3 := h.enl
  have h4 : f.ex.length * 32 ≤ 64 := by omega
  rw [faceL_length]; omega
theorem facesL_le : ∀ (l : List Fc) (i : Int), (∀ f ∈ l, FOk f) → (facesL i l).length ≤ 101 * l.length := by
  intro l
  induction l with
  | nil => intro i _; simp [facesL]
  | cons f r ih =>
    intro i h
    have h1 := faceL_le (i := i) (h f (by simp))
    have h2 := ih (i + 1) (fun g hg => h g (by simp [hg]))
    rw [facesL, List.length_append, List.length_cons]; omega
theorem confL_length (c : Cf) : (confL c).length = 9 + (facesL 0 c.fs).length := by
  unfold confL; rw [List.length_append]; rfl
theorem confL_le {c : Cf} (h : COk c) : (confL c).length ≤ 413 := by
  have h1 := facesL_le c.fs 0 h.fs
  have h2 := h.len
  rw [confL_length]; omega
end Go.Proofs.Ytonheibhbilhhaa.desc

/- desc: the plain mathematics: what is read of pieces, by the program's way and by the document's. No program is named here. -/
namespace Go.Proofs.Ytonheibhbilhhaa.desc
open Go.PlainAid Go.Proofs.Ytonheibhbilhhaa.lane

def isP (p : List Int) (n : Nat) (k : Int) : Bool := decide (p.length = n) && (p.getD 1 0 == k)
theorem isP_iff (p : List Int) (n : Nat) (k : Int) : isP p n k = true ↔ p.length = n ∧ p.getD 1 0 = k := by simp [isP]
def faceO (p : List Int) : Fc := ⟨p.getD 5 0, p.getD 6 0, p.getD 7 0, p.getD 8 0, [], []⟩
def endO (p : List Int) : En := ⟨p.getD 2 0 % 128, decide (128 ≤ p.getD 2 0), p.getD 3 0, p.getD 4 0 + 256 * p.getD 5 0, p.getD 6 0⟩
/-- faces: those ahead, and the last one -/
def toFs : Option (List Fc × Fc) → List Fc
  | none => []
  | some (d, f) => d ++ [f]
def addE (f : Fc) (e : En) : Fc := ⟨f.cl, f.su, f.pr, f.nm, f.ex, f.en ++ [e]⟩
def addX (f : Fc) (x : List Int) : Fc := ⟨f.cl, f.su, f.pr, f.nm, f.ex ++ [x], f.en⟩
def stepP (q : Option (List Fc × Fc)) (p : List Int) : Option (Option (List Fc × Fc)) :=
  if isP p 9 4 = true then some (some (toFs q, faceO p)) else
  match q with
  | none => none
  | some (d, f) => if isP p 7 5 = true then some (some (d, addE f (endO p))) else some (some (d, addX f p))
def foldP : Option (List Fc × Fc) → List (List Int) → Option (List Fc)
  | q, [] => some (toFs q)
  | q, p :: r => match stepP q p with
    | none => none
    | some q' => foldP q' r
def confO : List (List Int) → Option Cf
  | [] => none
  | h :: r => if h.length = 9 then match foldP none r with
      | none => none
      | some fs => some ⟨h.getD 5 0, h.getD 6 0, h.getD 7 0, h.getD 8 0, fs⟩
    else none

theorem endO_endL {e : En} (h : endOk e = true) : endO (endL e) = e := by
  obtain ⟨⟨h1, h2⟩, ⟨h3, h4⟩, ⟨h5, h6⟩, h7, h8⟩ := (endOk_iff e).1 h
  obtain ⟨ad, inw, kd, mx, iv⟩ := e
  simp only at h1 h2 h3 h4 h5 h6 h7 h8
  cases inw
  · have e1 : (ad + 0) % 128 = ad := by omega
    have e2 : decide (128 ≤ ad + 0) = false := by simp; omega
    have e3 : mx % 256 + 256 * (mx / 256) = mx := by omega
    simp only [endO, endL, wrd, List.cons_append, List.nil_append, List.getD, List.getElem?_cons_succ, List.getElem?_cons_zero, Option.getD_some, Bool.false_eq_true, if_false]
    rw [e1, e2, e3]
  · have e1 : (ad + 128) % 128 = ad := by omega
    have e2 : decide (128 ≤ ad + 128) = true := by simp; omega
    have e3 : mx % 256 + 256 * (mx / 256) = mx := by omega
    simp only [endO, endL, wrd, List.cons_append, List.nil_append, List.getD, List.getElem?_cons_succ, List.getElem?_cons_zero, Option.getD_some, if_true]
    rw [e1, e2, e3]
theorem endL_isP (e : En) : isP (endL e) 7 5 = true := rfl
theorem endL_not (e : En) : isP (endL e) 9 4 = false := rfl
theorem faceH_isP (i : Int) (f : Fc) : isP (faceH i f) 9 4 = true := rfl
theorem exOk_not {x : List Int} (h : exOk x = true) : isP x 9 4 = false ∧ isP x 7 5 = false := by
  obtain ⟨_, _, h4⟩ := (exOk_iff x).1 h
  have e1 : (x.getD 1 0 == 4) = false := by rw [beq_eq_false_iff_ne]; omega
  have e2 : (x.getD 1 0 == 5) = false := by rw [beq_eq_false_iff_ne]; omega
  unfold isP
  rw [e1, e2]
  simp
theorem fold_ex (xs : List (List Int)) : ∀ (d : List Fc) (f : Fc) (r : List (List Int)), (∀ x ∈ xs, exOk x = true) →
    foldP (some (d, f)) (xs ++ r) = foldP (some (d, ⟨f.cl, f.su, f.pr, f.nm, f.ex ++ xs, f.en⟩)) r := by
  induction xs with
  | nil => intro d f r _; rw [List.append_nil, List.nil_append]
  | cons x xs ih =>
    intro d f r h
    obtain ⟨e1, e2⟩ := exOk_not (h x (by simp))
    have hs : stepP (some (d, f)) x = some (some (d, addX f x)) := by
      unfold stepP; rw [e1, e2]; rfl
    rw [List.cons_append, foldP, hs]
    show foldP (some (d, addX f x)) (xs ++ r) = _
    rw [ih d (addX f x) r (fun y hy => h y (by simp [hy]))]
    simp [addX]
theorem fold_en (es : List En) : ∀ (d : List Fc) (f : Fc) (r : List (List Int)), (∀ e ∈ es, endOk e = true) →
    foldP (some (d, f)) (es.map endL ++ r) = foldP (some (d, ⟨f.cl, f.su, f.pr, f.nm, f.ex, f.en ++ es⟩)) r := by
  induction es with
  | nil => intro d f r _; rw [List.append_nil, List.map_nil, List.nil_append]
  | cons x xs ih =>
    intro d f r h
    have hs : stepP (some (d, f)) (endL x) = some (some (d, addE f x)) := by
      unfold stepP; rw [endL_not, endL_isP, endO_endL (h x (by simp))]; rfl
    rw [List.map_cons, List.cons_append, foldP, hs]
    show foldP (some (d, addE f x)) (xs.map endL ++ r) = _
    rw [ih d (addE f x) r (fun y hy => h y (by simp [hy]))]
    simp [addE]
theorem fold_face (i : Int) (f : Fc) (h : FOk f) (q : Option (List Fc × Fc)) (r : List (List Int)) : foldP q (faceP i f ++ r) = foldP (some (toFs q, f)) r := by
  have hs : stepP q (faceH i f) = some (some (toFs q, ⟨f.cl, f.su, f.pr, f.nm, [], []⟩)) := by
    unfold stepP; rw [faceH_isP]; rfl
  rw [faceP, List.cons_append, foldP, hs]
  show foldP (some (toFs q, ⟨f.cl, f.su, f.pr, f.nm, [], []⟩)) _ = _
  rw [List.append_assoc, fold_ex _ _ _ _ h.ex, fold_en _ _ _ _ h.en]
  simp
theorem fold_faces (l : List Fc) : ∀ (i : Int) (q : Option (List Fc × Fc)), (∀ f ∈ l, FOk f) → foldP q (facesP i l) = some (toFs q ++ l) := by
  induction l with
  | nil => intro i q _; rw [facesP, foldP, List.append_nil]
  | cons f r ih =>
    intro i q h
    rw [facesP, fold_face i f (h f (by simp)), ih _ _ (fun g hg => h g (by simp [hg]))]
    simp [toFs]
theorem confO_confP {c : Cf} (h : COk c) : confO (confP c) = some c := by
  have e : (confH (9 + ((facesL 0 c.fs).length : Int)) (c.fs.length : Int) c).length = 9 := rfl
  rw [confP, confO, if_pos e, fold_faces _ _ _ h.fs]
  simp only [toFs, List.nil_append]
  rfl
/-- c is the one whose text is l -/
def isT (l : List Int) (c : Cf) : Prop := chkC c = 0 ∧ confL c = l
theorem isT_conf {l : List Int} {c : Cf} (h : isT l c) : confO (splitL l).2 = some c := by
  rw [← h.2, split_confL (chkC_ok h.1)]
  exact confO_confP (chkC_ok h.1)
theorem isT_one {l : List Int} {c c' : Cf} (h : isT l c) (h' : isT l c') : c = c' := by
  have := (isT_conf h).symm.trans (isT_conf h')
  injection this

/-- the document's way: endpoints, other pieces, a face, faces -/
def refEnds : Nat → List (List Int) → Option (List En × List (List Int))
  | 0, l => some ([], l)
  | _ + 1, [] => none
  | n + 1, p :: r => if isP p 7 5 = true then match refEnds n r with
      | none => none
      | some (es, t) => some (endO p :: es, t)
    else none
def refEx : List (List Int) → List (List Int) × List (List Int)
  | [] => ([], [])
  | p :: r => if 5 < p.getD 1 0 then (p :: (refEx r).1, (refEx r).2) else ([], p :: r)
def faceB (i : Int) (h : List Int) : Bool := isP h 9 4 && (h.getD 2 0 == i && h.getD 3 0 == 0)
theorem faceB_iff (i : Int) (h : List Int) : faceB i h = true ↔ (h.length = 9 ∧ h.getD 1 0 = 4) ∧ h.getD 2 0 = i ∧ h.getD 3 0 = 0 := by
  simp [faceB, isP]
def refFace (i : Int) : List (List Int) → Option (Fc × List (List Int))
  | [] => none
  | h :: r => if faceB i h = true then match refEnds (h.getD 4 0).toNat (refEx r).2 with
      | none => none
      | some (es, t) => some (⟨h.getD 5 0, h.getD 6 0, h.getD 7 0, h.getD 8 0, (refEx r).1, es⟩, t)
    else none
def refFaces : Nat → Int → List (List Int) → Option (List Fc × List (List Int))
  | 0, _, l => some ([], l)
  | n + 1, i, l => match refFace i l with
    | none => none
    | some (f, t) => match refFaces n (i + 1) t with
      | none => none
      | some (fs, u) => some (f :: fs, u)
def confB (len : Int) (h : List Int) : Bool := isP h 9 2 && ((h.getD 2 0 + 256 * h.getD 3 0 == len) && decide (h.getD 4 0 ≤ 4))
theorem confB_iff (len : Int) (h : List Int) : confB len h = true ↔ (h.length = 9 ∧ h.getD 1 0 = 2) ∧ h.getD 2 0 + 256 * h.getD 3 0 = len ∧ h.getD 4 0 ≤ 4 := by
  simp [confB, isP]
def refC (len : Int) : List (List Int) → Option (Cf × List (List Int))
  | [] => none
  | h :: r => if confB len h = true then match refFaces (h.getD 4 0).toNat 0 r with
      | none => none
      | some (fs, t) => some (⟨h.getD 5 0, h.getD 6 0, h.getD 7 0, h.getD 8 0, fs⟩, t)
    else none

theorem refEx_ex (xs : List (List Int)) (h : ∀ x ∈ xs, exOk x = true) (r : List (List Int)) (hr : ∀ p t, r = p :: t → ¬ 5 < p.getD 1 0) : refEx (xs ++ r) = (xs, r) := by
  induction xs with
  | nil =>
    cases r with
    | nil => rfl
    | cons p t => rw [List.nil_append, refEx, if_neg (hr p t rfl)]
  | cons x xs ih =>
    obtain ⟨_, _, h4⟩ := (exOk_iff x).1 (h x (by simp))
    rw [List.cons_append, refEx, if_pos (by omega), ih (fun y hy => h y (by simp [hy]))]
theorem refEnds_en (es : List En) (h : ∀ e ∈ es, endOk e = true) (r : List (List Int)) : refEnds es.length (es.map endL ++ r) = some (es, r) := by
  induction es with
  | nil => rfl
  | cons x xs ih =>
    rw [List.length_cons, List.map_cons, List.cons_append, refEnds, if_pos (endL_isP x), ih (fun y hy => h y (by simp [hy])), endO_endL (h x (by simp))]
theorem head_faces (l : List Fc) (i : Int) : ∀ p t, facesP i l = p :: t → ¬ 5 < p.getD 1 0 := by
  intro p t h
  cases l with
  | nil => simp [facesP] at h
  | cons f r =>
    rw [facesP, faceP, List.cons_append] at h
    injection h with h1 h2
    rw [← h1]
    simp [faceH]
theorem refFace_face (i : Int) (f : Fc) (h : FOk f) (r : List (List Int)) (hr : ∀ p t, r = p :: t → ¬ 5 < p.getD 1 0) : refFace i (faceP i f ++ r) = some (f, r) := by
  have hb : faceB i (faceH i f) = true := (faceB_iff _ _).2 ⟨⟨rfl, rfl⟩, rfl, rfl⟩
  have hx : refEx (f.ex ++ f.en.map endL ++ r) = (f.ex, f.en.map endL ++ r) := by
    rw [List.append_assoc]
    refine refEx_ex _ h.ex _ fun p t hp => ?_
    cases he : f.en with
    | nil => rw [he, List.map_nil, List.nil_append] at hp; exact hr p t hp
    | cons e es =>
      rw [he, List.map_cons, List.cons_append] at hp
      injection hp with h1 h2
      rw [← h1]
      simp [endL]
  have hn : ((faceH i f).getD 4 0).toNat = f.en.length := by simp [faceH]
  rw [faceP, List.cons_append, refFace, if_pos hb, hx, hn, refEnds_en _ h.en]
  rfl
theorem refFaces_faces (l : List Fc) : ∀ i : Int, (∀ f ∈ l, FOk f) → refFaces l.length i (facesP i l) = some (l, []) := by
  induction l with
  | nil => intro i _; rfl
  | cons f r ih =>
    intro i h
    rw [List.length_cons, facesP, refFaces, refFace_face i f (h f (by simp)) _ (head_faces r (i + 1))]
    simp only
    rw [ih (i + 1) (fun g hg => h g (by simp [hg]))]
theorem refC_confP {c : Cf} (h : COk c) : refC ((confL c).length : Int) (confP c) = some (c, []) := by
  have hl := confL_length c
  have hle := confL_le h
  have hb : confB ((confL c).length : Int) (confH (9 + ((facesL 0 c.fs).length : Int)) (c.fs.length : Int) c) = true := by
    refine (confB_iff _ _).2 ⟨⟨rfl, rfl⟩, ?_, ?_⟩
    · simp only [confH, wrd, List.cons_append, List.nil_append, List.getD, List.getElem?_cons_succ, List.getElem?_cons_zero, Option.getD_some]
      omega
    · simp only [confH, wrd, List.cons_append, List.nil_append, List.getD, List.getElem?_cons_succ, List.getElem?_cons_zero, Option.getD_some]
      have := h.len
      omega
  have hn : ((confH (9 + ((facesL 0 c.fs).length : Int)) (c.fs.length : Int) c).getD 4 0).toNat = c.fs.length := by
    simp only [confH, wrd, List.cons_append, List.nil_append, List.getD, List.getElem?_cons_succ, List.getElem?_cons_zero, Option.getD_some]
    omega
  rw [confP, refC, if_pos hb, hn, refFaces_faces _ _ h.fs]
  rfl

theorem seven {p : List Int} (h : p.length = 7) : ∃ a0 a1 a2 a3 a4 a5 a6, p = [a0, a1, a2, a3, a4, a5, a6] := by
  match p, h with
  | [a0, a1, a2, a3, a4, a5, a6], _ => exact ⟨a0, a1, a2, a3, a4, a5, a6, rfl⟩
theorem nine {p : List Int} (h : p.length = 9) : ∃ a0 a1 a2 a3 a4 a5 a6 a7 a8, p = [a0, a1, a2, a3, a4, a5, a6, a7, a8] := by
  match p, h with
  | [a0, a1, a2, a3, a4, a5, a6, a7, a8], _ => exact ⟨a0, a1, a2, a3, a4, a5, a6, a7, a8, rfl⟩
theorem endL_endO {p : List Int} (h : isP p 7 5 = true) (hp : piece p) (hb : Byt p) : endL (endO p) = p := by
  obtain ⟨h1, h2⟩ := (isP_iff _ _ _).1 h
  obtain ⟨a0, a1, a2, a3, a4, a5, a6, rfl⟩ := seven h1
  have h3 := hp.2
  have b2 := hb a2 (by simp)
  have b4 := hb a4 (by simp)
  have b5 := hb a5 (by simp)
  simp only [List.getD, List.getElem?_cons_succ, List.getElem?_cons_zero, Option.getD_some, List.length_cons, List.length_nil] at h2 h3
  simp only [endL, endO, wrd, List.cons_append, List.nil_append, List.getD, List.getElem?_cons_succ, List.getElem?_cons_zero, Option.getD_some]
  have e2 : (a4 + 256 * a5) % 256 = a4 := by omega
  have e3 : (a4 + 256 * a5) / 256 = a5 := by omega
  have e1 : a2 % 128 + (if decide (128 ≤ a2) = true then 128 else 0) = a2 := by
    by_cases h : 128 ≤ a2
    · rw [decide_eq_true h, if_pos rfl]; omega
    · rw [decide_eq_false h, if_neg (by simp)]; omega
  have e4 : ([7, 5, a2 % 128 + (if decide (128 ≤ a2) = true then 128 else 0), a3, (a4 + 256 * a5) % 256, (a4 + 256 * a5) / 256, a6] : List Int) = [a0, a1, a2, a3, a4, a5, a6] := by
    rw [e1, e2, e3, h2, h3]; rfl
  exact e4
/-- pieces that are bytes -/
def PB (l : List (List Int)) : Prop := ∀ p ∈ l, piece p ∧ Byt p
theorem PB.tail {p : List Int} {l : List (List Int)} (h : PB (p :: l)) : PB l := fun q hq => h q (by simp [hq])
theorem refEnds_back (n : Nat) : ∀ (l : List (List Int)) (es : List En) (t : List (List Int)), PB l → refEnds n l = some (es, t) → es.length = n ∧ l = es.map endL ++ t := by
  induction n with
  | zero => intro l es t _ h; rw [refEnds] at h; injection h with h; injection h with h1 h2; subst h1 h2; exact ⟨rfl, rfl⟩
  | succ n ih =>
    intro l es t hl h
    cases l with
    | nil => rw [refEnds] at h; cases h
    | cons p r =>
      rw [refEnds] at h
      by_cases hp : isP p 7 5 = true
      · rw [if_pos hp] at h
        cases hr : refEnds n r with
        | none => rw [hr] at h; cases h
        | some q =>
          obtain ⟨es', t'⟩ := q
          rw [hr] at h
          injection h with h
          injection h with h1 h2
          subst h1 h2
          obtain ⟨i1, i2⟩ := ih r es' t' hl.tail hr
          obtain ⟨g1, g2⟩ := hl p (by simp)
          refine ⟨by rw [List.length_cons, i1], ?_⟩
          rw [List.map_cons, endL_endO hp g1 g2, List.cons_append, ← i2]
      · rw [if_neg hp] at h; cases h
theorem refEx_back (l : List (List Int)) : l = (refEx l).1 ++ (refEx l).2 := by
  induction l with
  | nil => rfl
  | cons p r ih =>
    rw [refEx]
    split
    · show p :: r = p :: ((refEx r).1 ++ (refEx r).2)
      rw [← ih]
    · rfl
theorem PB.part {a b : List (List Int)} (h : PB (a ++ b)) : PB b := fun q hq => h q (List.mem_append_right _ hq)
theorem refFace_back {i : Int} {l : List (List Int)} {f : Fc} {t : List (List Int)} (hl : PB l) (h : refFace i l = some (f, t)) : l = faceP i f ++ t := by
  cases l with
  | nil => rw [refFace] at h; cases h
  | cons p r =>
    rw [refFace] at h
    by_cases hp : faceB i p = true
    · rw [if_pos hp] at h
      cases hr : refEnds (p.getD 4 0).toNat (refEx r).2 with
      | none => rw [hr] at h; cases h
      | some q =>
        obtain ⟨es', t'⟩ := q
        rw [hr] at h
        injection h with h
        injection h with h1 h2
        subst h1 h2
        have hb := refEx_back r
        have hpb : PB (refEx r).2 := by
          have := hl.tail
          rw [hb] at this
          exact this.part
        obtain ⟨i1, i2⟩ := refEnds_back _ _ _ _ hpb hr
        obtain ⟨g1, g2⟩ := hl p (by simp)
        obtain ⟨⟨k1, k2⟩, k3, k4⟩ := (faceB_iff _ _).1 hp
        obtain ⟨a0, a1, a2, a3, a4, a5, a6, a7, a8, rfl⟩ := nine k1
        have h3 := g1.2
        have b4 := g2 a4 (by simp)
        simp only [List.getD, List.getElem?_cons_succ, List.getElem?_cons_zero, Option.getD_some, List.length_cons, List.length_nil] at k2 k3 k4 h3 i1
        have e : faceH i (⟨a5, a6, a7, a8, (refEx r).1, es'⟩ : Fc) = [a0, a1, a2, a3, a4, a5, a6, a7, a8] := by
          simp only [faceH]
          rw [k2, k3, k4, h3, i1]
          have : (a4.toNat : Int) = a4 := by omega
          rw [this]
          rfl
        show _ = faceP i (⟨a5, a6, a7, a8, (refEx r).1, es'⟩ : Fc) ++ t'
        rw [faceP, e, List.cons_append]
        congr 1
        show r = ((refEx r).1 ++ es'.map endL) ++ t'
        rw [List.append_assoc, ← i2, ← hb]
    · rw [if_neg hp] at h; cases h
theorem refFaces_back (n : Nat) : ∀ (i : Int) (l : List (List Int)) (fs : List Fc) (t : List (List Int)), PB l → refFaces n i l = some (fs, t) → fs.length = n ∧ l = facesP i fs ++ t := by
  induction n with
  | zero => intro i l fs t _ h; rw [refFaces] at h; injection h with h; injection h with h1 h2; subst h1 h2; exact ⟨rfl, rfl⟩
  | succ n ih =>
    intro i l fs t hl h
    rw [refFaces] at h
    cases hf : refFace i l with
    | none => rw [hf] at h; cases h
    | some q =>
      obtain ⟨f, r⟩ := q
      rw [hf] at h
      simp only at h
      have e := refFace_back hl hf
      cases hr : refFaces n (i + 1) r with
      | none => rw [hr] at h; cases h
      | some q =>
        obtain ⟨fs', t'⟩ := q
        rw [hr] at h
        injection h with h
        injection h with h1 h2
        subst h1 h2
        have hpb : PB r := by rw [e] at hl; exact hl.part
        obtain ⟨i1, i2⟩ := ih _ _ _ _ hpb hr
        refine ⟨by rw [List.length_cons, i1], ?_⟩
        rw [facesP, List.append_assoc, ← i2, ← e]
theorem refC_back {l : List (List Int)} {c : Cf} (hl : PB l) (h : refC (l.flatten.length : Int) l = some (c, [])) : confL c = l.flatten := by
  cases l with
  | nil => rw [refC] at h; cases h
  | cons p r =>
    rw [refC] at h
    by_cases hp : confB (((p :: r).flatten.length : Nat) : Int) p = true
    · rw [if_pos hp] at h
      cases hr : refFaces (p.getD 4 0).toNat 0 r with
      | none => rw [hr] at h; cases h
      | some q =>
        obtain ⟨fs', t'⟩ := q
        rw [hr] at h
        injection h with h
        injection h with h1 h2
        subst h1 h2
        obtain ⟨i1, i2⟩ := refFaces_back _ _ _ _ _ hl.tail hr
        obtain ⟨g1, g2⟩ := hl p (by simp)
        obtain ⟨⟨k1, k2⟩, k3, k4⟩ := (confB_iff _ _).1 hp
        have hfl : r.flatten = facesL 0 fs' := by
          rw [i2, List.append_nil, flatten_facesP]
        rw [List.flatten_cons, List.length_append, hfl] at k3
        rw [List.flatten_cons, hfl]
        obtain ⟨a0, a1, a2, a3, a4, a5, a6, a7, a8, rfl⟩ := nine k1
        have h3 := g1.2
        have b2 := g2 a2 (by simp)
        have b3 := g2 a3 (by simp)
        have b4 := g2 a4 (by simp)
        simp only [List.getD, List.getElem?_cons_succ, List.getElem?_cons_zero, Option.getD_some, List.length_cons, List.length_nil] at k2 k3 k4 h3 i1
        unfold confL
        congr 1
        simp only [confH, wrd, List.cons_append, List.nil_append, List.getD, List.getElem?_cons_succ, List.getElem?_cons_zero, Option.getD_some]
        have e1 : (9 + ((facesL 0 fs').length : Int)) % 256 = a2 := by omega
        have e2 : (9 + ((facesL 0 fs').length : Int)) / 256 = a3 := by omega
        have e3 : (fs'.length : Int) = a4 := by omega
        rw [e1, e2, e3, k2, h3]
        rfl
    · rw [if_neg hp] at h; cases h
end Go.Proofs.Ytonheibhbilhhaa.desc

/- desc: rows of texts that the call made; what Split answers. -/
namespace Go.Proofs.Ytonheibhbilhhaa.desc
open Go.RowKit Go.PlainAid Go.Proofs.Ytonheibhbilhhaa.lane
set_option linter.unusedVariables false

theorem bsq {w w1 w2 : World} (h1 : Below w.heap.size w w1) (h2 : Below w1.heap.size w1 w2) : Below w.heap.size w w2 := h1.trans (h2.mono h1.size)
theorem balloc (w : World) (o : Obj) : Below w.heap.size w (w.alloc o) := (Below.refl _ _).alloc (Nat.le_refl _) _
theorem grown_below {w u : World} (hb : Below w.heap.size w u) : w.grownBy u none := ⟨hb.os, hb.tape, hb.output, hb.size, fun k hk _ => hb.block k hk⟩
theorem own_below {w u : World} {B : Nat} {e : TypeId} {s : Nat} {v : Value} {n : Nat} {xs : List Value} (h : w.ownsRow B e s v n xs) (hb : Below w.heap.size w u) : u.ownsRow B e s v n xs := by
  cases hv : v.ownBlock with
  | none => exact World.ownsRow.kept h (grown_below hb) (.inl hv)
  | some k => exact World.ownsRow.kept h (grown_below hb) (.inr (by rw [hv]; simp))
theorem own_block {w : World} {B : Nat} {e : TypeId} {s : Nat} {v : Value} {n : Nat} {xs : List Value} (h : w.ownsRow B e s v n xs) : ∀ k, v.ownBlock = some k → B ≤ k := fun k hk => (World.ownsRow.lt h k hk).1
theorem own_mono {w : World} {B B' : Nat} {e : TypeId} {s : Nat} {v : Value} {n : Nat} {xs : List Value} (h : w.ownsRow B e s v n xs) (hB : B' ≤ B) : w.ownsRow B' e s v n xs := by
  refine ⟨h.1, ?_⟩
  rcases h.2 with q | ⟨g, cap, cur, hv, hb, q⟩
  · exact .inl q
  · exact .inr ⟨g, cap, cur, hv, Nat.le_trans hB hb, q⟩
theorem own_form {w : World} {B : Nat} {e : TypeId} {s : Nat} {v : Value} {n : Nat} {xs : List Value} (h : w.ownsRow B e s v n xs) : ∃ a c, v = .slice a n c ∧ n ≤ c ∧ c ≤ maxLen := by
  rcases h.2 with ⟨rfl, rfl⟩ | ⟨g, cap, cur, rfl, hb, hg, hn, hm, _⟩
  · exact ⟨none, 0, rfl, Nat.le_refl _, Nat.zero_le _⟩
  · exact ⟨_, _, rfl, hn, hm⟩

theorem infoS : (Try.prog.info? 9).map (fun i => (i.zero, i.size, i.bytes)) = some (some (.string ⟨#[]⟩), 1, 16) := by kernel_rfl
def tcells (ps : List (List Int)) : List Value := ps.map fun p => .string (strOfNums p)
theorem tcells_length (ps : List (List Int)) : (tcells ps).length = ps.length := List.length_map ..
/-- the value v owns these texts, in a block from B on -/
def Txs (w : World) (B : Nat) (v : Value) (ps : List (List Int)) : Prop := w.ownsRow B 9 1 v ps.length (tcells ps)
theorem Txs.nil (w : World) (B : Nat) : Txs w B (.slice none 0 0) [] := ⟨rfl, .inl ⟨rfl, rfl⟩⟩
theorem Txs.below {w u : World} {B : Nat} {v : Value} {ps : List (List Int)} (h : Txs w B v ps) (hb : Below w.heap.size w u) : Txs u B v ps := own_below h hb
theorem Txs.mono {w : World} {B B' : Nat} {v : Value} {ps : List (List Int)} (h : Txs w B v ps) (hB : B' ≤ B) : Txs w B' v ps := own_mono h hB
/-- a text behind texts -/
theorem wpList_txs {ops : Array Oper} {rest : List Oper} {o : Oper} {a : Act} {Q : Exit → Act → World → Prop} (w : World) (hgd : o.guard = none) (s x : Operand)
    (ho : o.op = .call { callee := .builtin .append, args := #[s, x], argTypes := #[42, 42] }) (B : Nat) (v : Value) (ps : List (List Int)) (hs : a.eval s = v) (h : Txs w B v ps)
    (g c : Nat) (p : List Int) (hx : a.eval x = .slice (some ⟨g, 0, none⟩) 1 c) (hc : w.cell? ⟨g, 0, none⟩ = some (.string (strOfNums p))) (hl : ps.length ≤ 1000000) (hB : B ≤ w.heap.size)
    (hK : ∀ v' w', Txs w' B v' (ps ++ [p]) → w.grownBy w' v.ownBlock → Below B w w' → wpList Try.prog ops Q rest (a.put o.dst v') w') : wpList Try.prog ops Q (o :: rest) a w := by
  obtain ⟨i0, hi, hz0, hz1, hz2⟩ := info_parts infoS
  refine wpList_append_own w hgd s x 42 ho B 9 i0 _ 1 16 Try.underlying42 hi hz0 hz1 hz2 rfl (by omega) v ps.length (tcells ps) hs h ⟨g, 0, none⟩ 1 c [.string (strOfNums p)] hx rfl ?_ (by simp [Value.oneCell']) (by unfold maxLen; omega) (by omega) hB ?_
  · intro j u hj
    match j, hj with
    | 0, hj => simp at hj; subst hj; simpa [Addr.add] using hc
    | (j + 1), hj => simp at hj
  · intro v' w' h1 h2 _
    refine hK v' w' ?_ h2 ((Below.refl _ _).grown h2 hB (own_block h))
    unfold Txs
    rw [List.length_append, show tcells (ps ++ [p]) = tcells ps ++ [.string (strOfNums p)] by simp [tcells]]
    exact h1

def strLen : Value → Nat
  | .string b => b.size
  | _ => 0
theorem extract_front (t : ByteArray) (n : Nat) : t.extract 0 n = strOfNums ((nums t).take n) := by
  rw [← str_nums (t.extract 0 n), nums_extract, List.drop_zero]
theorem extract_rest (t : ByteArray) (n : Nat) : nums (t.extract n t.size) = (nums t).drop n := by
  rw [nums_extract, List.take_of_length_le (by rw [nums_length]; omega)]
theorem nums_head (t : ByteArray) (h : 0 < t.size) : ∃ r, nums t = bt t 0 :: r := by
  have := drop_nums t 0 h
  rw [List.drop_zero] at this
  exact ⟨_, this⟩
/-- what Split answers -/
def splC (l : List Int) : Int := if 512 < l.length then 2 else (splitL l).1
def splP (l : List Int) : List (List Int) := if 512 < l.length then [] else (splitL l).2
theorem splP_err {l : List Int} (h : splC l ≠ 0) : splP l = [] := by
  unfold splC at h; unfold splP
  split
  · rfl
  · rename_i hl; rw [if_neg hl] at h; exact split_err h
theorem ret_pair {v : Value} {a b : Int} (h : a = b) : Ending.returned (.tuple #[v, .int .i64 a]) = .returned (.tuple #[v, .int .i64 b]) := by rw [h]

set_option maxRecDepth 100000 in
set_option maxHeartbeats 1000000 in
theorem split_any (s : ByteArray) (w : World) (hs : s.size ≤ maxLen) :
    Calls Try.prog 90 #[.string s] w fun e w' => ∃ v, e = .returned (.tuple #[v, .int .i64 (splC (nums s))]) ∧ Txs w' w.heap.size v (splP (nums s)) ∧ Below w.heap.size w w' := by
  unfold maxLen at hs
  have hl := nums_length s
  by_cases hbig : 512 < s.size
  · have e1 : splC (nums s) = 2 := by unfold splC; rw [if_pos (by omega)]
    have e2 : splP (nums s) = [] := by unfold splP; rw [if_pos (by omega)]
    rw [e1, e2]
    clear e1 e2 hl
    go_enter Try.func90, Try.ntmps90
    go_wp2
    go_ret2
    exact ⟨_, rfl, Txs.nil _ _, Below.refl _ _⟩
  · have e1 : splC (nums s) = (splitL (nums s)).1 := by unfold splC; rw [if_neg (by omega)]
    have e2 : splP (nums s) = (splitL (nums s)).2 := by unfold splP; rw [if_neg (by omega)]
    rw [e1, e2]
    clear e1 e2 hl
    go_enter Try.func90, Try.ntmps90
    go_wp2
    go_loopw [0, 4] (fun sv pv wr => ∃ (t : ByteArray) (acc : List (List Int)), sv = .string t ∧ acc.length + t.size ≤ 512 ∧ Txs wr w.heap.size pv acc ∧ Below w.heap.size w wr ∧ Hid (ahd acc (splitL (nums t)) = splitL (nums s)))
      (fun sv _ _ => strLen sv)
    case atStart => exact ⟨s, [], rfl, by simp; omega, Txs.nil _ _, Below.refl _ _, ahd_nil _⟩
    case round =>
      obtain ⟨t, acc, rfl, hz, HT, hb, HR⟩ := hrel
      by_cases ht : 0 < t.size
      · have hfull := str_full t ht
        have hbt := get_bt t
        obtain ⟨r, hr⟩ := nums_head t ht
        have h0 := bt_nonneg t 0
        have h1 := bt_le t 0
        obtain ⟨n, hn⟩ : ∃ n : Nat, bt t 0 = (n : Int) := ⟨(bt t 0).toNat, by omega⟩
        have hlen := nums_length t
        have hnb : n ≤ 255 := by omega
        have hR := HR.out
        rw [hr, hn] at hR hlen
        by_cases h2 : n < 2
        · rw [split_form _ _ (by omega)] at hR
          have HH : Hid (((4 : Int), ([] : List (List Int))) = splitL (nums s)) := hR
          clear HR hR hr hlen h0 h1
          go_wp2
          go_ret2
          rw [← HH.out]
          exact ⟨_, rfl, Txs.nil _ _, hb⟩
        by_cases h3 : t.size < n
        · rw [split_short _ _ (by omega) (by omega)] at hR
          have HH : Hid (((3 : Int), ([] : List (List Int))) = splitL (nums s)) := hR
          clear HR hR hr hlen h0 h1
          go_wp2
          go_ret2
          rw [← HH.out]
          exact ⟨_, rfl, Txs.nil _ _, hb⟩
        rw [split_step _ _ (by omega) (by omega), ahd_ahd, ← hn, ← hr, hn, Int.toNat_natCast, ← extract_rest] at hR
        have HH : Hid (ahd (acc ++ [(nums t).take n]) (splitL (nums (t.extract n t.size))) = splitL (nums s)) := hR
        have hxz : (t.extract n t.size).size = t.size - n := by rw [ByteArray.size_extract]; omega
        have hxf := extract_front t n
        obtain ⟨q, hq⟩ : ∃ q, q = (nums t).take n := ⟨_, rfl⟩
        rw [← hq] at hxf HH
        have HX : Hid (Txs wr w.heap.size u4 acc) := HT
        have HB : Hid (Below w.heap.size w wr) := hb
        have hsz := hb.size
        clear HR hR hr hlen h0 h1 hq HT hb
        go_wp2_with (at_builtin; (refine wpList_txs _ rfl _ _ rfl w.heap.size _ acc rfl (World.ownsRow.alloc HX.out _) wr.heap.size 1 q rfl ?c1 (by omega) (by simp; omega) ?_))
        case c1 => rw [← hxf]; simp
        intro v' w2 ht2 hg2 hb2
        have HX2 : Hid (Txs w2 w.heap.size v' (acc ++ [q])) := ht2
        have HB2 : Hid (Below w.heap.size w w2) := (HB.out.alloc (by omega) _).trans hb2
        clear ht2 hg2 hb2 HX HB
        go_wp2
        go_roundw
        case rel => exact ⟨_, _, rfl, by rw [List.length_append]; simp; omega, HX2.out, HB2.out, HH.out⟩
        case measure => simp [strLen]; omega
      · have hz0 : t = ⟨#[]⟩ := by apply ByteArray.ext; exact Array.eq_empty_of_size_eq_zero (by have : t.data.size = t.size := rfl; omega)
        subst hz0
        have hR := HR.out
        have e0 : nums ⟨#[]⟩ = [] := rfl
        rw [e0, split_nil] at hR
        have HH : Hid (ahd acc ((0 : Int), ([] : List (List Int))) = splitL (nums s)) := hR
        have HX : Hid (Txs wr w.heap.size u4 acc) := HT
        have HB : Hid (Below w.heap.size w wr) := hb
        clear HR hR HT hb e0
        go_wp2
        go_ret2
        rw [← HH.out]
        refine ⟨_, rfl, ?_, HB.out⟩
        have : (ahd acc ((0 : Int), ([] : List (List Int)))).2 = acc := by simp [ahd]
        rw [this]; exact HX.out
end Go.Proofs.Ytonheibhbilhhaa.desc

/- desc: slices that are read: texts held against texts, texts joined. -/
namespace Go.Proofs.Ytonheibhbilhhaa.desc
open Go.RowKit Go.PlainAid Go.Proofs.Ytonheibhbilhhaa.lane
set_option linter.unusedVariables false

/-- a slice of n elements, s cells each, that reads as cs -/
def Rdg (w : World) (s : Nat) (v : Value) (n : Nat) (cs : List Value) : Prop :=
  ∃ a c, v = .slice a n c ∧ n ≤ c ∧ c ≤ maxLen ∧ cs.length = n * s ∧ (0 < n → ∃ g off, a = some ⟨g, off, none⟩ ∧ g < w.heap.size ∧ ∀ j x, cs[j]? = some x → w.cell? ⟨g, off + j, none⟩ = some x)
theorem Rdg.below {w u : World} {s : Nat} {v : Value} {n : Nat} {cs : List Value} (h : Rdg w s v n cs) (hb : Below w.heap.size w u) : Rdg u s v n cs := by
  obtain ⟨a, c, hv, h1, h2, h3, h4⟩ := h
  refine ⟨a, c, hv, h1, h2, h3, fun hn => ?_⟩
  obtain ⟨g, off, ha, hg, hc⟩ := h4 hn
  exact ⟨g, off, ha, Nat.lt_of_lt_of_le hg hb.size, fun j x hx => (hb.cell (p := ⟨g, off + j, none⟩) hg).trans (hc j x hx)⟩
theorem Rdg.of {w : World} {B : Nat} {e : TypeId} {s : Nat} {v : Value} {n : Nat} {cs : List Value} (h : w.ownsRow B e s v n cs) : Rdg w s v n cs := by
  have h' := h
  rcases h.2 with ⟨rfl, h0⟩ | ⟨g, cap, cur, rfl, hB, hg, hnc, hcm, hs, ht⟩
  · exact ⟨none, 0, by rw [h0], by omega, Nat.zero_le _, h.1, fun hn => by omega⟩
  · refine ⟨_, cap, rfl, hnc, hcm, h.1, fun _ => ⟨g, 0, rfl, ?_, fun j x hx => ?_⟩⟩
    · rcases Nat.lt_or_ge g w.heap.size with hl | hl
      · exact hl
      · rw [Array.getElem?_eq_none hl] at hg; cases hg
    · have hj := (List.getElem?_eq_some_iff.1 hx).1
      have hl := h.1
      rw [Nat.zero_add, World.ownsRow.cellAt h' j (by omega)]
      exact hx
/-- texts that are read -/
def Rts (w : World) (v : Value) (ps : List (List Int)) : Prop := Rdg w 1 v ps.length (tcells ps)
theorem Rts.below {w u : World} {v : Value} {ps : List (List Int)} (h : Rts w v ps) (hb : Below w.heap.size w u) : Rts u v ps := Rdg.below h hb
theorem Txs.rts {w : World} {B : Nat} {v : Value} {ps : List (List Int)} (h : Txs w B v ps) : Rts w v ps := Rdg.of h
theorem Rts.cell {w : World} {v : Value} {ps : List (List Int)} (h : Rts w v ps) : ∃ a c, v = .slice a ps.length c ∧ ps.length ≤ c ∧ c ≤ maxLen ∧
    ∀ j p, ps[j]? = some p → ∃ g off, a = some ⟨g, off, none⟩ ∧ w.cell? ⟨g, off + j, none⟩ = some (.string (strOfNums p)) := by
  obtain ⟨a, c, hv, h1, h2, h3, h4⟩ := h
  refine ⟨a, c, hv, h1, h2, fun j p hj => ?_⟩
  have hl := (List.getElem?_eq_some_iff.1 hj).1
  obtain ⟨g, off, ha, hg, hc⟩ := h4 (by omega)
  exact ⟨g, off, ha, hc j _ (by simp [tcells, hj])⟩
def BB (ps : List (List Int)) : Prop := ∀ p ∈ ps, Byt p
theorem str_inj {a b : List Int} (ha : Byt a) (hb : Byt b) (h : strOfNums a = strOfNums b) : a = b := by
  have := congrArg nums h
  rwa [nums_str a ha, nums_str b hb] at this
theorem toList_beq (s t : ByteArray) : (s.toList == t.toList) = decide (s = t) := by
  rw [ByteArray.toList_eq, ByteArray.toList_eq]
  by_cases h : s = t
  · subst h; simp
  · rw [decide_eq_false h, beq_eq_false_iff_ne]
    intro q
    apply h
    apply ByteArray.ext
    exact Array.toList_inj.1 q
theorem toList_bne (s t : ByteArray) : (s.toList != t.toList) = !decide (s = t) := by
  unfold bne; rw [toList_beq]
theorem below_drewN {B : Nat} {a w : World} (h : Below B a w) (n : Nat) : Below B a (w.drewN n) := ⟨h.os, h.tape, h.output, h.size, h.block⟩

set_option maxHeartbeats 2000000 in
theorem equalT_any (v1 v2 : Value) (ps qs : List (List Int)) (w : World) (h1 : Rts w v1 ps) (h2 : Rts w v2 qs) (b1 : BB ps) (b2 : BB qs) :
    Calls Try.prog 41 #[v1, v2] w fun e w' => e = .returned (.bool (decide (ps = qs))) ∧ Below w.heap.size w w' := by
  obtain ⟨a, c, rfl, hlc, hcm, hc⟩ := h1.cell
  obtain ⟨b, d, rfl, hld, hdm, hd⟩ := h2.cell
  have HA : Hid (∀ j p, ps[j]? = some p → ∃ g off, a = some ⟨g, off, none⟩ ∧ w.cell? ⟨g, off + j, none⟩ = some (.string (strOfNums p))) := hc
  have HB : Hid (∀ j p, qs[j]? = some p → ∃ g off, b = some ⟨g, off, none⟩ ∧ w.cell? ⟨g, off + j, none⟩ = some (.string (strOfNums p))) := hd
  have HP : Hid (BB ps) := b1
  have HQ : Hid (BB qs) := b2
  unfold maxLen at hcm hdm
  clear h1 h2 hc hd b1 b2
  by_cases hlen : ps.length = qs.length
  · have HL : Hid (ps.length = qs.length) := hlen
    obtain ⟨n, hn⟩ : ∃ n, ps.length = n := ⟨_, rfl⟩
    have hm : qs.length = n := by omega
    have HN : Hid (ps.length = n) := hn
    have HM : Hid (qs.length = n) := hm
    rw [hn] at hlc
    rw [hm] at hld
    rw [hn, hm]
    clear hn hm hlen
    go_enter Try.func41, Try.ntmps41
    go_wp2
    go_loopw [13] (fun i wr => ∃ (k q : Nat), k ≤ n ∧ i = .int .i64 (k : Int) ∧ wr = w.drewN q ∧ Hid (decide (ps.drop k = qs.drop k) = decide (ps = qs))) (fun i _ => n - (intOf i).toNat)
    case atStart => exact ⟨0, 0, Nat.zero_le _, rfl, rfl, rfl⟩
    case round =>
      obtain ⟨k, q, hk, rfl, rfl, HR⟩ := hrel
      by_cases hlt : k < n
      · have hk1 : k < ps.length := by have := HN.out; omega
        have hk2 : k < qs.length := by have := HM.out; omega
        obtain ⟨g, off, rfl, c1⟩ := HA.out k ps[k] (List.getElem?_eq_getElem hk1)
        obtain ⟨g', off', rfl, d1⟩ := HB.out k qs[k] (List.getElem?_eq_getElem hk2)
        have hR := HR.out
        rw [List.drop_eq_getElem_cons hk1, List.drop_eq_getElem_cons hk2] at hR
        have hb1 := HP.out ps[k] (List.getElem_mem hk1)
        have hb2 := HQ.out qs[k] (List.getElem_mem hk2)
        generalize ps[k] = x at c1 hR hb1
        generalize qs[k] = y at d1 hR hb2
        by_cases hxy : x = y
        · subst hxy
          have HR2 : Hid (decide (ps.drop (k + 1) = qs.drop (k + 1)) = decide (ps = qs)) := by
            show _ = _
            rw [← hR]; simp
          have hneq := toList_bne (strOfNums x) (strOfNums x)
          rw [decide_eq_true rfl] at hneq
          generalize strOfNums x = t at c1 d1 hneq
          clear HA HB HP HQ HL HN HM HR hR hb1 hb2
          go_wp2
          go_region
          go_wp2
          go_roundw
          case rel => exact ⟨k + 1, q + _, by omega, by go_num, rfl, HR2.out⟩
          case measure => simp [intOf]; omega
        · have HR2 : Hid (false = decide (ps = qs)) := by
            show _ = _
            rw [← hR]; symm; rw [decide_eq_false_iff_not]
            intro h; exact hxy (by injection h)
          have hneq := toList_beq (strOfNums x) (strOfNums y)
          rw [decide_eq_false (fun h => hxy (str_inj hb1 hb2 h))] at hneq
          generalize strOfNums x = t at c1 hneq
          generalize strOfNums y = t' at d1 hneq
          clear HA HB HP HQ HL HN HM HR hR hb1 hb2
          go_wp2
          go_region
          go_wp2
          go_ret
          rw [← HR2.out]
          exact ⟨rfl, below_drewN (Below.refl _ _) _⟩
      · have hR := HR.out
        rw [List.drop_eq_nil_of_le (by have := HN.out; omega), List.drop_eq_nil_of_le (by have := HM.out; omega)] at hR
        have HR2 : Hid (true = decide (ps = qs)) := by show _ = _; rw [← hR]; simp
        clear HA HB HP HQ HL HN HM HR hR
        go_wp2
        go_ret
        rw [← HR2.out]
        exact ⟨rfl, below_drewN (Below.refl _ _) _⟩
  · have e : decide (ps = qs) = false := by rw [decide_eq_false_iff_not]; intro h; exact hlen (by rw [h])
    rw [e]
    have hne : ((ps.length : Int) != (qs.length : Int)) = true := by rw [bne_iff_ne]; omega
    generalize ps.length = n at *
    generalize qs.length = m at *
    clear HA HB HP HQ e hlen
    go_enter Try.func41, Try.ntmps41
    go_wp2
    go_ret
    exact ⟨rfl, Below.refl _ _⟩

end Go.Proofs.Ytonheibhbilhhaa.desc

/- desc and plugref's desc: the small functions: bytes behind bytes, numbers within bounds. -/
namespace Go.Proofs.Ytonheibhbilhhaa.desc
open Go.RowKit Go.PlainAid Go.Proofs.Ytonheibhbilhhaa.lane
set_option linter.unusedVariables false

/-- integers that are read -/
def Rig (w : World) (v : Value) (us : List Int) : Prop := Rdg w 1 v us.length (us.map (Value.int .i64))
theorem Rig.cell {w : World} {v : Value} {us : List Int} (h : Rig w v us) : ∃ a c, v = .slice a us.length c ∧ us.length ≤ c ∧ c ≤ maxLen ∧
    ∀ j x, us[j]? = some x → ∃ g off, a = some ⟨g, off, none⟩ ∧ g < w.heap.size ∧ w.cell? ⟨g, off + j, none⟩ = some (.int .i64 x) := by
  obtain ⟨a, c, hv, h1, h2, h3, h4⟩ := h
  refine ⟨a, c, hv, h1, h2, fun j p hj => ?_⟩
  have hl := (List.getElem?_eq_some_iff.1 hj).1
  obtain ⟨g, off, ha, hg, hc⟩ := h4 (by omega)
  exact ⟨g, off, ha, hg, hc j _ (by simp [hj])⟩
theorem Rig.new (w : World) (us : List Int) (t : TypeId) (hm : us.length ≤ maxLen) : Rig (w.alloc (.cells (us.map (Value.int .i64)).toArray t)) (.slice (some ⟨w.heap.size, 0, none⟩) us.length us.length) us := by
  refine ⟨_, _, rfl, Nat.le_refl _, hm, by simp, fun _ => ⟨w.heap.size, 0, rfl, by simp, fun j x hx => ?_⟩⟩
  rw [Nat.zero_add, World.cell?_alloc_new]
  simpa using hx
theorem bys_new (w : World) (ys : List Int) (t : TypeId) : ∀ j y, ys[j]? = some y → (w.alloc (.cells (ys.map (Value.int .u8)).toArray t)).cell? ⟨w.heap.size, j, none⟩ = some (.int .u8 y) := by
  intro j y hj
  rw [World.cell?_alloc_new]
  simp [hj]
theorem Bys.below {w u : World} {B : Nat} {v : Value} {acc : List Int} (h : Bys w B v acc) (hb : Below w.heap.size w u) : Bys u B v acc := own_below h hb
theorem Bys.mono {w : World} {B B' : Nat} {v : Value} {acc : List Int} (h : Bys w B v acc) (hB : B' ≤ B) : Bys w B' v acc := own_mono h hB
/-- bytes behind bytes -/
theorem wpList_bys {ops : Array Oper} {rest : List Oper} {o : Oper} {a : Act} {Q : Exit → Act → World → Prop} (w : World) (hgd : o.guard = none) (s x : Operand)
    (ho : o.op = .call { callee := .builtin .append, args := #[s, x], argTypes := #[71, 71] }) (B : Nat) (v : Value) (acc : List Int) (hs : a.eval s = v) (h : Bys w B v acc)
    (g m c : Nat) (ys : List Int) (hx : a.eval x = .slice (some ⟨g, 0, none⟩) m c) (hm : ys.length = m) (hc : ∀ j y, ys[j]? = some y → w.cell? ⟨g, j, none⟩ = some (.int .u8 y)) (hl : acc.length ≤ 1000000) (hl2 : m ≤ 1000000) (hB : B ≤ w.heap.size)
    (hK : ∀ v' w', Bys w' B v' (acc ++ ys) → w.grownBy w' v.ownBlock → Below B w w' → wpList Try.prog ops Q rest (a.put o.dst v') w') : wpList Try.prog ops Q (o :: rest) a w := by
  obtain ⟨i0, hi, hz0, hz1, hz2⟩ := info_parts infoB
  refine wpList_append_own w hgd s x 71 ho B 5 i0 _ 1 1 Try.underlying71 hi hz0 hz1 hz2 rfl (by omega) v acc.length (acc.map (Value.int .u8)) hs h ⟨g, 0, none⟩ m c (ys.map (Value.int .u8)) hx (by simp [hm]) ?_ (fun u hu => by obtain ⟨y, _, rfl⟩ := List.mem_map.1 hu; rfl) (by unfold maxLen; omega) (by omega) hB ?_
  · intro j u hj
    rw [List.getElem?_map] at hj
    cases hy : ys[j]? with
    | none => rw [hy] at hj; cases hj
    | some y =>
      rw [hy] at hj
      simp at hj
      subst hj
      rw [Addr.add_lit, Nat.zero_add]; exact hc j y hy
  · intro v' w' h1 h2 _
    refine hK v' w' ?_ h2 ((Below.refl _ _).grown h2 hB (own_block h))
    unfold Bys
    rw [List.length_append, List.map_append, hm]
    exact h1
theorem ret_bool {a b : Bool} (h : a = b) : Ending.returned (.bool a) = .returned (.bool b) := by rw [h]
def inB (m x : Int) : Bool := decide (0 ≤ x) && decide (x ≤ m)
def allB (m : Int) (us : List Int) : Bool := us.all (inB m)
theorem allB_cons (m x : Int) (r : List Int) : allB m (x :: r) = (inB m x && allB m r) := rfl

set_option maxHeartbeats 1000000 in
theorem allWithin_any (m : Int) (v : Value) (us : List Int) (w : World) (h : Rig w v us) :
    Calls Try.prog 63 #[.int .i64 m, v] w fun e w' => e = .returned (.bool (allB m us)) ∧ w = w' := by
  obtain ⟨a, c, rfl, hlc, hcm, hc⟩ := h.cell
  have HC : Hid (∀ j x, us[j]? = some x → ∃ g off, a = some ⟨g, off, none⟩ ∧ g < w.heap.size ∧ w.cell? ⟨g, off + j, none⟩ = some (.int .i64 x)) := hc
  unfold maxLen at hcm
  obtain ⟨n, hn⟩ : ∃ n, us.length = n := ⟨_, rfl⟩
  have HN : Hid (us.length = n) := hn
  rw [hn] at hlc
  rw [hn]
  clear h hc hn
  go_enter Try.func63, Try.ntmps63
  go_wp2
  go_loop [9] (fun i => ∃ k : Nat, k ≤ n ∧ i = .int .i64 (k : Int) ∧ Hid (allB m (us.drop k) = allB m us)) (fun i => n - (intOf i).toNat)
  case atStart => exact ⟨0, Nat.zero_le _, rfl, rfl⟩
  case round =>
    obtain ⟨k, hk, rfl, HR⟩ := hrel
    by_cases hlt : k < n
    · have hk1 : k < us.length := by have := HN.out; omega
      obtain ⟨g, off, rfl, hg, c1⟩ := HC.out k us[k] (List.getElem?_eq_getElem hk1)
      have hR := HR.out
      rw [List.drop_eq_getElem_cons hk1, allB_cons] at hR
      generalize us[k] = x at c1 hR
      clear HC HN HR
      by_cases h0 : x < 0
      · have HH : Hid (false = allB m us) := by
          show _ = _
          rw [← hR, inB, decide_eq_false (by omega)]; simp
        clear hR
        go_wp2
        go_ret
        exact ⟨ret_bool HH.out, rfl⟩
      by_cases h1 : m < x
      · have HH : Hid (false = allB m us) := by
          show _ = _
          rw [← hR, inB, decide_eq_false (p := x ≤ m) (by omega)]; simp
        clear hR
        go_wp2
        go_ret
        exact ⟨ret_bool HH.out, rfl⟩
      have HH : Hid (allB m (us.drop (k + 1)) = allB m us) := by
        show _ = _
        rw [← hR, inB, decide_eq_true (show 0 ≤ x by omega), decide_eq_true (show x ≤ m by omega)]; simp
      clear hR
      go_wp2
      go_round
      case rel => exact ⟨k + 1, by omega, by go_num, HH.out⟩
      case measure => simp [intOf]; omega
    · have hR := HR.out
      rw [List.drop_eq_nil_of_le (by have := HN.out; omega)] at hR
      have HH : Hid (true = allB m us) := hR
      clear HC HN HR hR
      go_wp2
      go_ret
      exact ⟨ret_bool HH.out, rfl⟩
set_option maxHeartbeats 1000000 in
theorem appendWord_any (B : Nat) (v : Value) (acc : List Int) (n : Int) (h0 : 0 ≤ n) (h1 : n ≤ 65535) (w : World) (h : Bys w B v acc) (hB : B ≤ w.heap.size) (hl : acc.length ≤ 1000000) :
    Calls Try.prog 34 #[v, .int .i64 n] w fun e w' => ∃ v', e = .returned v' ∧ Bys w' B v' (acc ++ wrd n) ∧ Below B w w' := by
  have H : Hid (Bys w B v acc) := h
  clear h
  go_enter Try.func34, Try.ntmps34
  go_wp2_with (at_builtin; (refine wpList_bys _ rfl _ _ rfl B _ acc rfl (World.ownsRow.alloc H.out _) w.heap.size 2 2 [n % 256, n / 256] rfl rfl (bys_new w [n % 256, n / 256] _) hl (by omega) (by simp; omega) ?_))
  intro v' w2 h2 hg2 hb2
  go_wp2
  go_ret
  exact ⟨_, rfl, h2, ((Below.refl _ _).alloc hB _).trans hb2⟩
theorem between_any (n l m : Int) (w : World) :
    Calls Try.prog 9 #[.int .i64 n, .int .i64 l, .int .i64 m] w fun e w' => e = .returned (.bool (decide (l ≤ n) && decide (n ≤ m))) ∧ w = w' := by
  go_enter Try.func9, Try.ntmps9
  go_wp2
  · rename_i h
    go_ret
    rw [show decide (l ≤ n) = true by simpa using h, Bool.true_and]
    exact ⟨rfl, rfl⟩
  · rename_i h
    go_ret
    rw [show decide (l ≤ n) = false by simp; omega, Bool.false_and]
    exact ⟨rfl, rfl⟩
def bof (us : List Int) : ByteArray := if allB 255 us = true then strOfNums us else ⟨#[]⟩
set_option maxHeartbeats 2000000 in
theorem bytesOf_any (v : Value) (us : List Int) (w : World) (h : Rig w v us) (hl : us.length ≤ 1000) :
    Calls Try.prog 94 #[v] w fun e w' => e = .returned (.tuple #[.string (bof us), .bool (allB 255 us)]) ∧ Below w.heap.size w w' := by
  obtain ⟨a, c, rfl, hlc, hcm, hc⟩ := h.cell
  have HC : Hid (∀ W : World, Below w.heap.size w W → ∀ j x, us[j]? = some x → ∃ g off, a = some ⟨g, off, none⟩ ∧ W.cell? ⟨g, off + j, none⟩ = some (.int .i64 x)) := by
    intro W hW j x hx
    obtain ⟨g, off, ha, hg, hcc⟩ := hc j x hx
    exact ⟨g, off, ha, (hW.cell (p := ⟨g, off + j, none⟩) hg).trans hcc⟩
  unfold maxLen at hcm
  obtain ⟨n, hn⟩ : ∃ n, us.length = n := ⟨_, rfl⟩
  have HN : Hid (us.length = n) := hn
  rw [hn] at hlc hl
  rw [hn]
  clear h hc hn
  go_enter Try.func94, Try.ntmps94
  go_wp2
  go_loopw [4, 9] (fun ov i wr => ∃ (k : Nat) (acc : List Int), k ≤ n ∧ i = .int .i64 (k : Int) ∧ acc.length = k ∧ Bys wr w.heap.size ov acc ∧ Below w.heap.size w wr ∧ Hid (acc ++ us.drop k = us) ∧ Hid (allB 255 (us.drop k) = allB 255 us)) (fun _ i _ => n - (intOf i).toNat)
  case atStart => exact ⟨0, [], Nat.zero_le _, rfl, rfl, Bys.nil _ _, Below.refl _ _, rfl, rfl⟩
  case round =>
    obtain ⟨k, acc, hk, rfl, hal, hX, hb, HA, HR⟩ := hrel
    have HX : Hid (Bys wr w.heap.size u4 acc) := hX
    have HB : Hid (Below w.heap.size w wr) := hb
    have hsz := hb.size
    by_cases hlt : k < n
    · have hk1 : k < us.length := by have := HN.out; omega
      obtain ⟨g, off, rfl, c1⟩ := HC.out wr hb k us[k] (List.getElem?_eq_getElem hk1)
      have hR := HR.out
      have hA := HA.out
      rw [List.drop_eq_getElem_cons hk1, allB_cons] at hR
      rw [List.drop_eq_getElem_cons hk1, List.append_cons] at hA
      generalize us[k] = x at c1 hR hA
      by_cases hbx : inB 255 x = true
      · rw [hbx, Bool.true_and] at hR
        have hx2 : 0 ≤ x ∧ x ≤ 255 := by simpa [inB] using hbx
        obtain ⟨hx0, hx1⟩ := hx2
        have HBt : Hid (∀ w : World, Calls Try.prog 9 #[.int .i64 x, .int .i64 0, .int .i64 255] w fun e w' => e = .returned (.bool true) ∧ w = w') := fun w => by
          have := between_any x 0 255 w
          rw [decide_eq_true hx0, decide_eq_true hx1] at this
          exact this
        have H1 : Hid (allB 255 (us.drop (k + 1)) = allB 255 us) := hR
        have H2 : Hid (acc ++ [x] ++ us.drop (k + 1) = us) := hA
        clear HC HN HR HA hR hA hX hb hbx
        go_wp2_with fail
        refine (HBt.out _).mono ?_
        rintro e wa ⟨rfl, rfl⟩
        go_wp2_with (at_builtin; (refine wpList_bys _ rfl _ _ rfl w.heap.size _ acc rfl (World.ownsRow.alloc HX.out _) wr.heap.size 1 1 [x] rfl rfl (bys_new wr [x] _) (by omega) (by omega) (by simp; omega) ?_))
        intro v' w2 h2 hg2 hb2
        have HX2 : Hid (Bys w2 w.heap.size v' (acc ++ [x])) := h2
        have HB2 : Hid (Below w.heap.size w w2) := (HB.out.alloc (by omega) _).trans hb2
        clear h2 hg2 hb2 HX HB
        go_wp2
        go_roundw
        case rel => exact ⟨k + 1, acc ++ [x], by omega, by go_num, by rw [List.length_append, hal]; rfl, HX2.out, HB2.out, H2, H1⟩
        case measure => simp [intOf]; omega
      · have hbf : inB 255 x = false := by simpa using hbx
        rw [hbf, Bool.false_and] at hR
        have HBt : Hid (∀ w : World, Calls Try.prog 9 #[.int .i64 x, .int .i64 0, .int .i64 255] w fun e w' => e = .returned (.bool false) ∧ w = w') := fun w => by
          have := between_any x 0 255 w
          unfold inB at hbf
          rw [hbf] at this
          exact this
        have H1 : Hid (false = allB 255 us) := hR
        clear HC HN HR HA hR hA hX hb hbx hbf
        go_wp2_with fail
        refine (HBt.out _).mono ?_
        rintro e wa ⟨rfl, rfl⟩
        go_wp2
        go_ret2
        unfold bof
        rw [← H1.out]
        exact ⟨rfl, HB.out⟩
    · have hR := HR.out
      have hA := HA.out
      rw [List.drop_eq_nil_of_le (by have := HN.out; omega)] at hR hA
      rw [List.append_nil] at hA
      subst hA
      have H1 : Hid (true = allB 255 acc) := hR
      have hcv := HX.out.conv
      clear HC HN HR HA hR hX hb
      go_wp2
      go_ret2
      unfold bof
      rw [← H1.out]
      exact ⟨rfl, HB.out⟩
end Go.Proofs.Ytonheibhbilhhaa.desc

/- desc: what WriteText and ReadText answer; and plugref's TextText and ReadText. -/
namespace Go.Proofs.Ytonheibhbilhhaa.desc
open Go.RowKit Go.PlainAid Go.Proofs.Ytonheibhbilhhaa.lane Go.Proofs.Ytonheibhbilhhaa.utf
set_option linter.unusedVariables false

theorem conv_new (w : World) (ys : List Int) : (convert 71 9 (.slice (some ⟨w.heap.size, 0, none⟩) ys.length ys.length)).run Try.prog (w.alloc (.cells (ys.map (Value.int .u8)).toArray 5)) = .ok (.string (strOfNums ys)) (w.alloc (.cells (ys.map (Value.int .u8)).toArray 5)) := by
  refine run_convert_bytes_arg _ 71 5 Try.underlying71 Try.underlying5 w.heap.size 0 ys.length ys.length ys rfl ?_ 9 Try.underlying9
  intro i hi
  rw [Nat.zero_add, bys_new w ys _ i ys[i] (List.getElem?_eq_getElem hi)]
  simp [List.getD, List.getElem?_eq_getElem hi]
/-- what WriteText answers -/
def dtxt (s : ByteArray) : ByteArray := if werr s = 0 then strOfNums [2 + ((wtxt s).size : Int), 3] ++ wtxt s else ⟨#[]⟩
theorem werr_cases (s : ByteArray) : (werr s = 0 ∧ (wtxt s).size ≤ 252) ∨ werr s = 2 := by
  unfold werr wtxt
  split
  · rename_i h; left; exact ⟨rfl, by rw [str_size]; exact h⟩
  · right; rfl
/-- what ReadText answers -/
def rdT (t : ByteArray) : ByteArray := if t.size < 2 then ⟨#[]⟩ else if bt t 0 = (t.size : Int) ∧ bt t 1 = 3 then ntxt (t.extract 2 t.size) else ⟨#[]⟩
def rdC (t : ByteArray) : Int := if t.size < 2 then 3 else if bt t 0 = (t.size : Int) ∧ bt t 1 = 3 then nerr (t.extract 2 t.size) else 4
theorem ret_txt {a b : ByteArray} {c d : Int} (h : a = b) (h2 : c = d) : Ending.returned (.tuple #[.string a, .int .i64 c]) = .returned (.tuple #[.string b, .int .i64 d]) := by rw [h, h2]

set_option maxHeartbeats 1000000 in
theorem writeText_any (s : ByteArray) (w : World) :
    Calls Try.prog 83 #[.string s] w fun e w' => e = .returned (.tuple #[.string (dtxt s), .int .i64 (werr s)]) ∧ Below w.heap.size w w' := by
  have HW : Hid (∀ w : World, Calls Try.prog 98 #[.string s] w fun e w' => e = .returned (.tuple #[.string (wtxt s), .int .i64 (werr s)]) ∧ Below w.heap.size w w') := fun w => wide_any s w
  unfold dtxt
  rcases werr_cases s with ⟨h0, hz⟩ | h0
  · rw [h0] at HW ⊢
    rw [if_pos rfl]
    generalize wtxt s = x at *
    go_enter Try.func83, Try.ntmps83
    go_wp2_with fail
    refine (HW.out _).mono ?_
    rintro e wa ⟨rfl, hb⟩
    have HB : Hid (Below w.heap.size w wa) := hb
    have hc : (convert 71 9 (.slice (some ⟨wa.heap.size, 0, none⟩) 2 2)).run Try.prog (wa.alloc (.cells #[.int .u8 (2 + (x.size : Int)), .int .u8 3] 5)) = .ok (.string (strOfNums [2 + (x.size : Int), 3])) (wa.alloc (.cells #[.int .u8 (2 + (x.size : Int)), .int .u8 3] 5)) := conv_new wa [2 + (x.size : Int), 3]
    have hz2 : (strOfNums [2 + (x.size : Int), 3]).size = 2 := str_size _
    obtain ⟨y, hy⟩ : ∃ y, strOfNums [2 + (x.size : Int), 3] = y := ⟨_, rfl⟩
    rw [hy] at hc hz2
    have HY : Hid (strOfNums [2 + (x.size : Int), 3] = y) := hy
    clear hy
    have hz3 : (y ++ x).size = 2 + x.size := by rw [ByteArray.size_append, hz2]
    clear hb h0
    go_wp2
    go_ret2
    rw [HY.out]
    exact ⟨rfl, bsq HB.out (balloc _ _)⟩
  · rw [h0] at HW ⊢
    rw [if_neg (by decide)]
    generalize wtxt s = x at *
    clear h0
    go_enter Try.func83, Try.ntmps83
    go_wp2_with fail
    refine (HW.out _).mono ?_
    rintro e wa ⟨rfl, hb⟩
    have HB : Hid (Below w.heap.size w wa) := hb
    clear hb
    go_wp2
    go_ret2
    exact ⟨rfl, HB.out⟩
set_option maxHeartbeats 1000000 in
theorem readText_any (t : ByteArray) (w : World) (hm : t.size ≤ maxLen) :
    Calls Try.prog 74 #[.string t] w fun e w' => e = .returned (.tuple #[.string (rdT t), .int .i64 (rdC t)]) ∧ Below w.heap.size w w' := by
  have HW : Hid (∀ w : World, Calls Try.prog 92 #[.string (t.extract 2 t.size)] w fun e w' => e = .returned (.tuple #[.string (ntxt (t.extract 2 t.size)), .int .i64 (nerr (t.extract 2 t.size))]) ∧ Below w.heap.size w w') := fun w => narrow_any _ w (by rw [ByteArray.size_extract]; omega)
  unfold maxLen at hm
  have hbt := get_bt t
  have h1 := bt_le t 0
  have h0 := bt_nonneg t 0
  unfold rdT rdC
  by_cases hs : t.size < 2
  · rw [if_pos hs, if_pos hs]
    clear HW h0 h1
    go_enter Try.func74, Try.ntmps74
    go_wp2
    go_ret2
    exact ⟨rfl, Below.refl _ _⟩
  rw [if_neg hs, if_neg hs]
  by_cases he : bt t 0 = (t.size : Int)
  · by_cases h3 : bt t 1 = 3
    · rw [if_pos ⟨he, h3⟩, if_pos ⟨he, h3⟩]
      have e1 : (bt t 0 != (t.size : Int)) = false := by simpa using he
      have e2 : (bt t 1 != 3) = false := by simpa using h3
      generalize ntxt (t.extract 2 t.size) = x at *
      generalize nerr (t.extract 2 t.size) = z at *
      clear he h3
      go_enter Try.func74, Try.ntmps74
      go_wp2_with fail
      refine (HW.out _).mono ?_
      rintro e wa ⟨rfl, hb⟩
      go_wp2
      go_ret2
      exact ⟨rfl, hb⟩
    · rw [if_neg (fun h => h3 h.2), if_neg (fun h => h3 h.2)]
      have e1 : (bt t 0 != (t.size : Int)) = false := by simpa using he
      have e2 : (bt t 1 != 3) = true := by simpa using h3
      clear he h3 HW
      go_enter Try.func74, Try.ntmps74
      go_wp2
      go_ret2
      exact ⟨rfl, Below.refl _ _⟩
  · rw [if_neg (fun h => he h.1), if_neg (fun h => he h.1)]
    have e1 : (bt t 0 != (t.size : Int)) = true := by simpa using he
    clear he HW
    go_enter Try.func74, Try.ntmps74
    go_wp2
    go_ret2
    exact ⟨rfl, Below.refl _ _⟩
end Go.Proofs.Ytonheibhbilhhaa.desc
