/- desc: the plain mathematics: what is read of pieces, by the program's way and by the document's. No program is named here. -/
import Derived.Test.YtebaepkghbihkaaDescM
namespace Go.Proofs.Ytebaepkghbihkaa.desc
open Go.PlainAid Go.Proofs.Ytebaepkghbihkaa.lane

def isP (p : List Int) (n : Nat) (k : Int) : Bool := decide (p.length = n) && (p.getD 1 0 == k)
theorem isP_iff (p : List Int) (n : Nat) (k : Int) : isP p n k = true ↔ p.length = n ∧ p.getD 1 0 = k := by simp [isP]
def faceO (p : List Int) : Fc := ⟨p.getD 5 0, p.getD 6 0, p.getD 7 0, p.getD 8 0, [], []⟩
def endO (p : List Int) : En := ⟨p.getD 2 0 % 128, decide (128 ≤ p.getD 2 0), p.getD 3 0, p.getD 4 0 + 256 * p.getD 5 0, p.getD 6 0⟩
/-- faces: those ahead, and the last one -/
def toFs : Option (List Fc × Fc) → List Fc
  | none => []
  | some (d, f) => d ++ [f]
def addE (f : Fc) (e : En) : Fc := ⟨f.cl, f.su, f.pr, f.nm, f.ex, f.en ++ [e]⟩
def addX (f : Fc) (x : List Int) : Fc := ⟨f.cl, f.su, f.pr, f.nm, f.ex ++ [x], f.en⟩
def stepP (q : Option (List Fc × Fc)) (p : List Int) : Option (Option (List Fc × Fc)) :=
  if isP p 9 4 = true then some (some (toFs q, faceO p)) else
  match q with
  | none => none
  | some (d, f) => if isP p 7 5 = true then some (some (d, addE f (endO p))) else some (some (d, addX f p))
def foldP : Option (List Fc × Fc) → List (List Int) → Option (List Fc)
  | q, [] => some (toFs q)
  | q, p :: r => match stepP q p with
    | none => none
    | some q' => foldP q' r
def confO : List (List Int) → Option Cf
  | [] => none
  | h :: r => if h.length = 9 then match foldP none r with
      | none => none
      | some fs => some ⟨h.getD 5 0, h.getD 6 0, h.getD 7 0, h.getD 8 0, fs⟩
    else none

theorem endO_endL {e : En} (h : endOk e = true) : endO (endL e) = e := by
  obtain ⟨⟨h1, h2⟩, ⟨h3, h4⟩, ⟨h5, h6⟩, h7, h8⟩ := (endOk_iff e).1 h
  obtain ⟨ad, inw, kd, mx, iv⟩ := e
  simp only at h1 h2 h3 h4 h5 h6 h7 h8
  cases inw
  · have e1 : (ad + 0) % 128 = ad := by omega
    have e2 : decide (128 ≤ ad + 0) = false := by simp; omega
    have e3 : mx % 256 + 256 * (mx / 256) = mx := by omega
    simp only [endO, endL, wrd, List.cons_append, List.nil_append, List.getD, List.getElem?_cons_succ, List.getElem?_cons_zero, Option.getD_some, Bool.false_eq_true, if_false]
    rw [e1, e2, e3]
  · have e1 : (ad + 128) % 128 = ad := by omega
    have e2 : decide (128 ≤ ad + 128) = true := by simp; omega
    have e3 : mx % 256 + 256 * (mx / 256) = mx := by omega
    simp only [endO, endL, wrd, List.cons_append, List.nil_append, List.getD, List.getElem?_cons_succ, List.getElem?_cons_zero, Option.getD_some, if_true]
    rw [e1, e2, e3]
theorem endL_isP (e : En) : isP (endL e) 7 5 = true := rfl
theorem endL_not (e : En) : isP (endL e) 9 4 = false := rfl
theorem faceH_isP (i : Int) (f : Fc) : isP (faceH i f) 9 4 = true := rfl
theorem exOk_not {x : List Int} (h : exOk x = true) : isP x 9 4 = false ∧ isP x 7 5 = false := by
  obtain ⟨_, _, h4⟩ := (exOk_iff x).1 h
  have e1 : (x.getD 1 0 == 4) = false := by rw [beq_eq_false_iff_ne]; omega
  have e2 : (x.getD 1 0 == 5) = false := by rw [beq_eq_false_iff_ne]; omega
  unfold isP
  rw [e1, e2]
  simp
theorem fold_ex (xs : List (List Int)) : ∀ (d : List Fc) (f : Fc) (r : List (List Int)), (∀ x ∈ xs, exOk x = true) →
    foldP (some (d, f)) (xs ++ r) = foldP (some (d, ⟨f.cl, f.su, f.pr, f.nm, f.ex ++ xs, f.en⟩)) r := by
  induction xs with
  | nil => intro d f r _; rw [List.append_nil, List.nil_append]
  | cons x xs ih =>
    intro d f r h
    obtain ⟨e1, e2⟩ := exOk_not (h x (by simp))
    have hs : stepP (some (d, f)) x = some (some (d, addX f x)) := by
      unfold stepP; rw [e1, e2]; rfl
    rw [List.cons_append, foldP, hs]
    show foldP (some (d, addX f x)) (xs ++ r) = _
    rw [ih d (addX f x) r (fun y hy => h y (by simp [hy]))]
    simp [addX]
theorem fold_en (es : List En) : ∀ (d : List Fc) (f : Fc) (r : List (List Int)), (∀ e ∈ es, endOk e = true) →
    foldP (some (d, f)) (es.map endL ++ r) = foldP (some (d, ⟨f.cl, f.su, f.pr, f.nm, f.ex, f.en ++ es⟩)) r := by
  induction es with
  | nil => intro d f r _; rw [List.append_nil, List.map_nil, List.nil_append]
  | cons x xs ih =>
    intro d f r h
    have hs : stepP (some (d, f)) (endL x) = some (some (d, addE f x)) := by
      unfold stepP; rw [endL_not, endL_isP, endO_endL (h x (by simp))]; rfl
    rw [List.map_cons, List.cons_append, foldP, hs]
    show foldP (some (d, addE f x)) (xs.map endL ++ r) = _
    rw [ih d (addE f x) r (fun y hy => h y (by simp [hy]))]
    simp [addE]
theorem fold_face (i : Int) (f : Fc) (h : FOk f) (q : Option (List Fc × Fc)) (r : List (List Int)) : foldP q (faceP i f ++ r) = foldP (some (toFs q, f)) r := by
  have hs : stepP q (faceH i f) = some (some (toFs q, ⟨f.cl, f.su, f.pr, f.nm, [], []⟩)) := by
    unfold stepP; rw [faceH_isP]; rfl
  rw [faceP, List.cons_append, foldP, hs]
  show foldP (some (toFs q, ⟨f.cl, f.su, f.pr, f.nm, [], []⟩)) _ = _
  rw [List.append_assoc, fold_ex _ _ _ _ h.ex, fold_en _ _ _ _ h.en]
  simp
theorem fold_faces (l : List Fc) : ∀ (i : Int) (q : Option (List Fc × Fc)), (∀ f ∈ l, FOk f) → foldP q (facesP i l) = some (toFs q ++ l) := by
  induction l with
  | nil => intro i q _; rw [facesP, foldP, List.append_nil]
  | cons f r ih =>
    intro i q h
    rw [facesP, fold_face i f (h f (by simp)), ih _ _ (fun g hg => h g (by simp [hg]))]
    simp [toFs]
theorem confO_confP {c : Cf} (h : COk c) : confO (confP c) = some c := by
  have e : (confH (9 + ((facesL 0 c.fs).length : Int)) (c.fs.length : Int) c).length = 9 := rfl
  rw [confP, confO, if_pos e, fold_faces _ _ _ h.fs]
  simp only [toFs, List.nil_append]
  rfl
/-- c is the one whose text is l -/
def isT (l : List Int) (c : Cf) : Prop := chkC c = 0 ∧ confL c = l
theorem isT_conf {l : List Int} {c : Cf} (h : isT l c) : confO (splitL l).2 = some c := by
  rw [← h.2, split_confL (chkC_ok h.1)]
  exact confO_confP (chkC_ok h.1)
theorem isT_one {l : List Int} {c c' : Cf} (h : isT l c) (h' : isT l c') : c = c' := by
  have := (isT_conf h).symm.trans (isT_conf h')
  injection this

/-- the document's way: endpoints, other pieces, a face, faces -/
def refEnds : Nat → List (List Int) → Option (List En × List (List Int))
  | 0, l => some ([], l)
  | _ + 1, [] => none
  | n + 1, p :: r => if isP p 7 5 = true then match refEnds n r with
      | none => none
      | some (es, t) => some (endO p :: es, t)
    else none
def refEx : List (List Int) → List (List Int) × List (List Int)
  | [] => ([], [])
  | p :: r => if 5 < p.getD 1 0 then (p :: (refEx r).1, (refEx r).2) else ([], p :: r)
def faceB (i : Int) (h : List Int) : Bool := isP h 9 4 && (h.getD 2 0 == i && h.getD 3 0 == 0)
theorem faceB_iff (i : Int) (h : List Int) : faceB i h = true ↔ (h.length = 9 ∧ h.getD 1 0 = 4) ∧ h.getD 2 0 = i ∧ h.getD 3 0 = 0 := by
  simp [faceB, isP]
def refFace (i : Int) : List (List Int) → Option (Fc × List (List Int))
  | [] => none
  | h :: r => if faceB i h = true then match refEnds (h.getD 4 0).toNat (refEx r).2 with
      | none => none
      | some (es, t) => some (⟨h.getD 5 0, h.getD 6 0, h.getD 7 0, h.getD 8 0, (refEx r).1, es⟩, t)
    else none
def refFaces : Nat → Int → List (List Int) → Option (List Fc × List (List Int))
  | 0, _, l => some ([], l)
  | n + 1, i, l => match refFace i l with
    | none => none
    | some (f, t) => match refFaces n (i + 1) t with
      | none => none
      | some (fs, u) => some (f :: fs, u)
def confB (len : Int) (h : List Int) : Bool := isP h 9 2 && ((h.getD 2 0 + 256 * h.getD 3 0 == len) && decide (h.getD 4 0 ≤ 4))
theorem confB_iff (len : Int) (h : List Int) : confB len h = true ↔ (h.length = 9 ∧ h.getD 1 0 = 2) ∧ h.getD 2 0 + 256 * h.getD 3 0 = len ∧ h.getD 4 0 ≤ 4 := by
  simp [confB, isP]
def refC (len : Int) : List (List Int) → Option (Cf × List (List Int))
  | [] => none
  | h :: r => if confB len h = true then match refFaces (h.getD 4 0).toNat 0 r with
      | none => none
      | some (fs, t) => some (⟨h.getD 5 0, h.getD 6 0, h.getD 7 0, h.getD 8 0, fs⟩, t)
    else none

theorem refEx_ex (xs : List (List Int)) (h : ∀ x ∈ xs, exOk x = true) (r : List (List Int)) (hr : ∀ p t, r = p :: t → ¬ 5 < p.getD 1 0) : refEx (xs ++ r) = (xs, r) := by
  induction xs with
  | nil =>
    cases r with
    | nil => rfl
    | cons p t => rw [List.nil_append, refEx, if_neg (hr p t rfl)]
  | cons x xs ih =>
    obtain ⟨_, _, h4⟩ := (exOk_iff x).1 (h x (by simp))
    rw [List.cons_append, refEx, if_pos (by omega), ih (fun y hy => h y (by simp [hy]))]
theorem refEnds_en (es : List En) (h : ∀ e ∈ es, endOk e = true) (r : List (List Int)) : refEnds es.length (es.map endL ++ r) = some (es, r) := by
  induction es with
  | nil => rfl
  | cons x xs ih =>
    rw [List.length_cons, List.map_cons, List.cons_append, refEnds, if_pos (endL_isP x), ih (fun y hy => h y (by simp [hy])), endO_endL (h x (by simp))]
theorem head_faces (l : List Fc) (i : Int) : ∀ p t, facesP i l = p :: t → ¬ 5 < p.getD 1 0 := by
  intro p t h
  cases l with
  | nil => simp [facesP] at h
  | cons f r =>
    rw [facesP, faceP, List.cons_append] at h
    injection h with h1 h2
    rw [← h1]
    simp [faceH]
theorem refFace_face (i : Int) (f : Fc) (h : FOk f) (r : List (List Int)) (hr : ∀ p t, r = p :: t → ¬ 5 < p.getD 1 0) : refFace i (faceP i f ++ r) = some (f, r) := by
  have hb : faceB i (faceH i f) = true := (faceB_iff _ _).2 ⟨⟨rfl, rfl⟩, rfl, rfl⟩
  have hx : refEx (f.ex ++ f.en.map endL ++ r) = (f.ex, f.en.map endL ++ r) := by
    rw [List.append_assoc]
    refine refEx_ex _ h.ex _ fun p t hp => ?_
    cases he : f.en with
    | nil => rw [he, List.map_nil, List.nil_append] at hp; exact hr p t hp
    | cons e es =>
      rw [he, List.map_cons, List.cons_append] at hp
      injection hp with h1 h2
      rw [← h1]
      simp [endL]
  have hn : ((faceH i f).getD 4 0).toNat = f.en.length := by simp [faceH]
  rw [faceP, List.cons_append, refFace, if_pos hb, hx, hn, refEnds_en _ h.en]
  rfl
theorem refFaces_faces (l : List Fc) : ∀ i : Int, (∀ f ∈ l, FOk f) → refFaces l.length i (facesP i l) = some (l, []) := by
  induction l with
  | nil => intro i _; rfl
  | cons f r ih =>
    intro i h
    rw [List.length_cons, facesP, refFaces, refFace_face i f (h f (by simp)) _ (head_faces r (i + 1))]
    simp only
    rw [ih (i + 1) (fun g hg => h g (by simp [hg]))]
theorem refC_confP {c : Cf} (h : COk c) : refC ((confL c).length : Int) (confP c) = some (c, []) := by
  have hl := confL_length c
  have hle := confL_le h
  have hb : confB ((confL c).length : Int) (confH (9 + ((facesL 0 c.fs).length : Int)) (c.fs.length : Int) c) = true := by
    refine (confB_iff _ _).2 ⟨⟨rfl, rfl⟩, ?_, ?_⟩
    · simp only [confH, wrd, List.cons_append, List.nil_append, List.getD, List.getElem?_cons_succ, List.getElem?_cons_zero, Option.getD_some]
      omega
    · simp only [confH, wrd, List.cons_append, List.nil_append, List.getD, List.getElem?_cons_succ, List.getElem?_cons_zero, Option.getD_some]
      have := h.len
      omega
  have hn : ((confH (9 + ((facesL 0 c.fs).length : Int)) (c.fs.length : Int) c).getD 4 0).toNat = c.fs.length := by
    simp only [confH, wrd, List.cons_append, List.nil_append, List.getD, List.getElem?_cons_succ, List.getElem?_cons_zero, Option.getD_some]
    omega
  rw [confP, refC, if_pos hb, hn, refFaces_faces _ _ h.fs]
  rfl

theorem seven {p : List Int} (h : p.length = 7) : ∃ a0 a1 a2 a3 a4 a5 a6, p = [a0, a1, a2, a3, a4, a5, a6] := by
  match p, h with
  | [a0, a1, a2, a3, a4, a5, a6], _ => exact ⟨a0, a1, a2, a3, a4, a5, a6, rfl⟩
theorem nine {p : List Int} (h : p.length = 9) : ∃ a0 a1 a2 a3 a4 a5 a6 a7 a8, p = [a0, a1, a2, a3, a4, a5, a6, a7, a8] := by
  match p, h with
  | [a0, a1, a2, a3, a4, a5, a6, a7, a8], _ => exact ⟨a0, a1, a2, a3, a4, a5, a6, a7, a8, rfl⟩
theorem endL_endO {p : List Int} (h : isP p 7 5 = true) (hp : piece p) (hb : Byt p) : endL (endO p) = p := by
  obtain ⟨h1, h2⟩ := (isP_iff _ _ _).1 h
  obtain ⟨a0, a1, a2, a3, a4, a5, a6, rfl⟩ := seven h1
  have h3 := hp.2
  have b2 := hb a2 (by simp)
  have b4 := hb a4 (by simp)
  have b5 := hb a5 (by simp)
  simp only [List.getD, List.getElem?_cons_succ, List.getElem?_cons_zero, Option.getD_some, List.length_cons, List.length_nil] at h2 h3
  simp only [endL, endO, wrd, List.cons_append, List.nil_append, List.getD, List.getElem?_cons_succ, List.getElem?_cons_zero, Option.getD_some]
  have e2 : (a4 + 256 * a5) % 256 = a4 := by omega
  have e3 : (a4 + 256 * a5) / 256 = a5 := by omega
  have e1 : a2 % 128 + (if decide (128 ≤ a2) = true then 128 else 0) = a2 := by
    by_cases h : 128 ≤ a2
    · rw [decide_eq_true h, if_pos rfl]; omega
    · rw [decide_eq_false h, if_neg (by simp)]; omega
  have e4 : ([7, 5, a2 % 128 + (if decide (128 ≤ a2) = true then 128 else 0), a3, (a4 + 256 * a5) % 256, (a4 + 256 * a5) / 256, a6] : List Int) = [a0, a1, a2, a3, a4, a5, a6] := by
    rw [e1, e2, e3, h2, h3]; rfl
  exact e4
/-- pieces that are bytes -/
def PB (l : List (List Int)) : Prop := ∀ p ∈ l, piece p ∧ Byt p
theorem PB.tail {p : List Int} {l : List (List Int)} (h : PB (p :: l)) : PB l := fun q hq => h q (by simp [hq])
theorem refEnds_back (n : Nat) : ∀ (l : List (List Int)) (es : List En) (t : List (List Int)), PB l → refEnds n l = some (es, t) → es.length = n ∧ l = es.map endL ++ t := by
  induction n with
  | zero => intro l es t _ h; rw [refEnds] at h; injection h with h; injection h with h1 h2; subst h1 h2; exact ⟨rfl, rfl⟩
  | succ n ih =>
    intro l es t hl h
    cases l with
    | nil => rw [refEnds] at h; cases h
    | cons p r =>
      rw [refEnds] at h
      by_cases hp : isP p 7 5 = true
      · rw [if_pos hp] at h
        cases hr : refEnds n r with
        | none => rw [hr] at h; cases h
        | some q =>
          obtain ⟨es', t'⟩ := q
          rw [hr] at h
          injection h with h
          injection h with h1 h2
          subst h1 h2
          obtain ⟨i1, i2⟩ := ih r es' t' hl.tail hr
          obtain ⟨g1, g2⟩ := hl p (by simp)
          refine ⟨by rw [List.length_cons, i1], ?_⟩
          rw [List.map_cons, endL_endO hp g1 g2, List.cons_append, ← i2]
      · rw [if_neg hp] at h; cases h
theorem refEx_back (l : List (List Int)) : l = (refEx l).1 ++ (refEx l).2 := by
  induction l with
  | nil => rfl
  | cons p r ih =>
    rw [refEx]
    split
    · show p :: r = p :: ((refEx r).1 ++ (refEx r).2)
      rw [← ih]
    · rfl
theorem PB.part {a b : List (List Int)} (h : PB (a ++ b)) : PB b := fun q hq => h q (List.mem_append_right _ hq)
theorem refFace_back {i : Int} {l : List (List Int)} {f : Fc} {t : List (List Int)} (hl : PB l) (h : refFace i l = some (f, t)) : l = faceP i f ++ t := by
  cases l with
  | nil => rw [refFace] at h; cases h
  | cons p r =>
    rw [refFace] at h
    by_cases hp : faceB i p = true
    · rw [if_pos hp] at h
      cases hr : refEnds (p.getD 4 0).toNat (refEx r).2 with
      | none => rw [hr] at h; cases h
      | some q =>
        obtain ⟨es', t'⟩ := q
        rw [hr] at h
        injection h with h
        injection h with h1 h2
        subst h1 h2
        have hb := refEx_back r
        have hpb : PB (refEx r).2 := by
          have := hl.tail
          rw [hb] at this
          exact this.part
        obtain ⟨i1, i2⟩ := refEnds_back _ _ _ _ hpb hr
        obtain ⟨g1, g2⟩ := hl p (by simp)
        obtain ⟨⟨k1, k2⟩, k3, k4⟩ := (faceB_iff _ _).1 hp
        obtain ⟨a0, a1, a2, a3, a4, a5, a6, a7, a8, rfl⟩ := nine k1
        have h3 := g1.2
        have b4 := g2 a4 (by simp)
        simp only [List.getD, List.getElem?_cons_succ, List.getElem?_cons_zero, Option.getD_some, List.length_cons, List.length_nil] at k2 k3 k4 h3 i1
        have e : faceH i (⟨a5, a6, a7, a8, (refEx r).1, es'⟩ : Fc) = [a0, a1, a2, a3, a4, a5, a6, a7, a8] := by
          simp only [faceH]
          rw [k2, k3, k4, h3, i1]
          have : (a4.toNat : Int) = a4 := by omega
          rw [this]
          rfl
        show _ = faceP i (⟨a5, a6, a7, a8, (refEx r).1, es'⟩ : Fc) ++ t'
        rw [faceP, e, List.cons_append]
        congr 1
        show r = ((refEx r).1 ++ es'.map endL) ++ t'
        rw [List.append_assoc, ← i2, ← hb]
    · rw [if_neg hp] at h; cases h
theorem refFaces_back (n : Nat) : ∀ (i : Int) (l : List (List Int)) (fs : List Fc) (t : List (List Int)), PB l → refFaces n i l = some (fs, t) → fs.length = n ∧ l = facesP i fs ++ t := by
  induction n with
  | zero => intro i l fs t _ h; rw [refFaces] at h; injection h with h; injection h with h1 h2; subst h1 h2; exact ⟨rfl, rfl⟩
  | succ n ih =>
    intro i l fs t hl h
    rw [refFaces] at h
    cases hf : refFace i l with
    | none => rw [hf] at h; cases h
    | some q =>
      obtain ⟨f, r⟩ := q
      rw [hf] at h
      simp only at h
      have e := refFace_back hl hf
      cases hr : refFaces n (i + 1) r with
      | none => rw [hr] at h; cases h
      | some q =>
        obtain ⟨fs', t'⟩ := q
        rw [hr] at h
        injection h with h
        injection h with h1 h2
        subst h1 h2
        have hpb : PB r := by rw [e] at hl; exact hl.part
        obtain ⟨i1, i2⟩ := ih _ _ _ _ hpb hr
        refine ⟨by rw [List.length_cons, i1], ?_⟩
        rw [facesP, List.append_assoc, ← i2, ← e]
theorem refC_back {l : List (List Int)} {c : Cf} (hl : PB l) (h : refC (l.flatten.length : Int) l = some (c, [])) : confL c = l.flatten := by
  cases l with
  | nil => rw [refC] at h; cases h
  | cons p r =>
    rw [refC] at h
    by_cases hp : confB (((p :: r).flatten.length : Nat) : Int) p = true
    · rw [if_pos hp] at h
      cases hr : refFaces (p.getD 4 0).toNat 0 r with
      | none => rw [hr] at h; cases h
      | some q =>
        obtain ⟨fs', t'⟩ := q
        rw [hr] at h
        injection h with h
        injection h with h1 h2
        subst h1 h2
        obtain ⟨i1, i2⟩ := refFaces_back _ _ _ _ _ hl.tail hr
        obtain ⟨g1, g2⟩ := hl p (by simp)
        obtain ⟨⟨k1, k2⟩, k3, k4⟩ := (confB_iff _ _).1 hp
        have hfl : r.flatten = facesL 0 fs' := by
          rw [i2, List.append_nil, flatten_facesP]
        rw [List.flatten_cons, List.length_append, hfl] at k3
        rw [List.flatten_cons, hfl]
        obtain ⟨a0, a1, a2, a3, a4, a5, a6, a7, a8, rfl⟩ := nine k1
        have h3 := g1.2
        have b2 := g2 a2 (by simp)
        have b3 := g2 a3 (by simp)
        have b4 := g2 a4 (by simp)
        simp only [List.getD, List.getElem?_cons_succ, List.getElem?_cons_zero, Option.getD_some, List.length_cons, List.length_nil] at k2 k3 k4 h3 i1
        unfold confL
        congr 1
        simp only [confH, wrd, List.cons_append, List.nil_append, List.getD, List.getElem?_cons_succ, List.getElem?_cons_zero, Option.getD_some]
        have e1 : (9 + ((facesL 0 fs').length : Int)) % 256 = a2 := by omega
        have e2 : (9 + ((facesL 0 fs').length : Int)) / 256 = a3 := by omega
        have e3 : (fs'.length : Int) = a4 := by omega
        rw [e1, e2, e3, k2, h3]
        rfl
    · rw [if_neg hp] at h; cases h
end Go.Proofs.Ytebaepkghbihkaa.desc
