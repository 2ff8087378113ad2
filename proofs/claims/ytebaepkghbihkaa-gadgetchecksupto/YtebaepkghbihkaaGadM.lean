/- gadget: the plain mathematics: what is wrong with a sheet, and how a device answers. No program is named here. -/
import Derived.Test.YtebaepkghbihkaaGadH
import Derived.Test.YtebaepkghbihkaaDescQ
import Derived.Test.YtebaepkghbihkaaDescF
import Derived.Test.YtebaepkghbihkaaDescT
namespace Go.Proofs.Ytebaepkghbihkaa.gadget
open Go.RowKit Go.PlainAid Go.Proofs.Ytebaepkghbihkaa.lane Go.Proofs.Ytebaepkghbihkaa.setup
open Go.Proofs.Ytebaepkghbihkaa.desc (Dv Cf Fc En wdC wdT wcT chkC dtxt)
open Go.Proofs.Ytebaepkghbihkaa.utf (werr)
set_option linter.unusedVariables false

/-- is a gadget right? -/
def gR (s a h : Int) : Bool := inS 0 2 s && (inS 0 4294967295 h && ((s == 2 || h == 0) && ((s == 0 && a == 0) || (decide (0 < s) && inS 1 127 a))))
theorem gR_iff {s a h : Int} : gR s a h = true ↔ (s = 0 ∧ a = 0 ∧ h = 0) ∨ (s = 1 ∧ 1 ≤ a ∧ a ≤ 127 ∧ h = 0) ∨ (s = 2 ∧ 1 ≤ a ∧ a ≤ 127 ∧ 0 ≤ h ∧ h ≤ 4294967295) := by
  unfold gR
  simp only [Bool.and_eq_true, Bool.or_eq_true, inS_iff, beq_iff_eq, decide_eq_true_eq]
  omega
/-- the first error that is told of a text -/
def txE : List (List Int) → Int
  | [] => 0
  | t :: r => if werr (strOfNums t) = 0 then txE r else werr (strOfNums t)
/-- the numbers of texts that a sheet speaks of -/
def nms (d : Dv) (c : Cf) : List Int := [d.ma, d.nm, d.se, c.na] ++ c.fs.map Fc.nm
/-- is one of them above n? -/
def abv (n : Int) (l : List Int) : Bool := l.any fun x => decide (n < x)
/-- what is wrong with a sheet -/
def chkS (d : Dv) (c : Cf) (T : List (List Int)) : Int :=
  if wdC d ≠ 0 then wdC d else if d.cf ≠ 1 then 4 else if chkC c ≠ 0 then chkC c else if 8 < T.length then 2 else if txE T ≠ 0 then txE T else if abv T.length (nms d c) = true then 12 else 0
structure Ans where
  s : Int
  a : Int
  h : Int
  t : ByteArray
  e : Int
abbrev noT : ByteArray := ⟨#[]⟩
/-- the descriptor that a value calls -/
def desO (d : Dv) (c : Cf) (T : List (List Int)) (v : Int) : Option ByteArray :=
  if v = 256 then some (wdT d) else if v = 512 then some (wcT c) else if v = 768 then some (strOfNums [4, 3, 9, 4])
  else if 769 ≤ v ∧ v ≤ 768 + (T.length : Int) then some (dtxt (strOfNums (T.getD (v - 769).toNat []))) else none
/-- at most l bytes of a text, from the front -/
def cutT (t : ByteArray) (l : Int) : ByteArray := t.extract 0 (min t.size l.toNat)
def numE (e : En) : Int := if e.inw = true then e.ad + 128 else e.ad
def hasF (i : Int) (fs : List Fc) : Bool := fs.any fun f => f.en.any fun e => numE e == i
def hasE (c : Cf) (i : Int) : Bool := (i == 0 || i == 128) || hasF i c.fs
/-- the bit of an endpoint -/
def bitE (i : Int) : Nat := if i < 128 then i.toNat else (i - 112).toNat
/-- an error: all stands as it stood -/
def bad (s a h e : Int) : Ans := ⟨s, a, h, noT, e⟩
/-- the answer to an ask of a right device -/
def act (d : Dv) (c : Cf) (T : List (List Int)) (s a h k v i l : Int) : Ans :=
  if k = 1 then ⟨s, a, h, strOfNums [0, 0], 0⟩
  else if k = 5 then (match desO d c T v with | none => bad s a h 8 | some t => ⟨s, a, h, cutT t l, 0⟩)
  else if k = 4 then (if s = 2 then bad s a h 8 else if v = 0 then ⟨0, 0, 0, noT, 0⟩ else ⟨1, v, 0, noT, 0⟩)
  else if k = 6 then (if s = 0 then bad s a h 8 else if v = 0 then ⟨1, a, 0, noT, 0⟩ else if v = c.va then ⟨2, a, 0, noT, 0⟩ else bad s a h 8)
  else if k = 7 then (if s = 0 then bad s a h 8 else if s = 1 then ⟨s, a, h, strOfNums [0], 0⟩ else ⟨s, a, h, strOfNums [c.va], 0⟩)
  else if k = 2 ∨ k = 3 then (if s ≠ 2 then bad s a h 8 else if hasE c i = false then bad s a h 8 else if k = 3 then ⟨s, a, hOn h (bitE i), noT, 0⟩ else ⟨s, a, hOff h (bitE i), noT, 0⟩)
  else bad s a h 12
/-- what Control answers -/
def ctl (d : Dv) (c : Cf) (T : List (List Int)) (s a h : Int) (q : ByteArray) : Ans :=
  if chkS d c T ≠ 0 then bad s a h (chkS d c T) else if gR s a h = false then bad s a h 1 else if rC q ≠ 0 then bad s a h 8 else act d c T s a h (rK q) (rN q 2) (rN q 4) (rN q 6)

/-- what is read of an ask is one that can be asked -/
theorem read_good {q : ByteArray} (h : rC q = 0) : good (rK q) (rN q 2) (rN q 4) (rN q 6) = true := by
  obtain ⟨_, h2, h3⟩ := rC_zero h
  unfold hit at h3
  rw [Bool.and_eq_true] at h3
  unfold rN
  rw [if_neg h2, if_neg h2, if_neg h2]
  exact h3.1
theorem good_addr {v i l : Int} (h : good 4 v i l = true) : 0 ≤ v ∧ v ≤ 127 := by
  unfold good fitB at h
  simp [isK, te, inS, col, row] at h
  omega
theorem good_end {k v i l : Int} (h : good k v i l = true) (hk : k = 2 ∨ k = 3) : (0 ≤ i ∧ i ≤ 15) ∨ (128 ≤ i ∧ i ≤ 143) := by
  rcases hk with rfl | rfl <;>
  · unfold good fitB at h
    simp [isK, te, isE, inS, col, row] at h
    omega
theorem bitE_lt {i : Int} (h : (0 ≤ i ∧ i ≤ 15) ∨ (128 ≤ i ∧ i ≤ 143)) : bitE i < 32 := by
  unfold bitE; split <;> omega
theorem chkS_ok {d : Dv} {c : Cf} {T : List (List Int)} (h : chkS d c T = 0) : wdC d = 0 ∧ d.cf = 1 ∧ chkC c = 0 ∧ T.length ≤ 8 ∧ txE T = 0 := by
  unfold chkS at h
  by_cases h1 : wdC d = 0
  · rw [if_neg (by omega)] at h
    by_cases h2 : d.cf = 1
    · rw [if_neg (by omega)] at h
      by_cases h3 : chkC c = 0
      · rw [if_neg (by omega)] at h
        by_cases h4 : T.length ≤ 8
        · rw [if_neg (by omega)] at h
          by_cases h5 : txE T = 0
          · exact ⟨h1, h2, h3, h4, h5⟩
          · rw [if_pos h5] at h; exact absurd h h5
        · rw [if_pos (by omega)] at h; omega
      · rw [if_pos h3] at h; exact absurd h h3
    · rw [if_pos h2] at h; omega
  · rw [if_pos h1] at h; exact absurd h h1
theorem txE_all : ∀ {T : List (List Int)}, txE T = 0 → ∀ t ∈ T, werr (strOfNums t) = 0 := by
  intro T
  induction T with
  | nil => intro _ t ht; simp at ht
  | cons x r ih =>
    intro h t ht
    unfold txE at h
    by_cases hx : werr (strOfNums x) = 0
    · rw [if_pos hx] at h
      rcases List.mem_cons.1 ht with rfl | ht
      · exact hx
      · exact ih h t ht
    · rw [if_neg hx] at h; exact absurd h hx
end Go.Proofs.Ytebaepkghbihkaa.gadget
