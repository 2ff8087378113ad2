/- greet: the plain mathematics: a greeting, what it asks, what it keeps of an answer. -/
import Derived.Test.YtonheibhbilhhaaZBc
import Derived.Test.YtonheibhbilhhaaDescZ
import Derived.Test.YtonheibhbilhhaaZAc
import Derived.Test.YtonheibhbilhhaaZAj
namespace Go.Proofs.Ytonheibhbilhhaa.greet
open Go Go.RowKit Go.PlainAid Go.Proofs.Ytonheibhbilhhaa.lane Go.Proofs.Ytonheibhbilhhaa.desc
open Go.Proofs.Ytonheibhbilhhaa.setup (inS inS_iff wrT wrC good txt)
set_option linter.unusedVariables false

structure Gr where
  st : Int
  tr : Int
  ad : Int
  m0 : Int
  tot : Int
  d : Dv
  c : Cf
  sr : ByteArray
  er : Int
def noGr : Gr := ⟨0, 0, 0, 0, 0, noD, noC, ⟨#[]⟩, 0⟩
/-- the first greeting -/
def nwG (a : Int) : Gr := { noGr with st := 1, ad := a }
def adB (a : Int) : Bool := inS 1 127 a
def byB (a : Int) : Bool := inS 0 255 a
/-- is a greeting right? -/
def okG (g : Gr) : Bool := inS 1 9 g.st && (inS 0 2 g.tr && (inS 1 127 g.ad && (inS 0 512 g.tot && (inS 0 255 g.d.se && inS 0 255 g.c.va))))
theorem okG_iff (g : Gr) : okG g = true ↔ (1 ≤ g.st ∧ g.st ≤ 9) ∧ (0 ≤ g.tr ∧ g.tr ≤ 2) ∧ (1 ≤ g.ad ∧ g.ad ≤ 127) ∧ (0 ≤ g.tot ∧ g.tot ≤ 512) ∧ (0 ≤ g.d.se ∧ g.d.se ≤ 255) ∧ (0 ≤ g.c.va ∧ g.c.va ≤ 255) := by
  simp [okG, inS]
/-- what is asked: kind, value, length -/
def askK (g : Gr) : Int := if g.st = 2 then 4 else if g.st = 7 then 6 else 5
def askV (g : Gr) : Int := if g.st = 1 then 256 else if g.st = 2 then g.ad else if g.st = 3 then 256 else if g.st = 4 then 512 else if g.st = 5 then 512 else if g.st = 6 then 768 + g.d.se else g.c.va
def askL (g : Gr) : Int := if g.st = 1 then 8 else if g.st = 3 then 18 else if g.st = 4 then 9 else if g.st = 5 then g.tot else if g.st = 6 then 255 else 0
theorem st_seven {g : Gr} (h : okG g = true) (h8 : ¬ 8 ≤ g.st) : g.st = 1 ∨ g.st = 2 ∨ g.st = 3 ∨ g.st = 4 ∨ g.st = 5 ∨ g.st = 6 ∨ g.st = 7 := by
  have := (okG_iff g).1 h
  omega
theorem ask_good {g : Gr} (h : okG g = true) (h8 : ¬ 8 ≤ g.st) : good (askK g) (askV g) 0 (askL g) = true := by
  obtain ⟨_, _, h1, h2, h3, h4⟩ := (okG_iff g).1 h
  rcases st_seven h h8 with e | e | e | e | e | e | e <;>
  · simp [good, setup.isK, setup.fitB, setup.te, setup.col, setup.row, askK, askV, askL, e, inS]
    try omega
/-- what Next tells -/
def nxE (g : Gr) : Int := if okG g = false then 1 else if 8 ≤ g.st then 12 else 0
def nxT (g : Gr) : ByteArray := if okG g = false then ⟨#[]⟩ else if 8 ≤ g.st then ⟨#[]⟩ else wrT (askK g) (askV g) 0 (askL g)
/-- the word at 2 -/
def w2 (s : ByteArray) : Int := bt s 2 + 256 * bt s 3
/-- the configuration that a text is -/
def rcO (s : ByteArray) : Option Cf :=
  if splC (nums s) = 0 then (match confO (splitL (nums s)).2 with | some c => if chkC c = 0 ∧ confL c = nums s then some c else none | none => none) else none
theorem rcO_some {s : ByteArray} {c : Cf} (h : splC (nums s) = 0) (hc : isT (nums s) c) : rcO s = some c := by
  unfold rcO
  rw [if_pos h, isT_conf hc]
  exact if_pos hc
theorem rcO_is {s : ByteArray} {c : Cf} (h : rcO s = some c) : splC (nums s) = 0 ∧ isT (nums s) c := by
  unfold rcO at h
  split at h
  · rename_i h1
    split at h
    · split at h
      · rename_i h2; injection h with h; subst h; exact ⟨h1, h2⟩
      · cases h
    · cases h
  · cases h
theorem rcO_none {s : ByteArray} (h : splC (nums s) ≠ 0 ∨ ∀ c, ¬ isT (nums s) c) : rcO s = none := by
  cases q : rcO s with
  | none => rfl
  | some c =>
    obtain ⟨h1, h2⟩ := rcO_is q
    rcases h with h | h
    · exact absurd h1 h
    · exact absurd h2 (h c)
/-- is it the head of a device? -/
def hdD (s : ByteArray) : Bool := decide (s.size = 8) && (bt s 0 == 18 && (bt s 1 == 1 && m0B (bt s 7)))
def hdC (s : ByteArray) : Bool := decide (s.size = 9) && (bt s 0 == 9 && (bt s 1 == 2 && inS 9 512 (w2 s)))
def okD (s : ByteArray) (m : Int) : Bool := rdE s == 0 && ((rdD s).m0 == m && (rdD s).cf == 1)
/-- what is kept of a good answer -/
def keepV (g : Gr) (s : ByteArray) : Option Gr :=
  if g.st = 1 then (if hdD s = true then some { g with m0 := bt s 7 } else none)
  else if g.st = 3 then (if okD s g.m0 = true then some { g with d := rdD s } else none)
  else if g.st = 4 then (if hdC s = true then some { g with tot := w2 s } else none)
  else if g.st = 5 then (match rcO s with | some c => if (s.size : Int) = g.tot then some { g with c := c } else none | none => none)
  else if g.st = 6 then (if rdC s = 0 then some { g with sr := rdT s } else none)
  else if s.size = 0 then some g else none
def stepB (g : Gr) : Int := if g.st = 5 ∧ g.d.se = 0 then 7 else g.st + 1
def missG (g : Gr) (e : Int) : Gr := if g.tr = 2 then { g with tr := 0, st := 9, er := e } else { g with tr := g.tr + 1 }
/-- what Tell tells -/
def tlG (g : Gr) (s : ByteArray) (e : Int) : Gr :=
  if nxE g ≠ 0 then g else if e ≠ 0 then missG g e else match keepV g s with | none => missG g 4 | some k => { k with tr := 0, st := stepB k }
/-- small enough to be copied -/
structure Wt (c : Cf) : Prop where
  fs : c.fs.length * 80 ≤ 140737488351232
  each : ∀ f ∈ c.fs, f.ex.length * 16 ≤ 140737488351232 ∧ f.en.length * 40 ≤ 140737488351232
theorem wt_ok {c : Cf} (h : chkC c = 0) : Wt c := by
  have hc := chkC_ok h
  refine ⟨?_, fun f hf => ?_⟩
  · have := hc.len; omega
  · have h1 := (hc.fs f hf).exl
    have h2 := (hc.fs f hf).enl
    omega
theorem keep_c {g k : Gr} {s : ByteArray} (h : keepV g s = some k) : k.c = g.c ∨ ∃ c, rcO s = some c ∧ k.c = c := by
  unfold keepV at h
  split at h
  · split at h
    · injection h with h; subst h; exact .inl rfl
    · cases h
  split at h
  · split at h
    · injection h with h; subst h; exact .inl rfl
    · cases h
  split at h
  · split at h
    · injection h with h; subst h; exact .inl rfl
    · cases h
  split at h
  · split at h
    · rename_i c hc
      split at h
      · injection h with h; subst h; exact .inr ⟨c, hc, rfl⟩
      · cases h
    · cases h
  split at h
  · split at h
    · injection h with h; subst h; exact .inl rfl
    · cases h
  split at h
  · injection h with h; subst h; exact .inl rfl
  · cases h
theorem miss_c (g : Gr) (e : Int) : (missG g e).c = g.c := by unfold missG; split <;> rfl
theorem wt_tl {g : Gr} (h : Wt g.c) (s : ByteArray) (e : Int) : Wt (tlG g s e).c := by
  unfold tlG
  split
  · exact h
  split
  · rw [miss_c]; exact h
  split
  · rw [miss_c]; exact h
  · rename_i k hk
    show Wt k.c
    rcases keep_c hk with e | ⟨c, h1, e⟩
    · rw [e]; exact h
    · rw [e]; exact wt_ok (rcO_is h1).2.1
end Go.Proofs.Ytonheibhbilhhaa.greet
