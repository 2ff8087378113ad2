/- Put, Get and Learn at rings that turns lead to; a ring's box in a call's own memory. -/
import Derived.Test.YtmapnkjmgpkhfaaRngL
namespace Go.Proofs.Ytmapnkjmgpkhfaa.ring
open Go Go.RowKit
set_option linter.unusedVariables false
set_option linter.unusedSimpArgs false
set_option maxRecDepth 100000

theorem st_chk {p : Nat} {s : Sx} (h : InvS p s) : chk (stS p s) = 0 := chk_ok.2 (st_rt h)
def rm (p : Nat) (s : Sx) : Bool := decide (s.all.length - s.seen < p - 1)
theorem Put_st (v : Value) {p : Nat} {s : Sx} (x : Int) (w : World) (hv : Rcs w v (stS p s).C) (h : InvS p s) :
    Calls Try.prog 9 #[rgW v (stS p s), .int .u64 x] w fun e w' => ∃ v', e = .returned (.tuple #[rgW v' (if rm p s = true then stS p (putS p s x) else zR), .int .i64 (if rm p s = true then 0 else 11)]) ∧ Tel w v' (if rm p s = true then stS p (putS p s x) else zR) w' := by
  have := Put_any v (stS p s) x w hv
  have e1 : ptV (stS p s) x = if rm p s = true then stS p (putS p s x) else zR := by
    unfold ptV
    rw [if_pos (st_chk h)]
    have h2 := putS_st h x
    have h3 : putB (stS p s) = rm p s := st_room h
    rw [h3] at h2 ⊢
    cases hb : rm p s
    · rfl
    · rw [hb] at h2
      rw [if_pos rfl, if_pos rfl]
      rw [if_pos rfl] at h2
      exact h2
  have e2 : ptC (stS p s) = if rm p s = true then 0 else 11 := by
    unfold ptC
    have h3 : putB (stS p s) = rm p s := st_room h
    rw [if_pos (st_chk h), h3]
  rw [e1, e2] at this
  exact this
def hasW (s : Sx) : Bool := decide (s.got < s.all.length)
def nxW (s : Sx) : Int := if s.got < s.all.length then s.all.getD s.got 0 else 0
theorem Get_st (v : Value) {p : Nat} {s : Sx} (w : World) (hv : Rcs w v (stS p s).C) (h : InvS p s) :
    Calls Try.prog 14 #[rgW v (stS p s)] w fun e w' => ∃ v', e = .returned (.tuple #[rgW v' (stS p (getS s)), .int .u64 (nxW s), .bool (hasW s), .int .i64 0]) ∧ Tel w v' (stS p (getS s)) w' := by
  have := Get_any v (stS p s) w hv
  have e1 : gtV (stS p s) = stS p (getS s) := by unfold gtV; rw [if_pos (st_chk h), getS_st h]
  have e3 : getB (stS p s) = hasW s := st_get h
  have e4 : gtB (stS p s) = hasW s := by unfold gtB; rw [if_pos (st_chk h), e3]
  have e2 : gtW (stS p s) = nxW s := by
    unfold gtW nxW
    rw [if_pos (st_chk h)]
    by_cases q : s.got < s.all.length
    · rw [if_pos q]; exact st_getW h q
    · rw [if_neg q]; unfold getW; rw [e3]; unfold hasW; rw [decide_eq_false q]; rfl
  rw [e1, e2, e4, st_chk h] at this
  exact this
theorem Learn_st (v : Value) {p : Nat} {s : Sx} (w : World) (hv : Rcs w v (stS p s).C) (h : InvS p s) :
    Calls Try.prog 15 #[rgW v (stS p s)] w fun e w' => ∃ v', e = .returned (.tuple #[rgW v' (stS p ⟨s.all, s.got, s.got⟩), .int .i64 0]) ∧ Tel w v' (stS p ⟨s.all, s.got, s.got⟩) w' := by
  have := Learn_any v (stS p s) w hv
  have e1 : lnV (stS p s) = stS p ⟨s.all, s.got, s.got⟩ := by unfold lnV; rw [if_pos (st_chk h), lrnS_st]
  rw [e1, st_chk h] at this
  exact this
/-- a ring in the box X, its cells in memory that was made since w -/
def RB (w : World) (X : Nat) (v : Value) (r : Rg) (u : World) : Prop := u.heap[X]? = some (rgOf v r) ∧ Ces u w.heap.size v r.C ∧ Below w.heap.size w u ∧ w.heap.size ≤ X
section
variable {w u x : World} {X : Nat} {v : Value} {r : Rg}
theorem RB.below (h : RB w X v r u) (hb : Below u.heap.size u x) : RB w X v r x := ⟨keep h.1 hb, h.2.1.below hb, bsq h.2.2.1 hb, h.2.2.2⟩
/-- another ring is put into it -/
theorem RB.put (h : RB w X v r u) (v' : Value) (r' : Rg) (hv : Ces u w.heap.size v' r'.C) : ∃ uf, (((((u.setCell ⟨X, 0, none⟩ v').setCell ⟨X, 1, none⟩ (.int .i64 r'.pa)).setCell ⟨X, 2, none⟩ (.int .i64 r'.pb)).setCell ⟨X, 3, none⟩ (.int .i64 r'.ga)).setCell ⟨X, 4, none⟩ (.int .i64 r'.gb)).setCell ⟨X, 5, none⟩ (.int .i64 r'.sn) = uf ∧ RB w X v' r' uf ∧ (∀ k, k ≠ X → uf.heap[k]? = u.heap[k]?) ∧ (∀ (B : Nat) (w0 : World), B ≤ X → Below B w0 u → Below B w0 uf) := by
  obtain ⟨uf, huf, hXf, hBf, hkf, hsf⟩ := put6 u X v' (.int .i64 r'.pa) (.int .i64 r'.pb) (.int .i64 r'.ga) (.int .i64 r'.gb) (.int .i64 r'.sn) h.1
  exact ⟨uf, huf, ⟨hXf, by rw [← huf]; exact own6 hv h.1 _ _ _ _ _ _, hBf _ _ h.2.2.2 h.2.2.1, h.2.2.2⟩, hkf, hBf⟩
end
end Go.Proofs.Ytmapnkjmgpkhfaa.ring
