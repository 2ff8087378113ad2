/- plugref's ReadConfig, plain: the document's reading, step by step. -/
import Derived.Test.YtonheibhbilhhaaGreatDescZ
import Derived.Test.YtonheibhbilhhaaGreatZBd
namespace Go.Proofs.YtonheibhbilhhaaGreat.desc
open Go.RowKit Go.PlainAid Go.Proofs.YtonheibhbilhhaaGreat.lane
set_option linter.unusedVariables false
def preF (a : List Fc) : Option (List Fc × List (List Int)) → Option (List Fc × List (List Int))
 | none => none
 | some (fs, u) => some (a ++ fs, u)
def preE (a : List En) : Option (List En × List (List Int)) → Option (List En × List (List Int))
 | none => none
 | some (es, u) => some (a ++ es, u)
theorem preF_none {a : List Fc} {n : Nat} {i : Int} {l : List (List Int)} (h : refFace i l = none) : preF a (refFaces (n + 1) i l) = none := by rw [refFaces, h]; rfl
theorem preF_some {a : List Fc} {n : Nat} {i : Int} {l t : List (List Int)} {f : Fc} (h : refFace i l = some (f, t)) : preF a (refFaces (n + 1) i l) = preF (a ++ [f]) (refFaces n (i + 1) t) := by
 rw [refFaces, h]
 simp only
 cases refFaces n (i + 1) t with
 | none => rfl
 | some q => simp [preF]
theorem preE_none {a : List En} {n : Nat} {p : List Int} {r : List (List Int)} (h : isP p 7 5 = false) : preE a (refEnds (n + 1) (p :: r)) = none := by rw [refEnds, if_neg (by simp [h])]; rfl
theorem preE_some {a : List En} {n : Nat} {p : List Int} {r : List (List Int)} (h : isP p 7 5 = true) : preE a (refEnds (n + 1) (p :: r)) = preE (a ++ [endO p]) (refEnds n r) := by
 rw [refEnds, if_pos h]
 cases refEnds n r with
 | none => rfl
 | some q => simp [preE]
theorem refEx_more {p : List Int} {r : List (List Int)} (h : 5 < p.getD 1 0) (a : List (List Int)) : (a ++ (refEx (p :: r)).1, (refEx (p :: r)).2) = ((a ++ [p]) ++ (refEx r).1, (refEx r).2) := by
 rw [refEx, if_pos h]; simp
theorem refEx_stop {p : List Int} {r : List (List Int)} (h : ¬ 5 < p.getD 1 0) : refEx (p :: r) = ([], p :: r) := by rw [refEx, if_neg h]
theorem refFace_no {i : Int} {h : List Int} {r : List (List Int)} (hf : faceB i h = false) : refFace i (h :: r) = none := by rw [refFace, if_neg (by simp [hf])]
theorem refFace_ends {i : Int} {h : List Int} {r : List (List Int)} (hf : faceB i h = true) (he : refEnds (h.getD 4 0).toNat (refEx r).2 = none) : refFace i (h :: r) = none := by rw [refFace, if_pos hf, he]
theorem refFace_is {i : Int} {h : List Int} {r t : List (List Int)} {es : List En} (hf : faceB i h = true) (he : refEnds (h.getD 4 0).toNat (refEx r).2 = some (es, t)) : refFace i (h :: r) = some (⟨h.getD 5 0, h.getD 6 0, h.getD 7 0, h.getD 8 0, (refEx r).1, es⟩, t) := by rw [refFace, if_pos hf, he]
theorem ref_is {s : ByteArray} (h : splC (nums s) = 0) {c : Cf} : isT (nums s) c ↔ refC (s.size : Int) (splP (nums s)) = some (c, []) ∧ chkC c = 0 := by
 obtain ⟨_, _, hp, hl⟩ := splP_len h
 have h' := h
 unfold splC at h'
 rw [if_neg (by omega)] at h'
 obtain ⟨h1, h2⟩ := split_pieces h'
 rw [← hp] at h1 h2
 have hpb : PB (splP (nums s)) := fun p hq => ⟨h2 p hq, splP_byt s p hq⟩
 have hs : (s.size : Int) = ((splP (nums s)).flatten.length : Int) := by rw [h1, nums_length]
 constructor
 ·intro ht
  refine ⟨?_, ht.1⟩
  have e1 : splP (nums s) = confP c := by rw [hp, ← ht.2, split_confL (chkC_ok ht.1)]
  rw [hs, e1, flatten_confP]
  exact refC_confP (chkC_ok ht.1)
 ·rintro ⟨h3, h4⟩
  refine ⟨h4, ?_⟩
  rw [hs] at h3
  rw [refC_back hpb h3, h1]
theorem ref_not {s : ByteArray} (h : splC (nums s) = 0) (hn : refC (s.size : Int) (splP (nums s)) = none) : ∀ c, ¬ isT (nums s) c := fun c hc => by
 have := ((ref_is h).1 hc).1
 rw [hn] at this
 cases this
theorem ref_other {s : ByteArray} (h : splC (nums s) = 0) {c : Cf} {t : List (List Int)} (hn : refC (s.size : Int) (splP (nums s)) = some (c, t)) (hq : ¬ (chkC c = 0 ∧ t = [])) : ∀ c', ¬ isT (nums s) c' := fun c' hc => by
 obtain ⟨h1, h2⟩ := (ref_is h).1 hc
 rw [hn] at h1
 injection h1 with h1
 injection h1 with h3 h4
 subst h3 h4
 exact hq ⟨h2, rfl⟩
def FrP (w w' : World) (vf : Value) (L : FL) : Prop := w'.ownsRow w.heap.size 74 6 vf L.length (fcells L) ∧ (∀ q ∈ L, Txs w' w.heap.size q.2.1 q.1.ex) ∧ ∀ q ∈ L, Eds w' w.heap.size q.2.2 q.1.en
def RrP (s : ByteArray) (w : World) (e : Ending) (w' : World) : Prop :=
 (splC (nums s) ≠ 0 ∧ e = .returned (.tuple #[cfV noC (.slice none 0 0), .int .i64 (splC (nums s))]) ∧ Below w.heap.size w w') ∨
 (splC (nums s) = 0 ∧ (∀ c, ¬ isT (nums s) c) ∧ e = .returned (.tuple #[cfV noC (.slice none 0 0), .int .i64 4]) ∧ Below w.heap.size w w') ∨
 (∃ c vf L, splC (nums s) = 0 ∧ isT (nums s) c ∧ e = .returned (.tuple #[cfV c vf, .int .i64 0]) ∧ Rc w' vf c L ∧ FrP w w' vf L ∧ Below w.heap.size w w')
theorem Rts.tail {w : World} {g off n c : Nat} {p : List Int} {r : List (List Int)} {a1 : Option Addr} (h : Rts w (.slice (some ⟨g, off, none⟩) (n + 1) c) (p :: r)) (ha : 0 < n → a1 = some ⟨g, off + 1, none⟩) : Rts w (.slice a1 n (c - 1)) r := by
 obtain ⟨a', c', e, h1, h2, h3, h4⟩ := h
 injection e with e1 e2 e3
 subst e3
 rw [List.length_cons] at e2 h1 h3
 have hn : r.length = n := by omega
 refine ⟨a1, c - 1, by rw [hn], by omega, by omega, by rw [tcells_length]; omega, fun h0 => ?_⟩
 obtain ⟨g', off', q1, q2, q3⟩ := h4 (by rw [List.length_cons]; omega)
 rw [← e1] at q1
 injection q1 with q1
 injection q1 with q4 q5
 subst q4 q5
 refine ⟨g, off + 1, ha (by omega), q2, fun j x hx => ?_⟩
 have := q3 (j + 1) x (by simpa [tcells] using hx)
 rw [show off + 1 + j = off + (j + 1) by omega]
 exact this
def lenOf : Value → Nat
 | .slice _ n _ => n
 | _ => 0
end Go.Proofs.YtonheibhbilhhaaGreat.desc
namespace Go.Proofs.YtonheibhbilhhaaGreat.descReads
open Go.RowKit Go.PlainAid Go.Proofs.YtonheibhbilhhaaGreat.lane Go.Proofs.YtonheibhbilhhaaGreat.desc
set_option linter.unusedVariables false
set_option linter.unusedSimpArgs false
set_option maxRecDepth 100000
def RrAll : Prop := ∀ (s : ByteArray) (w : World), s.size ≤ maxLen → Calls Tryz.prog 81 #[.string s] w (RrP s w)
end Go.Proofs.YtonheibhbilhhaaGreat.descReads
