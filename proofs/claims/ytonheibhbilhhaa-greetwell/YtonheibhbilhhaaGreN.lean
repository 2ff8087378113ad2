/- greet: the plain mathematics: greetings stay right; a device is met. -/
import Derived.Test.YtonheibhbilhhaaGreM
import Derived.Test.YtonheibhbilhhaaGreF
import Derived.Test.YtonheibhbilhhaaZAp
namespace Go.Proofs.Ytonheibhbilhhaa.greet
open Go Go.RowKit Go.PlainAid Go.Proofs.Ytonheibhbilhhaa.lane Go.Proofs.Ytonheibhbilhhaa.desc Go.Proofs.Ytonheibhbilhhaa.gadget
open Go.Proofs.Ytonheibhbilhhaa.setup (inS inS_iff wrT wrC good txt)
set_option linter.unusedVariables false

theorem nx_ok {g : Gr} : nxE g = 0 ↔ okG g = true ∧ ¬ 8 ≤ g.st := by
  unfold nxE
  cases h : okG g with
  | false => simp
  | true =>
    by_cases h8 : 8 ≤ g.st
    · simp [h8]
    · simp [h8]
theorem rd_ok {s : ByteArray} (h : rdE s = 0) : rdD s = devO s ∧ devOk (devO s) = true ∧ strOfNums (devL (devO s)) = s := by
  unfold rdE at h
  unfold rdD
  by_cases h1 : s.size < 18
  · rw [if_pos h1] at h; omega
  rw [if_neg h1] at h ⊢
  by_cases h2 : isDev s = true
  · rw [if_pos h2] at h ⊢
    have h3 := h2
    unfold isDev at h3
    rw [Bool.and_eq_true, decide_eq_true_eq] at h3
    exact ⟨rfl, h3.1, h3.2⟩
  · rw [if_neg h2] at h; omega
theorem dev_se {d : Dv} (h : devOk d = true) : 0 ≤ d.se ∧ d.se ≤ 255 := by
  unfold devOk at h
  simp only [Bool.and_eq_true] at h
  have := h.2.1
  simp [allB, inB] at this
  omega
theorem rc_va {s : ByteArray} {c : Cf} (h : rcO s = some c) : 1 ≤ c.va ∧ c.va ≤ 255 := (chkC_ok (rcO_is h).2.1).head.1
/-- how the parts of a kept greeting come -/
theorem keep_parts {g k : Gr} {s : ByteArray} (h : keepV g s = some k) : k.st = g.st ∧ k.tr = g.tr ∧ k.ad = g.ad ∧ k.er = g.er ∧
    (k.tot = g.tot ∨ (g.st = 4 ∧ hdC s = true ∧ k.tot = w2 s)) ∧ (k.d = g.d ∨ (g.st = 3 ∧ okD s g.m0 = true ∧ k.d = rdD s)) ∧ (k.c = g.c ∨ (g.st = 5 ∧ rcO s = some k.c)) := by
  unfold keepV at h
  split at h
  · split at h
    · injection h with h; subst h; exact ⟨rfl, rfl, rfl, rfl, .inl rfl, .inl rfl, .inl rfl⟩
    · cases h
  split at h
  · split at h
    · injection h with h; subst h; exact ⟨rfl, rfl, rfl, rfl, .inl rfl, .inr ⟨by assumption, by assumption, rfl⟩, .inl rfl⟩
    · cases h
  split at h
  · split at h
    · injection h with h; subst h; exact ⟨rfl, rfl, rfl, rfl, .inr ⟨by assumption, by assumption, rfl⟩, .inl rfl, .inl rfl⟩
    · cases h
  split at h
  · split at h
    · rename_i c hc
      split at h
      · injection h with h; subst h; exact ⟨rfl, rfl, rfl, rfl, .inl rfl, .inl rfl, .inr ⟨by assumption, hc⟩⟩
      · cases h
    · cases h
  split at h
  · split at h
    · injection h with h; subst h; exact ⟨rfl, rfl, rfl, rfl, .inl rfl, .inl rfl, .inl rfl⟩
    · cases h
  split at h
  · injection h with h; subst h; exact ⟨rfl, rfl, rfl, rfl, .inl rfl, .inl rfl, .inl rfl⟩
  · cases h
theorem w2_of {s : ByteArray} (h : hdC s = true) : 9 ≤ w2 s ∧ w2 s ≤ 512 := by
  unfold hdC at h
  simp only [Bool.and_eq_true] at h
  have := h.2.2.2
  simpa [inS] using this
theorem ok_kept {g k : Gr} {s : ByteArray} (hg : okG g = true) (h8 : ¬ 8 ≤ g.st) (h : keepV g s = some k) : okG { k with tr := 0, st := stepB k } = true := by
  obtain ⟨e1, e2, e3, e4, h1, h2, h3⟩ := keep_parts h
  rw [okG_iff] at hg ⊢
  have hs : stepB k = 7 ∨ stepB k = k.st + 1 := by unfold stepB; split <;> simp
  refine ⟨by show 1 ≤ stepB k ∧ stepB k ≤ 9; omega, ⟨(by omega : (0 : Int) ≤ 0), (by omega : (0 : Int) ≤ 2)⟩, by show 1 ≤ k.ad ∧ k.ad ≤ 127; omega, ?_, ?_, ?_⟩
  · show 0 ≤ k.tot ∧ k.tot ≤ 512
    rcases h1 with h1 | ⟨_, q, h1⟩
    · omega
    · have := w2_of q; omega
  · show 0 ≤ k.d.se ∧ k.d.se ≤ 255
    rcases h2 with h2 | ⟨_, q, h2⟩
    · rw [h2]; omega
    · rw [h2]
      unfold okD at q
      simp only [Bool.and_eq_true, beq_iff_eq] at q
      obtain ⟨r1, r2, _⟩ := rd_ok q.1
      rw [r1]
      exact dev_se r2
  · show 0 ≤ k.c.va ∧ k.c.va ≤ 255
    rcases h3 with h3 | ⟨_, q⟩
    · rw [h3]; omega
    · have := rc_va q; omega
theorem ok_miss {g : Gr} {e : Int} (hg : okG g = true) : okG (missG g e) = true := by
  rw [okG_iff] at hg
  unfold missG
  split
  · rw [okG_iff]
    refine ⟨⟨(by omega : (1 : Int) ≤ 9), (by omega : (9 : Int) ≤ 9)⟩, ⟨(by omega : (0 : Int) ≤ 0), (by omega : (0 : Int) ≤ 2)⟩, ?_, ?_, ?_, ?_⟩
    · exact hg.2.2.1
    · exact hg.2.2.2.1
    · exact hg.2.2.2.2.1
    · exact hg.2.2.2.2.2
  · rw [okG_iff]
    refine ⟨hg.1, ?_, hg.2.2.1, hg.2.2.2.1, hg.2.2.2.2.1, hg.2.2.2.2.2⟩
    show 0 ≤ g.tr + 1 ∧ g.tr + 1 ≤ 2
    omega
/-- what Tell tells, where something is asked -/
theorem tl_miss {g : Gr} {s : ByteArray} {e : Int} (h : nxE g = 0) (he : e ≠ 0) : tlG g s e = missG g e := by unfold tlG; rw [if_neg (fun z => z h), if_pos he]
theorem tl_none {g : Gr} {s : ByteArray} (h : nxE g = 0) (hk : keepV g s = none) : tlG g s 0 = missG g 4 := by unfold tlG; rw [if_neg (fun z => z h), if_neg (fun z => z rfl), hk]
theorem tl_some {g k : Gr} {s : ByteArray} (h : nxE g = 0) (hk : keepV g s = some k) : tlG g s 0 = { k with tr := 0, st := stepB k } := by unfold tlG; rw [if_neg (fun z => z h), if_neg (fun z => z rfl), hk]
theorem tl_cases {g : Gr} (h : nxE g = 0) (s : ByteArray) (e : Int) : (∃ z, z ≠ 0 ∧ tlG g s e = missG g z ∧ (e ≠ 0 → z = e) ∧ (e = 0 → z = 4)) ∨ (e = 0 ∧ ∃ k, keepV g s = some k ∧ tlG g s e = { k with tr := 0, st := stepB k }) := by
  by_cases he : e = 0
  · subst he
    cases hk : keepV g s with
    | none => exact .inl ⟨4, by decide, tl_none h hk, fun z => absurd rfl z, fun _ => rfl⟩
    | some k => exact .inr ⟨rfl, k, rfl, tl_some h hk⟩
  · exact .inl ⟨e, he, tl_miss h he, fun _ => rfl, fun z => absurd z he⟩
theorem ok_tl {g : Gr} (h : nxE g = 0) (s : ByteArray) (e : Int) : okG (tlG g s e) = true := by
  obtain ⟨h1, h8⟩ := nx_ok.1 h
  rcases tl_cases h s e with ⟨z, _, q, _⟩ | ⟨_, k, hk, q⟩
  · rw [q]; exact ok_miss h1
  · rw [q]; exact ok_kept h1 h8 hk
theorem ok_new {a : Int} (h : adB a = true) : okG (nwG a) = true := by
  unfold adB at h
  rw [inS_iff] at h
  rw [okG_iff]
  exact ⟨⟨(by omega : (1 : Int) ≤ 1), (by omega : (1 : Int) ≤ 9)⟩, ⟨(by omega : (0 : Int) ≤ 0), (by omega : (0 : Int) ≤ 2)⟩, h, ⟨(by omega : (0 : Int) ≤ 0), (by omega : (0 : Int) ≤ 512)⟩, ⟨(by omega : (0 : Int) ≤ 0), (by omega : (0 : Int) ≤ 255)⟩, ⟨(by omega : (0 : Int) ≤ 0), (by omega : (0 : Int) ≤ 255)⟩⟩
/-- an ask with a fate -/
def tryV (d : Dv) (c : Cf) (T : List (List Int)) (s a h : Int) (q : ByteArray) (f : Int) : Ans :=
  if f = 1 then ctl d c T s a h q
  else if f = 3 then ⟨(ctl d c T s a h q).s, (ctl d c T s a h q).a, (ctl d c T s a h q).h, noT, 9⟩
  else if f = 4 then ⟨s, a, h, noT, 10⟩ else if f = 5 then ⟨s, a, h, noT, 8⟩ else ⟨s, a, h, noT, 9⟩
/-- how a greeting and its device stand -/
structure Sm where
  g : Gr
  s : Int
  a : Int
  h : Int
  n : Nat
def stpM (d : Dv) (c : Cf) (T : List (List Int)) (m : Sm) (f : Int) : Sm :=
  ⟨tlG m.g (tryV d c T m.s m.a m.h (nxT m.g) f).t (tryV d c T m.s m.a m.h (nxT m.g) f).e, (tryV d c T m.s m.a m.h (nxT m.g) f).s, (tryV d c T m.s m.a m.h (nxT m.g) f).a, (tryV d c T m.s m.a m.h (nxT m.g) f).h, m.n + 1⟩
def runM (d : Dv) (c : Cf) (T : List (List Int)) : List Int → Sm → Sm
  | [], m => m
  | f :: r, m => if nxE m.g = 0 then runM d c T r (stpM d c T m f) else m
def begE (d : Dv) (c : Cf) (T : List (List Int)) (a : Int) (F : List Int) : Int := if chkS d c T ≠ 0 then chkS d c T else if adB a = false then 1 else ckF F
/-- what Meet answers -/
def metM (d : Dv) (c : Cf) (T : List (List Int)) (a : Int) (F : List Int) : Sm := if begE d c T a F ≠ 0 then ⟨noGr, 0, 0, 0, 0⟩ else runM d c T F ⟨nwG a, 0, 0, 0, 0⟩
theorem try_size (d : Dv) (c : Cf) (T : List (List Int)) (s a h : Int) (q : ByteArray) (f : Int) : (tryV d c T s a h q f).t = (ctl d c T s a h q).t ∨ (tryV d c T s a h q f).t = noT := by
  unfold tryV
  split
  · exact .inl rfl
  split
  · exact .inr rfl
  split
  · exact .inr rfl
  split
  · exact .inr rfl
  · exact .inr rfl
end Go.Proofs.Ytonheibhbilhhaa.greet
