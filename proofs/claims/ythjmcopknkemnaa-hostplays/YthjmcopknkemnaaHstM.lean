/- host: the plain mathematics: words of commands and of events, machines, what is submitted, done and reaped. No program is named here. -/
import Derived.Test.YthjmcopknkemnaaRngM
import Derived.Test.YthjmcopknkemnaaSltP
namespace Go.Proofs.Ythjmcopknkemnaa.host
open Go.Proofs.Ythjmcopknkemnaa
set_option linter.unusedVariables false

/-- a command: its kind, slot, endpoint, argument -/
abbrev Cm := Int × Int × Int × Int
/-- an event: its code, slot, place -/
abbrev Ev := Int × Int × Int
structure Mc where
  c : ring.Rg
  e : ring.Rg
  B : slots.Bd
def pkB (x : Cm) : Bool := (decide (0 ≤ x.1) && decide (x.1 ≤ 15)) && ((decide (0 ≤ x.2.1) && decide (x.2.1 ≤ 15)) && ((decide (0 ≤ x.2.2.1) && decide (x.2.2.1 ≤ 31)) && (decide (0 ≤ x.2.2.2) && decide (x.2.2.2 ≤ 4294967295))))
structure Pk (x : Cm) : Prop where
  k0 : 0 ≤ x.1
  k1 : x.1 ≤ 15
  n0 : 0 ≤ x.2.1
  n1 : x.2.1 ≤ 15
  e0 : 0 ≤ x.2.2.1
  e1 : x.2.2.1 ≤ 31
  a0 : 0 ≤ x.2.2.2
  a1 : x.2.2.2 ≤ 4294967295
theorem pk_iff {x : Cm} : pkB x = true ↔ Pk x := by
  unfold pkB
  simp only [Bool.and_eq_true, decide_eq_true_eq]
  exact ⟨fun ⟨⟨a, b⟩, ⟨c, d⟩, ⟨e, f⟩, g, h⟩ => ⟨a, b, c, d, e, f, g, h⟩, fun h => ⟨⟨h.k0, h.k1⟩, ⟨h.n0, h.n1⟩, ⟨h.e0, h.e1⟩, h.a0, h.a1⟩⟩
/-- its word -/
def pkW (x : Cm) : Int := ((x.1 * 16 + x.2.1) * 32 + x.2.2.1) * 4294967296 + x.2.2.2
def pkC (x : Cm) : Int := if pkB x = true then 0 else 1
def pkV (x : Cm) : Int := if pkB x = true then pkW x else 0
def cwB (w : Int) : Bool := decide (w < 35184372088832)
def ewB (w : Int) : Bool := decide (w < 16777216)
def upK (w : Int) : Cm := (w / 2199023255552, w / 137438953472 % 16, w / 4294967296 % 32, w % 4294967296)
def upV (w : Int) : Cm := if cwB w = true then upK w else (0, 0, 0, 0)
def upC (w : Int) : Int := if cwB w = true then 0 else 4
theorem pkW_in {x : Cm} (h : Pk x) : 0 ≤ pkW x ∧ pkW x < 35184372088832 := by
  obtain ⟨a, b, c, d, e, f, g, i⟩ := h
  unfold pkW
  omega
theorem up_pk {x : Cm} (h : Pk x) : upK (pkW x) = x := by
  obtain ⟨a, b, c, d, e, f, g, i⟩ := h
  obtain ⟨k, n, e', a'⟩ := x
  simp only at *
  unfold upK pkW
  simp only
  refine Prod.ext ?_ (Prod.ext ?_ (Prod.ext ?_ ?_)) <;> simp only <;> omega
theorem up_in {w : Int} (h0 : 0 ≤ w) (h1 : w < 35184372088832) : Pk (upK w) := by
  unfold upK
  constructor <;> simp only <;> omega
theorem pk_up {w : Int} (h0 : 0 ≤ w) (h1 : w < 35184372088832) : pkW (upK w) = w := by
  unfold pkW upK
  simp only
  omega
/-- an event's word -/
def evW (x : Ev) : Int := x.1 + 256 * x.2.1 + 65536 * x.2.2
def evU (w : Int) : Ev := (w % 256, w / 256 % 256, w / 65536 % 256)
structure Sm (x : Ev) : Prop where
  c0 : 0 ≤ x.1
  c1 : x.1 < 256
  s0 : 0 ≤ x.2.1
  s1 : x.2.1 < 256
  a0 : 0 ≤ x.2.2
  a1 : x.2.2 < 256
theorem evW_in {x : Ev} (h : Sm x) : 0 ≤ evW x ∧ evW x < 16777216 := by
  obtain ⟨a, b, c, d, e, f⟩ := h
  unfold evW
  omega
theorem evU_W {x : Ev} (h : Sm x) : evU (evW x) = x := by
  obtain ⟨a, b, c, d, e, f⟩ := h
  obtain ⟨p, q, r⟩ := x
  simp only at *
  unfold evU evW
  simp only
  refine Prod.ext ?_ (Prod.ext ?_ ?_) <;> simp only <;> omega
def wC (L : List ring.Ce) : Bool := L.all (fun x => cwB x.1)
def wE (L : List ring.Ce) : Bool := L.all (fun x => ewB x.1)
/-- words of 64 bits -/
def Ws (L : List ring.Ce) : Prop := ∀ x ∈ L, 0 ≤ x.1 ∧ x.1 < 18446744073709551616
/-- is a machine right? -/
def rtB (m : Mc) : Bool := (ring.chk m.c == 0) && ((ring.chk m.e == 0) && (slots.chk m.B && (wC m.c.C && wE m.e.C)))
structure Rm (m : Mc) : Prop where
  c : ring.Rt m.c
  e : ring.Rt m.e
  B : slots.chk m.B = true
  wc : wC m.c.C = true
  we : wE m.e.C = true
theorem rt_iff {m : Mc} : rtB m = true ↔ Rm m := by
  unfold rtB
  simp only [Bool.and_eq_true, beq_iff_eq, ring.chk_ok]
  exact ⟨fun ⟨a, b, c, d, e⟩ => ⟨a, b, c, d, e⟩, fun h => ⟨h.c, h.e, h.B, h.wc, h.we⟩⟩
/-- Submit -/
def sbC (m : Mc) (x : Cm) : Int := if rtB m = false then 4 else if pkB x = false then 1 else if ring.putB m.c = true then 0 else 11
def sbV (m : Mc) (x : Cm) : Mc := if rtB m = false then m else if pkB x = false then m else if ring.putB m.c = true then ⟨ring.putV m.c (pkW x), m.e, m.B⟩ else m
/-- what the next command comes to -/
def dn (m : Mc) : slots.Ans := slots.doB m.B (upK (ring.atG m.c).1).1 (upK (ring.atG m.c).1).2.1 (upK (ring.atG m.c).1).2.2.1 (upK (ring.atG m.c).1).2.2.2
def nev (m : Mc) : Ev := ((dn m).c, (dn m).n, m.c.ga)
def stB (m : Mc) : Bool := ring.getB m.c && ring.putB m.e
def stV (m : Mc) : Mc := ⟨ring.onG m.c, ring.putV m.e (evW (nev m)), (dn m).B⟩
def wkV : Nat → Mc → Mc
  | 0, m => m
  | n + 1, m => if stB m = true then wkV n (stV m) else m
def wkN : Nat → Mc → Nat
  | 0, _ => 0
  | n + 1, m => if stB m = true then wkN n (stV m) + 1 else 0
def wkB (m : Mc) (n : Int) : Bool := rtB m && (decide (1 ≤ n) && decide (n ≤ 1000))
def wrV (m : Mc) (n : Int) : Mc := if wkB m n = true then wkV n.toNat m else m
def wrN (m : Mc) (n : Int) : Int := if wkB m n = true then (wkN n.toNat m : Int) else 0
/-- Reap -/
def rpB (m : Mc) : Bool := rtB m && ring.getB m.e
def rpE (m : Mc) : Ev := evU (ring.atG m.e).1
def snx (r : ring.Rg) (a : Int) : Int := if ring.plB r.C.length a = true then (ring.on r.C.length a 0).1 else r.sn
def rgS (r : ring.Rg) (s : Int) : ring.Rg := ⟨r.C, r.pa, r.pb, r.ga, r.gb, s⟩
def reV (m : Mc) : Mc := ⟨rgS m.c (snx m.c (rpE m).2.2), ring.lrn (ring.onG m.e), m.B⟩
def rpV (m : Mc) : Mc := if rpB m = true then reV m else m
def rpX (m : Mc) : Ev := if rpB m = true then rpE m else (0, 0, 0)
/-- codes and slots are small -/
theorem beh_small {s : List Int} {x k e a : Int} : 0 ≤ (slots.beh s x k e a).2 ∧ (slots.beh s x k e a).2 < 256 := by
  unfold slots.beh slots.adr slots.cfg slots.atE slots.mrk
  repeat' split
  all_goals simp
theorem do_small {B : slots.Bd} {k s e a : Int} : (0 ≤ (slots.doB B k s e a).c ∧ (slots.doB B k s e a).c < 256) ∧ 0 ≤ (slots.doB B k s e a).n ∧ (slots.doB B k s e a).n < 256 := by
  unfold slots.doB
  split
  · simp
  · split
    · simp
    · split
      · unfold slots.enb
        have := (slots.fr_le B).2
        split <;> (simp only; omega)
      · split
        · unfold slots.ats
          split
          · simp
          · rename_i q
            have := slots.sl_in (s := s) (by simpa using q)
            exact ⟨beh_small, by simp only; omega⟩
        · simp
theorem putL_all {r : ring.Rg} {w : Int} {p : ring.Ce → Bool} (h : r.C.all p = true) (h1 : p (w, r.pb, false) = true) (h2 : p (0, r.pb, true) = true) : (ring.putL r w).all p = true := by
  have hs : ∀ (L : List ring.Ce) (j : Nat) (x : ring.Ce), L.all p = true → p x = true → (L.set j x).all p = true := by
    intro L j x h1 h2
    rw [List.all_eq_true] at *
    intro y hy
    rcases List.mem_or_eq_of_mem_set hy with q | q
    · exact h1 y q
    · rw [q]; exact h2
  unfold ring.putL
  split
  · exact hs _ _ _ (hs _ _ _ h h1) h2
  · exact hs _ _ _ h h1
theorem Rm.sb {m : Mc} (h : Rm m) (x : Cm) : Rm (sbV m x) := by
  unfold sbV
  split
  · exact h
  · split
    · exact h
    · split
      · rename_i q1 q2 q3
        have hp := pkW_in (pk_iff.1 (by simpa using q2 : pkB x = true))
        exact ⟨ring.put_rt h.c _, h.e, h.B, putL_all h.wc (by unfold cwB; simp; omega) (by unfold cwB; simp), h.we⟩
      · exact h
theorem Rm.sm {m : Mc} (h : Rm m) : Sm (nev m) := by
  have h1 := h.c.ga0
  have h2 := h.c.ga1
  have h3 := h.c.n64
  have hs := do_small (B := m.B) (k := (upK (ring.atG m.c).1).1) (s := (upK (ring.atG m.c).1).2.1) (e := (upK (ring.atG m.c).1).2.2.1) (a := (upK (ring.atG m.c).1).2.2.2)
  exact ⟨hs.1.1, hs.1.2, hs.2.1, hs.2.2, h1, by show m.c.ga < 256; omega⟩
theorem do_chk {B : slots.Bd} {k s e a : Int} (hw : slots.Wf B) (h : slots.chk B = true) : slots.chk (slots.doB B k s e a).B = true :=
  (slots.chk_iff (slots.do_wf hw)).2 (slots.do_ok hw ((slots.chk_iff hw).1 h))
theorem Rm.st {m : Mc} (h : Rm m) (hw : slots.Wf m.B) : Rm (stV m) := by
  have hp := evW_in h.sm
  exact ⟨ring.onG_rt h.c, ring.put_rt h.e _, do_chk hw h.B, h.wc, putL_all h.we (by unfold ewB; simp; omega) (by unfold ewB; simp)⟩
theorem wk_both : ∀ (n : Nat) {m : Mc}, Rm m → slots.Wf m.B → Rm (wkV n m) ∧ slots.Wf (wkV n m).B
  | 0, m, h, hw => ⟨h, hw⟩
  | n + 1, m, h, hw => by
    unfold wkV
    split
    · exact wk_both n (h.st hw) (slots.do_wf hw)
    · exact ⟨h, hw⟩
theorem on_pl {n : Nat} {a : Int} (hn : 3 ≤ n) (h : ring.plB n a = true) : 0 ≤ (ring.on n a 0).1 ∧ (ring.on n a 0).1 < (n : Int) - 1 := by
  have := ring.pl_iff.1 h
  exact (ring.on_ok hn this.1 this.2 (.inl rfl)).1
theorem snx_ok {r : ring.Rg} {a : Int} (h : ring.Rt r) : 0 ≤ snx r a ∧ snx r a < (r.C.length : Int) - 1 := by
  unfold snx
  split
  · rename_i q; exact on_pl h.n3 q
  · exact ⟨h.sn0, h.sn1⟩
theorem Rm.re {m : Mc} (h : Rm m) : Rm (reV m) := by
  have hs := snx_ok (a := (rpE m).2.2) h.c
  exact ⟨⟨h.c.n3, h.c.n64, h.c.C, h.c.pa0, h.c.pa1, h.c.pb, h.c.ga0, h.c.ga1, h.c.gb, hs.1, hs.2⟩, ring.lrn_rt (ring.onG_rt h.e), h.B, h.wc, h.we⟩
theorem Rm.rp {m : Mc} (h : Rm m) : Rm (rpV m) := by
  unfold rpV
  split
  · exact h.re
  · exact h
theorem hlt_chk {B : slots.Bd} {s e : Int} (hw : slots.Wf B) (h : slots.chk B = true) : slots.chk (slots.hlt B s e) = true := by
  have ho := (slots.chk_iff hw).1 h
  unfold slots.hlt
  split
  · rename_i q
    obtain ⟨_, q1, q2, q3⟩ := q
    have hs := slots.sl_in q1
    have he := slots.ed_in q2
    refine (slots.chk_iff (hw.set (by rw [List.length_set]; exact hw.sl (by omega)))).2 (ho.set hw hs.1 (by omega) ?_ ?_)
    · have hr := ho.right s.toNat (by omega)
      have hb : slots.Big (slots.sl B s.toNat) := by
        rcases slots.right_iff.1 hr with q | q | q
        · rw [q, slots.en_one] at q3; omega
        · rw [q, slots.en_one] at q3; omega
        · exact q
      exact slots.right_iff.2 (.inr (.inr (slots.big_end (hw.sl (by omega)) hb he.1 (by omega) (by omega) (by omega))))
    · intro j hj hne hq
      rw [slots.ad_set (hw.sl (by omega)) (by omega)] at hq ⊢
      by_cases hlt : j < s.toNat
      · rw [hq]; exact ho.apart j s.toNat hlt (by omega) hq.symm
      · exact ho.apart s.toNat j (by omega) (by omega) hq
  · exact h
end Go.Proofs.Ythjmcopknkemnaa.host
