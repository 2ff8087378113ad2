/- greet: faces that are one's own, beside the boxes of a call. -/
import Derived.Test.YtonheibhbilhhaaGreA
import Derived.OneCell
namespace Go.Proofs.Ytonheibhbilhhaa.greet
open Go Go.RowKit Go.PlainAid Go.Proofs.Ytonheibhbilhhaa.lane Go.Proofs.Ytonheibhbilhhaa.desc
set_option linter.unusedVariables false
set_option linter.unusedSimpArgs false
set_option maxRecDepth 100000

/-- faces that are one's own -/
structure Oc (w0 wr : World) (vf : Value) (L : FL) : Prop where
  row : wr.ownsRow w0.heap.size 76 6 vf L.length (fcells L)
  tx : ∀ q ∈ L, Txs wr w0.heap.size q.2.1 q.1.ex
  en : ∀ q ∈ L, Eds wr w0.heap.size q.2.2 q.1.en
  bb : ∀ q ∈ L, BB q.1.ex ∧ ∀ x ∈ q.1.ex, x.length ≤ maxLen
section
variable {w w0 wr u : World} {vf : Value} {L : FL} {c : Cf}
theorem Oc.below (h : Oc w0 wr vf L) (hb : Below wr.heap.size wr u) : Oc w0 u vf L := ⟨own_below h.row hb, fun q hq => own_below (h.tx q hq) hb, fun q hq => own_below (h.en q hq) hb, h.bb⟩
theorem Oc.base (h : Oc w0 wr vf L) (hb : w.heap.size ≤ w0.heap.size) : Oc w wr vf L := ⟨own_mono h.row hb, fun q hq => own_mono (h.tx q hq) hb, fun q hq => own_mono (h.en q hq) hb, h.bb⟩
theorem Oc.rc (h : Oc w0 wr vf L) (he : L.map Prod.fst = c.fs) : Rc wr vf c L := ⟨⟨Rdg.of h.row, fun q hq => ⟨(h.tx q hq).rts, Rdg.of (h.en q hq), (h.bb q hq).1, (h.bb q hq).2⟩⟩, he⟩
theorem Oc.form (h : Oc w0 wr vf L) : ∃ a n c, vf = .slice a n c := by obtain ⟨a, c, h1, _⟩ := own_form h.row; exact ⟨_, _, _, h1⟩
theorem Oc.one (h : Oc w0 wr vf L) : vf.oneCell' = true := by obtain ⟨a, n, c, rfl⟩ := h.form; rfl
theorem Oc.nil (w0 wr : World) : Oc w0 wr nilS [] := ⟨⟨rfl, .inl ⟨rfl, rfl⟩⟩, fun q hq => by simp at hq, fun q hq => by simp at hq, fun q hq => by simp at hq⟩
theorem inv_oc {X : Nat} {va na atr po : Int} (h : Inv w0 wr X va na atr po vf L) : Oc w0 wr vf L := ⟨h.row, h.tx, h.en, fun q hq => ⟨(h.bb q hq).1, fun x hx => Nat.le_trans ((h.bb q hq).2 x hx) (by decide)⟩⟩
end
/-- a box of another kind than the rows of a configuration -/
abbrev Kd (T : TypeId) : Prop := T ≠ 76 ∧ T ≠ 9 ∧ T ≠ 85
theorem own_chg {w u : World} {B base size n : Nat} {e T : TypeId} {l : List Value} {v : Value} {xs : List Value} (h : w.ownsRow base e size v n xs) (hc : Chg B w u) (hB : w.heap[B]? = some (bx T l)) (hT : T ≠ e) : u.ownsRow base e size v n xs := by
  obtain ⟨h1, h2⟩ := h
  refine ⟨h1, ?_⟩
  rcases h2 with h2 | ⟨g, cap, cur, hv, hg, hh, r⟩
  · exact .inl h2
  · refine .inr ⟨g, cap, cur, hv, hg, ?_, r⟩
    rw [hc.other g (fun q => ?_)]
    · exact hh
    · subst q
      rw [hB] at hh
      injection hh with hh
      injection hh with _ hh _
      exact hT hh
theorem Oc.chg {w0 wr u : World} {vf : Value} {F : FL} {B : Nat} {T : TypeId} {l : List Value} (h : Oc w0 wr vf F) (hc : Chg B wr u) (hB : wr.heap[B]? = some (bx T l)) (hT : Kd T) : Oc w0 u vf F :=
  ⟨own_chg h.row hc hB hT.1, fun q hq => own_chg (h.tx q hq) hc hB hT.2.1, fun q hq => own_chg (h.en q hq) hc hB hT.2.2, h.bb⟩
theorem own_drew {w : World} {base size n : Nat} {e : TypeId} {v : Value} {xs : List Value} (h : w.ownsRow base e size v n xs) : w.drew.ownsRow base e size v n xs := h
/-- the boxes of a call, and faces of its own -/
structure Mo (w u : World) (L : List Bk) (vf : Value) (F : FL) : Prop where
  mm : Mm w u L
  own : Oc w u vf F
  kd : ∀ x ∈ L, Kd x.2.1
section
variable {w u v : World} {L : List Bk} {B : Nat} {T : TypeId} {l l' : List Value} {vf vf' : Value} {F F' : FL} {a b c d f g : Bk}
theorem Mo.nil (w : World) : Mo w w [] nilS [] := ⟨Mm.nil w, Oc.nil _ _, fun x h => absurd h (by simp)⟩
theorem Mo.below (h : Mo w u L vf F) : Below w.heap.size w u := h.mm.below
theorem Mo.new (h : Mo w u L vf F) (n : New u v B T l) (hT : Kd T := by decide) : Mo w v ((B, T, l) :: L) vf F := ⟨h.mm.new n, h.own.below n.below, fun x hx => by
  rcases List.mem_cons.1 hx with rfl | q
  · exact hT
  · exact h.kd x q⟩
theorem Mo.call (h : Mo w u L vf F) (hb : Below u.heap.size u v) : Mo w v L vf F := ⟨h.mm.call hb, h.own.below hb, h.kd⟩
theorem Mo.take (h : Mo w u L vf F) (hb : Below u.heap.size u v) (ho : Oc u v vf' F') : Mo w v L vf' F' := ⟨h.mm.call hb, ho.base h.mm.below.size, h.kd⟩
theorem Mo.put {pre post : List Bk} (h : Mo w u (pre ++ (B, T, l) :: post) vf F) (hc : Chg B u v) (hl : v.heap[B]? = some (bx T l')) : Mo w v (pre ++ (B, T, l') :: post) vf F :=
  ⟨h.mm.put hc hl, h.own.chg hc (h.mm.lies (B, T, l) (by simp)) (h.kd (B, T, l) (by simp)), fun x hx => by
    rcases List.mem_append.1 hx with q | q
    · exact h.kd x (List.mem_append.2 (.inl q))
    · rcases List.mem_cons.1 q with rfl | q
      · exact h.kd (B, T, l) (by simp)
      · exact h.kd x (List.mem_append.2 (.inr (List.mem_cons_of_mem _ q)))⟩
theorem Mo.drew (h : Mo w u L vf F) : Mo w u.drew L vf F := ⟨h.mm.drew, ⟨h.own.row, h.own.tx, h.own.en, h.own.bb⟩, h.kd⟩
theorem Mo.drewN (h : Mo w u L vf F) (n : Nat) : Mo w (u.drewN n) L vf F := ⟨h.mm.drewN n, ⟨h.own.row, h.own.tx, h.own.en, h.own.bb⟩, h.kd⟩
theorem Mo.tail (h : Mo w u (a :: L) vf F) : Mo w u L vf F := ⟨h.mm.tail, h.own, fun x hx => h.kd x (List.mem_cons_of_mem _ hx)⟩
theorem Mo.ls {L' : List Bk} (h : Mo w u L vf F) (hs : ∀ x ∈ L', x ∈ L) : Ls u L' := h.mm.ls hs
theorem Mo.at0 (h : Mo w u ((B, T, l) :: L) vf F) : u.heap[B]? = some (bx T l) := h.mm.at0
theorem Mo.at1 (h : Mo w u (a :: (B, T, l) :: L) vf F) : u.heap[B]? = some (bx T l) := h.mm.at1
theorem Mo.at2 (h : Mo w u (a :: b :: (B, T, l) :: L) vf F) : u.heap[B]? = some (bx T l) := h.mm.at2
theorem Mo.at3 (h : Mo w u (a :: b :: c :: (B, T, l) :: L) vf F) : u.heap[B]? = some (bx T l) := h.mm.at3
theorem Mo.at4 (h : Mo w u (a :: b :: c :: d :: (B, T, l) :: L) vf F) : u.heap[B]? = some (bx T l) := h.mm.at4
theorem Mo.at5 (h : Mo w u (a :: b :: c :: d :: f :: (B, T, l) :: L) vf F) : u.heap[B]? = some (bx T l) := h.mm.at5
theorem Mo.put0 (h : Mo w u ((B, T, l) :: L) vf F) (hc : Chg B u v) (hl : v.heap[B]? = some (bx T l')) : Mo w v ((B, T, l') :: L) vf F := Mo.put (pre := []) h hc hl
theorem Mo.put1 (h : Mo w u (a :: (B, T, l) :: L) vf F) (hc : Chg B u v) (hl : v.heap[B]? = some (bx T l')) : Mo w v (a :: (B, T, l') :: L) vf F := Mo.put (pre := [a]) h hc hl
theorem Mo.put2 (h : Mo w u (a :: b :: (B, T, l) :: L) vf F) (hc : Chg B u v) (hl : v.heap[B]? = some (bx T l')) : Mo w v (a :: b :: (B, T, l') :: L) vf F := Mo.put (pre := [a, b]) h hc hl
theorem Mo.put3 (h : Mo w u (a :: b :: c :: (B, T, l) :: L) vf F) (hc : Chg B u v) (hl : v.heap[B]? = some (bx T l')) : Mo w v (a :: b :: c :: (B, T, l') :: L) vf F := Mo.put (pre := [a, b, c]) h hc hl
theorem Mo.put4 (h : Mo w u (a :: b :: c :: d :: (B, T, l) :: L) vf F) (hc : Chg B u v) (hl : v.heap[B]? = some (bx T l')) : Mo w v (a :: b :: c :: d :: (B, T, l') :: L) vf F := Mo.put (pre := [a, b, c, d]) h hc hl
theorem Mo.put5 (h : Mo w u (a :: b :: c :: d :: f :: (B, T, l) :: L) vf F) (hc : Chg B u v) (hl : v.heap[B]? = some (bx T l')) : Mo w v (a :: b :: c :: d :: f :: (B, T, l') :: L) vf F := Mo.put (pre := [a, b, c, d, f]) h hc hl
end
end Go.Proofs.Ytonheibhbilhhaa.greet
