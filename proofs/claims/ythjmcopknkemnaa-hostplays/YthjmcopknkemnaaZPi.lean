/- a slice of turns: what its cells hold (where RngO does not say it). -/
import Derived.Test.YthjmcopknkemnaaRngO
import Derived.OpenShut
import Derived.ChangeArms
import Derived.ChangeSame
import Derived.SliceStrings
import Derived.Carry
import Derived.SizedLaws
import Derived.Deep.Slices
import Derived.Deep.Strs
import Derived.Test.YthjmcopknkemnaaRngG
import Derived.Lib.SliceRun
import Derived.Test.YthjmcopknkemnaaRngK
import Derived.Test.YthjmcopknkemnaaRngN
import Derived.Test.YthjmcopknkemnaaZPa
import Derived.Shelf.Abstract
namespace Go.Proofs.Ythjmcopknkemnaa.ring
open Go.ChangeShapes Go.WideShapes Go.ChangeAt Go.RowKit Go.Deep
set_option linter.unusedVariables false
set_option maxRecDepth 10000

section
variable {H : Type} {enc : TypeId × Value → H} {w : World} {base : Nat} {spare : Nat → Bool} {held : Bool}
/-- a turn: its kind, its word; a slice that reads as these turns -/
abbrev Tn := Int × Int
def Rtn (w : World) (v : Value) (T : List Tn) : Prop :=
  ∃ a c, v = .slice a T.length c ∧ T.length ≤ c ∧ c ≤ maxLen ∧ (0 < T.length → ∃ g off, a = some ⟨g, off, none⟩ ∧ g < w.heap.size ∧ ∀ j x, T[j]? = some x → w.cell? ⟨g, off + j * 2, none⟩ = some (.int .i64 x.1) ∧ w.cell? ⟨g, off + j * 2 + 1, none⟩ = some (.int .u64 x.2))
theorem Rtn.nil (w : World) : Rtn w (.slice none 0 0) [] := ⟨none, 0, rfl, Nat.le_refl _, Nat.zero_le _, fun h => by simp at h⟩
theorem Rtn.below {w u : World} {v : Value} {T : List Tn} (h : Rtn w v T) (hb : Below w.heap.size w u) : Rtn u v T := by
  obtain ⟨a, c, hv, h1, h2, h4⟩ := h
  refine ⟨a, c, hv, h1, h2, fun hn => ?_⟩
  obtain ⟨g, off, ha, hg, hc⟩ := h4 hn
  exact ⟨g, off, ha, Nat.lt_of_lt_of_le hg hb.size, fun j x hx => ⟨(hb.cell (p := ⟨g, off + j * 2, none⟩) hg).trans (hc j x hx).1, (hb.cell (p := ⟨g, off + j * 2 + 1, none⟩) hg).trans (hc j x hx).2⟩⟩
theorem Rtn.form {w : World} {v : Value} {T : List Tn} (h : Rtn w v T) : ∃ a c, v = .slice a T.length c ∧ T.length ≤ c ∧ c ≤ maxLen := by
  obtain ⟨a, c, h, h1, h2, _⟩ := h; exact ⟨_, _, h, h1, h2⟩
theorem Rtn.at {w : World} {a : Option Addr} {n c : Nat} {T : List Tn} (h : Rtn w (.slice a n c) T) (k : Nat) (x : Tn) (hk : T[k]? = some x) : ∃ g off, a = some ⟨g, off, none⟩ ∧ ∀ u, Below w.heap.size w u → u.cell? ⟨g, off + k * 2, none⟩ = some (.int .i64 x.1) ∧ u.cell? ⟨g, off + k * 2 + 1, none⟩ = some (.int .u64 x.2) := by
  obtain ⟨a', c', hv, h1, h2, h4⟩ := h
  have hl := (List.getElem?_eq_some_iff.1 hk).1
  obtain ⟨g, off, ha, hg, hc⟩ := h4 (by omega)
  have : a = a' := by injection hv
  exact ⟨g, off, this.trans ha, fun u hu => ⟨(hu.cell (p := ⟨g, off + k * 2, none⟩) hg).trans (hc k x hk).1, (hu.cell (p := ⟨g, off + k * 2 + 1, none⟩) hg).trans (hc k x hk).2⟩⟩
def tcell (x : Tn) : List Value := [.int .i64 x.1, .int .u64 x.2]
theorem turn_cells : Try.prog.cellsOf 103 = 2 := by kernel_rfl
theorem open_turn {fuel : Nat} {cs : List Value} {x : DataW H × List MemPlace} (h : DataW.trod enc Try.prog w base spare held fuel 103 cs = some x) : ∃ e : Tn, cs = tcell e := by
  obtain ⟨xs, n, _, hx, hlen, hxl, hfs⟩ := DataW.trod_struct Try.underlying103 h
  rw [turn_cells] at hlen
  match cs, hlen with
  | [c0, c1], _ =>
    have g0 := hfs 0 _ rfl
    have g1 := hfs 1 _ rfl
    match xs, hxl with
    | [y0, y1], _ =>
      simp [int_cells, u64_cells] at g0 g1
      obtain ⟨k0, e0, _, f0⟩ := DataW.trod_int Try.underlying3 g0
      obtain ⟨k1, e1, _, f1⟩ := DataW.trod_int Try.underlying24 g1
      simp at e0 e1
      subst e0 e1
      exact ⟨(k0, k1), rfl⟩
theorem open_turns {fuel : Nat} {v : Value} {x : DataW H × List MemPlace} (h : DataW.trod enc Try.prog w base spare held fuel 101 [v] = some x) : ∃ T, Rtn w v T := by
  rcases open_slice Try.underlying101 h with ⟨hcs, _⟩ | ⟨a, len, cap, m, n, D, Pl, hcs, _, hl, hm, hmm, _, hcell⟩
  · simp at hcs; subst hcs
    exact ⟨[], Rtn.nil w⟩
  · simp at hcs; subst hcs
    have hlm : len ≤ m := by rw [hmm]; split <;> omega
    rw [turn_cells] at hcell
    have hE : ∀ i, i < len → ∃ e : Tn, ∀ r y, (tcell e)[r]? = some y → w.cell? ((a.add (i * 2)).add r) = some y := by
      intro i hi
      obtain ⟨cs', h1, h2⟩ := hcell i (by omega)
      obtain ⟨e, rfl⟩ := open_turn h2
      obtain ⟨_, _, h3⟩ := World.cells?_some h1
      refine ⟨e, fun r y hy => ?_⟩
      have hr : r < 2 := (List.getElem?_eq_some_iff.1 hy).1
      rw [h3 r hr]; exact hy
    obtain ⟨E, hE⟩ := choose_lt hE
    refine ⟨(List.range len).map E, some a, cap, by simp, by simpa using hl, hm, fun hn => ?_⟩
    have hn : 0 < len := by simpa using hn
    have h0 := hE 0 hn 0 _ rfl
    obtain ⟨g, off, rfl, hg⟩ := spot_of (a := a) (by simpa [Addr.add] using h0)
    refine ⟨g, off, rfl, hg, fun j y hy => ?_⟩
    obtain ⟨hj, rfl⟩ := range_at hy
    have h1 := hE j hj 0 _ rfl
    have h2 := hE j hj 1 _ rfl
    rw [Addr.add_lit, Addr.add_lit] at h1 h2
    exact ⟨h1, h2⟩
theorem turns_open {r : Reach} {b0 : Nat} {v : Value} {x : DataW H} {p : List MemPlace} (hv : Value.okWide Try.prog w r b0 101 v) (h : DataW.Trod enc Try.prog w base spare held 101 v x p) : ∃ T, Rtn w v T := by
  obtain ⟨a0, len, cap, rfl⟩ := okWide_slice Try.underlying101 hv
  obtain ⟨fuel, hf⟩ := h
  exact open_turns hf
end
end Go.Proofs.Ythjmcopknkemnaa.ring

/- rows of words: made by append, read, cloned, compared. -/
namespace Go.Proofs.Ythjmcopknkemnaa.ring
open Go Go.RowKit
set_option linter.unusedVariables false
set_option linter.unusedSimpArgs false
set_option maxRecDepth 100000

/-- a slice that reads as these words -/
def Rws (w : World) (v : Value) (l : List Int) : Prop :=
  ∃ a c, v = .slice a l.length c ∧ l.length ≤ c ∧ c ≤ maxLen ∧ (0 < l.length → ∃ g off, a = some ⟨g, off, none⟩ ∧ g < w.heap.size ∧ ∀ j x, l[j]? = some x → w.cell? ⟨g, off + j, none⟩ = some (.int .u64 x))
theorem Rws.nil (w : World) : Rws w (.slice none 0 0) [] := ⟨none, 0, rfl, Nat.le_refl _, Nat.zero_le _, fun h => by simp at h⟩
theorem Rws.below {w u : World} {v : Value} {l : List Int} (h : Rws w v l) (hb : Below w.heap.size w u) : Rws u v l := by
  obtain ⟨a, c, hv, h1, h2, h4⟩ := h
  refine ⟨a, c, hv, h1, h2, fun hn => ?_⟩
  obtain ⟨g, off, ha, hg, hc⟩ := h4 hn
  exact ⟨g, off, ha, Nat.lt_of_lt_of_le hg hb.size, fun j x hx => (hb.cell (p := ⟨g, off + j, none⟩) hg).trans (hc j x hx)⟩
theorem Rws.form {w : World} {v : Value} {l : List Int} (h : Rws w v l) : ∃ a c, v = .slice a l.length c ∧ l.length ≤ c ∧ c ≤ maxLen := by
  obtain ⟨a, c, h, h1, h2, _⟩ := h; exact ⟨_, _, h, h1, h2⟩
theorem Rws.at {w : World} {a : Option Addr} {n c : Nat} {l : List Int} (h : Rws w (.slice a n c) l) (k : Nat) (x : Int) (hk : l[k]? = some x) : ∃ g off, a = some ⟨g, off, none⟩ ∧ ∀ u, Below w.heap.size w u → u.cell? ⟨g, off + k, none⟩ = some (.int .u64 x) := by
  obtain ⟨a', c', hv, h1, h2, h4⟩ := h
  have hl := (List.getElem?_eq_some_iff.1 hk).1
  obtain ⟨g, off, ha, hg, hc⟩ := h4 (by omega)
  have : a = a' := by injection hv
  exact ⟨g, off, this.trans ha, fun u hu => (hu.cell (p := ⟨g, off + k, none⟩) hg).trans (hc k x hk)⟩
theorem infoU : (Try.prog.info? 24).map (fun i => (i.zero, i.size, i.bytes)) = some (some (.int .u64 0), 1, 8) := by kernel_rfl
def wcells (l : List Int) : List Value := l.map (Value.int .u64)
theorem wcells_length (l : List Int) : (wcells l).length = l.length := List.length_map ..
theorem wcells_at {l : List Int} {j : Nat} {x : Int} (h : l[j]? = some x) : (wcells l)[j]? = some (.int .u64 x) := by simp [wcells, h]
theorem wcells_one (l : List Int) : ∀ u ∈ wcells l, u.oneCell' = true := by
  intro u hu
  obtain ⟨p, _, rfl⟩ := List.mem_map.1 hu
  rfl
/-- the value v owns these numbers, in a block from B on -/
def Wds (w : World) (B : Nat) (v : Value) (l : List Int) : Prop := w.ownsRow B 24 1 v l.length (wcells l)
theorem Wds.nil (w : World) (B : Nat) : Wds w B (.slice none 0 0) [] := ⟨rfl, .inl ⟨rfl, rfl⟩⟩
theorem Wds.below {w u : World} {B : Nat} {v : Value} {l : List Int} (h : Wds w B v l) (hb : Below w.heap.size w u) : Wds u B v l := own_below h hb
theorem Wds.rws {w : World} {B : Nat} {v : Value} {l : List Int} (h : Wds w B v l) : Rws w v l := by
  have h' := h
  rcases h.2 with ⟨rfl, h0⟩ | ⟨g, cap, cur, rfl, hB, hg, hnc, hcm, hs, ht⟩
  · exact ⟨none, 0, by rw [h0], by omega, Nat.zero_le _, fun q => by omega⟩
  · refine ⟨_, cap, rfl, hnc, hcm, fun _ => ⟨g, 0, rfl, (Array.getElem?_eq_some_iff.1 hg).1, fun j x hx => ?_⟩⟩
    have hj := (List.getElem?_eq_some_iff.1 hx).1
    rw [Nat.zero_add, World.ownsRow.cellAt h' j (by omega)]
    exact wcells_at hx
theorem Wds.mono {w : World} {B B' : Nat} {v : Value} {l : List Int} (h : Wds w B v l) (hb : B' ≤ B) : Wds w B' v l := World.ownsRow.mono h hb
theorem Wds.form {w : World} {B : Nat} {v : Value} {l : List Int} (h : Wds w B v l) : ∃ a c, v = .slice a l.length c ∧ l.length ≤ c ∧ c ≤ maxLen := by
  rcases h.2 with ⟨rfl, h0⟩ | ⟨g, cap, cur, rfl, hb, hg, hn, hm, _⟩
  · exact ⟨none, 0, by rw [h0], by omega, Nat.zero_le _⟩
  · exact ⟨_, _, rfl, hn, hm⟩
/-- words that were laid down -/
theorem rws_laid (w : World) (l : List Int) (h : l.length ≤ 1000) : Rws (w.alloc (.cells (wcells l).toArray 24)) (.slice (some ⟨w.heap.size, 0, none⟩) l.length l.length) l := by
  refine ⟨_, _, rfl, Nat.le_refl _, by unfold maxLen; omega, fun _ => ⟨_, _, rfl, by simp, fun j x hx => ?_⟩⟩
  rw [Nat.zero_add, cell_of_row _ _ _ _ _ (0, 0) (MapKept.heap_alloc w _).1]
  have := wcells_at hx
  simpa using this
/-- words behind words -/
theorem wp_wds {o : Oper} {a : Act} {w : World} {K : Act → World → Prop} {Q : Exit → Act → World → Prop} (s x : Operand)
    (ho : o.op = .call { callee := .builtin .append, args := #[s, x], argTypes := #[64, 64] }) (B : Nat) (v : Value) (acc : List Int) (hs : a.eval s = v) (h : Wds w B v acc)
    (vx : Value) (es : List Int) (hx : a.eval x = vx) (hr : Rws w vx es) (hl : acc.length + es.length ≤ 17592186043904) (hB : B ≤ w.heap.size)
    (hK : ∀ v' w', Wds w' B v' (acc ++ es) → w.grownBy w' v.ownBlock → Below B w w' → K (a.put o.dst v') w') : o.wp Try.prog a w K Q := by
  obtain ⟨i0, hi, hz0, hz1, hz2⟩ := info_parts infoU
  obtain ⟨ax, cx, rfl, h1, h2, h4⟩ := hr
  cases ax with
  | none =>
    have h0 : es.length = 0 := by
      rcases Nat.eq_zero_or_pos es.length with q | q
      · exact q
      · obtain ⟨g, off, q1, _⟩ := h4 q; cases q1
    have hes : es = [] := List.eq_nil_of_length_eq_zero h0
    subst hes
    have hrun := run_append_nothing (P := Try.prog) (w := w) B 64 o.type 24 i0 1 Try.underlying64 hi v acc.length (wcells acc) h cx
    simp only [List.length_nil] at hx
    have hk := hK v w (by rw [List.append_nil]; exact h) (World.grownBy.refl _ _) (Below.refl _ _)
    unfold Oper.wp
    simp [execOp, ho, resolve, invoke, builtin, hs, hx, hrun, Result.andThen]
    exact hk
  | some ad =>
    refine wp_append_own w s x 64 ho B 24 i0 _ 1 8 Try.underlying64 hi hz0 hz1 hz2 rfl (by omega) v acc.length (wcells acc) hs h ad es.length cx (wcells es) hx (by rw [wcells_length]; omega) ?_ (wcells_one es) (by unfold maxLen; omega) (by omega) hB ?_
    · intro j u hj
      have hlt := (List.getElem?_eq_some_iff.1 hj).1
      rw [wcells_length] at hlt
      obtain ⟨g, off, q1, hg, hc⟩ := h4 (by omega)
      injection q1 with q1
      subst q1
      rw [Addr.add_lit]
      have hu : u = .int .u64 es[j] := by
        rw [wcells_at (List.getElem?_eq_getElem hlt)] at hj
        injection hj with hj
        exact hj.symm
      rw [hu]
      exact hc j _ (List.getElem?_eq_getElem hlt)
    · intro v' w' h1 h2 _
      refine hK v' w' ?_ h2 ((Below.refl _ _).grown h2 hB (own_block h))
      unfold Wds
      rw [List.length_append, show wcells (acc ++ es) = wcells acc ++ wcells es by simp [wcells]]
      exact h1
theorem wpList_wds {ops : Array Oper} {rest : List Oper} {o : Oper} {a : Act} {Q : Exit → Act → World → Prop} (w : World) (hgd : o.guard = none) (s x : Operand)
    (ho : o.op = .call { callee := .builtin .append, args := #[s, x], argTypes := #[64, 64] }) (B : Nat) (v : Value) (acc : List Int) (hs : a.eval s = v) (h : Wds w B v acc)
    (vx : Value) (es : List Int) (hx : a.eval x = vx) (hr : Rws w vx es) (hl : acc.length + es.length ≤ 17592186043904) (hB : B ≤ w.heap.size)
    (hK : ∀ v' w', Wds w' B v' (acc ++ es) → w.grownBy w' v.ownBlock → Below B w w' → wpList Try.prog ops Q rest (a.put o.dst v') w') : wpList Try.prog ops Q (o :: rest) a w :=
  wpList_plain hgd fun _ hK' => wp_wds s x ho B v acc hs h vx es hx hr hl hB fun v' w' h1 h2 h3 => hK' _ _ (hK v' w' h1 h2 h3)
theorem h_wp {P : Program} {md : Region.Mode} {ops : Array Oper} {Q : Exit → Act → World → Prop} {S : World → Prop} {i : Nat} {o : Oper} {fuel : Nat} {L : Array Bool} {a : Act} {w : World} (hi : ops[i]? = some o) (hr : Region.ready md ops L = [i]) (hg : o.guard = none)
    (h : ∀ K' : Act → World → Prop, (∀ a' w', S w' ∧ wpAnyH P md ops Q S fuel (L.setIfInBounds i true) a' w' → K' a' w') → o.wp P a w K' Q) : wpAnyH P md ops Q S (fuel + 1) L a w := by
  refine wpAnyH_all hr (by simp) fun j hj => ?_
  obtain rfl : j = i := by simpa using hj
  refine wpOp_step hi fun K' hK => ?_
  rw [if_pos (by simp [Region.wanted, hg])]
  exact h K' fun a' w' h' => hK _ _ h'
theorem cloneW_any (v : Value) (es : List Int) (w : World) (h : Rws w v es) (hl : es.length ≤ 17592186043904) :
    Calls Try.prog 51 #[v] w fun e w' => ∃ v', e = .returned v' ∧ Wds w' w.heap.size v' es ∧ Below w.heap.size w w' := by
  have HR : Hid (Rws w v es) := h
  obtain ⟨ax, cx, rfl, h1, h2, h4⟩ := h
  have HN : Hid (ax = none → es = []) := fun q => by
    subst q
    rcases Nat.eq_zero_or_pos es.length with q | q
    · exact List.eq_nil_of_length_eq_zero q
    · obtain ⟨g, off, q1, _⟩ := h4 q; cases q1
  obtain ⟨n, hn⟩ : ∃ n, es.length = n := ⟨_, rfl⟩
  rw [hn] at HR hl ⊢
  have HE : Hid (es.length = n) := hn
  clear h1 h2 h4 hn
  cases ax with
  | none =>
    have hes := HN.out rfl
    subst hes
    have hnl := fun (w : World) => Lib.run_eql_slice_nil (P := Try.prog) w 64 24 none n cx 0 0 Try.underlying64
    clear HR HN HE
    go_enter Try.func51, Try.ntmps51
    go_wp2
    go_ret
    exact ⟨_, rfl, Wds.nil _ _, Below.refl _ _⟩
  | some ad =>
    have hnl := fun (w : World) => Lib.run_eql_slice_nil (P := Try.prog) w 64 24 (some ad) n cx 0 0 Try.underlying64
    clear HN
    go_enter Try.func51, Try.ntmps51
    go_wp2_with
      (at_builtin
       refine wpList_wds _ rfl _ _ rfl w.heap.size _ [] rfl (World.ownsRow_made w #[] 0 (Nat.le_refl _) (Nat.zero_le _) rfl) _ es rfl (HR.out.below (balloc _ _)) (by have := HE.out; simp; omega) (by simp) ?_
       intro v' w' q1 q2 q3
       have t1 : Hid (Wds w' w.heap.size v' es) := q1
       have t2 : Hid (Below w.heap.size w w') := ((Below.refl _ _).alloc (Nat.le_refl _) _).trans q3
       clear q1 q2 q3)
    go_wp2
    go_ret
    exact ⟨_, rfl, t1.out, t2.out⟩
theorem Rws.upto {w : World} {a : Option Addr} {n c : Nat} {T : List Int} (h : Rws w (.slice a n c) T) (k : Nat) (hk : k ≤ n) :
    (∀ W : World, (Instr.slice 64 (.slice a n c) none (some (.int .i64 (k : Int))) none).run Try.prog W = .ok (.slice a k c) W) ∧ Rws w (.slice a k c) (T.take k) := by
  obtain ⟨a', c', hv, h1, h2, h4⟩ := h
  injection hv with e1 e2 e3
  subst e1 e2 e3
  have hl : (T.take k).length = k := by rw [List.length_take, Nat.min_eq_left hk]
  refine ⟨fun W => ?_, a, c, by rw [hl], by omega, h2, fun hn => ?_⟩
  · have := run_slice_h (P := Try.prog) (w := W) 64 a T.length c Try.underlying64 .i64 (k : Int) (by omega) (by omega)
    simp [this, go_sem, sliced, Addr.add]
    try (intro _; cases a <;> simp [Addr.add])
  · obtain ⟨g, off, rfl, hg, hc⟩ := h4 (by omega)
    refine ⟨g, off, rfl, hg, fun j x hx => hc j x ?_⟩
    have hj := (List.getElem?_eq_some_iff.1 hx).1
    rw [List.getElem?_take, if_pos (by omega)] at hx
    exact hx
end Go.Proofs.Ythjmcopknkemnaa.ring

/- ring: turns: the plain part; what isTurn, checkTurns and Play answer. -/
namespace Go.Proofs.Ythjmcopknkemnaa.ring
open Go Go.RowKit
set_option linter.unusedVariables false
set_option linter.unusedSimpArgs false
set_option maxRecDepth 100000

/-- all that was put, how much was got, how much is known to be got -/
structure Sx where
  all : List Int
  got : Nat
  seen : Nat
def sx0 : Sx := ⟨[], 0, 0⟩
def putS (p : Nat) (s : Sx) (x : Int) : Sx := if s.all.length - s.seen < p - 1 then ⟨s.all ++ [x], s.got, s.seen⟩ else s
def getS (s : Sx) : Sx := ⟨s.all, if s.got < s.all.length then s.got + 1 else s.got, s.seen⟩
def stepT (p : Nat) (s : Sx) (t : Tn) : Sx := if t.1 = 1 then putS p s t.2 else if t.1 = 2 then getS s else if t.1 = 3 then ⟨s.all, s.got, s.got⟩ else s
def runT (p : Nat) : Sx → List Tn → Sx
  | s, [] => s
  | s, t :: r => runT p (stepT p s t) r
def InvS (p : Nat) (s : Sx) : Prop := Inv p s.all s.got s.seen
def stS (p : Nat) (s : Sx) : Rg := st p s.all s.got s.seen
theorem runT_at {p : Nat} {s : Sx} {T : List Tn} {k : Nat} {t : Tn} (h : T[k]? = some t) : runT p s (T.drop k) = runT p (stepT p s t) (T.drop (k + 1)) := by
  have hk := (List.getElem?_eq_some_iff.1 h).1
  have hx := (List.getElem?_eq_some_iff.1 h).2
  rw [List.drop_eq_getElem_cons hk, hx]
  rfl
theorem putS_inv {p : Nat} {s : Sx} (h : InvS p s) (x : Int) : InvS p (putS p s x) := by
  unfold putS
  split
  · rename_i q; exact inv_put h q x
  · exact h
theorem getS_inv {p : Nat} {s : Sx} (h : InvS p s) : InvS p (getS s) := by
  unfold getS
  show Inv p s.all (if s.got < s.all.length then s.got + 1 else s.got) s.seen
  split
  · rename_i q; exact inv_get h q
  · exact h
theorem lrnS_inv {p : Nat} {s : Sx} (h : InvS p s) : InvS p ⟨s.all, s.got, s.got⟩ := inv_lrn h
theorem putS_st {p : Nat} {s : Sx} (h : InvS p s) (x : Int) : (if putB (stS p s) = true then putV (stS p s) x else stS p s) = stS p (putS p s x) := by
  unfold putS stS
  rw [st_room h]
  by_cases q : s.all.length - s.seen < p - 1
  · rw [if_pos (by simpa using q), if_pos q, st_put h]
  · rw [if_neg (by simpa using q), if_neg q]
theorem getS_st {p : Nat} {s : Sx} (h : InvS p s) : getV (stS p s) = stS p (getS s) := st_getV h
theorem lrnS_st {p : Nat} {s : Sx} : lrn (stS p s) = stS p ⟨s.all, s.got, s.got⟩ := rfl
theorem getS_word {p : Nat} {s : Sx} (h : InvS p s) (hg : getB (stS p s) = true) : s.all.take s.got ++ [getW (stS p s)] = (getS s).all.take (getS s).got := by
  have h1 := hg
  unfold stS at h1
  rw [st_get h] at h1
  have h1 : s.got < s.all.length := by simpa using h1
  unfold stS
  rw [st_getW h h1]
  show _ = s.all.take (if s.got < s.all.length then s.got + 1 else s.got)
  rw [if_pos h1, List.take_succ_eq_append_getElem h1, List.getD_eq_getElem?_getD, List.getElem?_eq_getElem h1]
  rfl
theorem getS_none {p : Nat} {s : Sx} (h : InvS p s) (hg : getB (stS p s) = false) : getS s = s := by
  have h1 := hg
  unfold stS at h1
  rw [st_get h] at h1
  have h1 : ¬ s.got < s.all.length := by simpa using h1
  unfold getS
  rw [if_neg h1]
theorem putS_take {p : Nat} {s : Sx} (h : InvS p s) (x : Int) : (putS p s x).all.take (putS p s x).got = s.all.take s.got := by
  unfold putS
  split
  · show (s.all ++ [x]).take s.got = _
    rw [List.take_append_of_le_length h.ga]
  · rfl
theorem putS_len (p : Nat) (s : Sx) (x : Int) : (putS p s x).all.length ≤ s.all.length + 1 := by
  unfold putS
  split
  · simp
  · omega
theorem stepT_inv {p : Nat} {s : Sx} (h : InvS p s) (t : Tn) : InvS p (stepT p s t) := by
  unfold stepT
  split
  · exact putS_inv h _
  · split
    · exact getS_inv h
    · split
      · exact lrnS_inv h
      · exact h
theorem runT_inv {p : Nat} : ∀ {T : List Tn} {s : Sx}, InvS p s → InvS p (runT p s T)
  | [], s, h => h
  | t :: r, s, h => runT_inv (T := r) (stepT_inv h t)
def turnB (x : Int) : Bool := (x == 1) || ((x == 2) || (x == 3))
def tcC (T : List Tn) : Int := if 1000 < T.length then 2 else if T.all (fun t => turnB t.1) = false then 1 else 0
def plC (c : Int) (T : List Tn) : Int := if cnB c = false then 1 else tcC T
def plS (c : Int) (T : List Tn) : Sx := runT (c.toNat - 1) sx0 T
def plR (c : Int) (T : List Tn) : Rg := if plC c T = 0 then stS (c.toNat - 1) (plS c T) else zR
def plL (c : Int) (T : List Tn) : List Int := if plC c T = 0 then (plS c T).all.take (plS c T).got else []
theorem all_at {T : List Tn} {k : Nat} {t : Tn} (h : T[k]? = some t) : (T.drop k).all (fun t => turnB t.1) = (turnB t.1 && (T.drop (k + 1)).all (fun t => turnB t.1)) := by
  have hk := (List.getElem?_eq_some_iff.1 h).1
  have hx := (List.getElem?_eq_some_iff.1 h).2
  rw [List.drop_eq_getElem_cons hk, hx]
  rfl
theorem own_kq {w u : World} {X g B : Nat} {e : TypeId} {s : Nat} {v : Value} {n : Nat} {xs : List Value} (h : w.ownsRow B e s v n xs) (hk : Kq X g w u) (h1 : v.ownBlock ≠ some X) (h2 : v.ownBlock ≠ some g) : u.ownsRow B e s v n xs := by
  rcases h.2 with hn | ⟨g', cap, cur, rfl, hB, hg', rest⟩
  · exact ⟨h.1, .inl hn⟩
  · exact ⟨h.1, .inr ⟨g', cap, cur, rfl, hB, (hk.block g' (Array.getElem?_eq_some_iff.1 hg').1 (fun q => h1 (by rw [q]; rfl)) (fun q => h2 (by rw [q]; rfl))).trans hg', rest⟩⟩
theorem Ces.blk {w : World} {B g n c : Nat} {L : List Ce} (h : Ces w B (.slice (some ⟨g, 0, none⟩) n c) L) : ∃ cur, w.heap[g]? = some (.cells cur 91) := by
  rcases h.2 with ⟨h', _⟩ | ⟨g', cap, cur, h', hB, hg', rest⟩
  · cases h'
  · injection h' with h' _ _
    injection h' with h'
    injection h' with h' _ _
    subst h'
    exact ⟨cur, hg'⟩
/-- a ring that is played with, the words that were got, and a box R that stays -/
structure Ply (w : World) (X g n c R : Nat) (p : Nat) (gv : Value) (s : Sx) (u : World) : Prop where
  bx : Bx X g n c (stS p s) u
  wd : Wds u w.heap.size gv (s.all.take s.got)
  rb : u.heap[R]? = some (rgO (.slice none 0 0) 0 0 0 0 0)
  rx : R ≠ X
  rg : R ≠ g
  lx : w.heap.size ≤ X
  lg : w.heap.size ≤ g
  bl : Below w.heap.size w u
  inv : InvS p s
section
variable {w u v : World} {X g n c R p : Nat} {gv : Value} {s : Sx}
theorem Ply.below (h : Ply w X g n c R p gv s u) (hb : Below u.heap.size u v) : Ply w X g n c R p gv s v :=
  ⟨h.bx.below hb, own_below h.wd hb, keep h.rb hb, h.rx, h.rg, h.lx, h.lg, bsq h.bl hb, h.inv⟩
theorem Ply.neX (h : Ply w X g n c R p gv s u) : gv.ownBlock ≠ some X := box_ne h.wd h.bx.1 (by decide)
theorem Ply.neG (h : Ply w X g n c R p gv s u) : gv.ownBlock ≠ some g := by
  obtain ⟨cur, hc⟩ := h.bx.2.1.blk
  exact box_ne h.wd hc (by decide)
theorem Ply.neR (h : Ply w X g n c R p gv s u) : gv.ownBlock ≠ some R := box_ne h.wd h.rb (by decide)
/-- the ring is another one -/
theorem Ply.to (h : Ply w X g n c R p gv s u) {s' : Sx} (hk : Kq X g u v) (hb : Bx X g n c (stS p s') v) (ht : s'.all.take s'.got = s.all.take s.got) (hi : InvS p s') : Ply w X g n c R p gv s' v :=
  ⟨hb, by rw [ht]; exact own_kq h.wd hk h.neX h.neG, hk.keep h.rb h.rx h.rg, h.rx, h.rg, h.lx, h.lg, h.bl.trans (hk.below h.lx h.lg h.bl.size), hi⟩
theorem grown_keep {Y : Nat} {o : Obj} {row : Option Nat} (h : u.heap[Y]? = some o) (hg : u.grownBy v row) (hn : row ≠ some Y) : v.heap[Y]? = some o :=
  (hg.block Y (Array.getElem?_eq_some_iff.1 h).1 (fun q => hn q.symm)).trans h
end
end Go.Proofs.Ythjmcopknkemnaa.ring

/- ring: what Play answers. -/
namespace Go.Proofs.Ythjmcopknkemnaa.ring
open Go Go.RowKit
set_option linter.unusedVariables false
set_option linter.unusedSimpArgs false
set_option maxRecDepth 100000

/-- a word was got, and is written down behind the others -/
theorem Ply.mid {w u v : World} {X g n c R p : Nat} {gv : Value} {s : Sx} (h : Ply w X g n c R p gv s u) (hk : Kq X g u v) : Wds v w.heap.size gv (s.all.take s.got) ∧ w.heap.size ≤ v.heap.size := ⟨own_kq h.wd hk h.neX h.neG, Nat.le_trans h.bl.size hk.size⟩
theorem Ply.got {w u v x y : World} {X g n c R p : Nat} {gv gv' : Value} {s : Sx} (h : Ply w X g n c R p gv s u) (hk : Kq X g u v) (hb : Bx X g n c (stS p (getS s)) v) (h1 : Below v.heap.size v x) (h2 : x.grownBy y gv.ownBlock) (h3 : Below w.heap.size x y) (hw : Wds y w.heap.size gv' ((getS s).all.take (getS s).got)) : Ply w X g n c R p gv' (getS s) y :=
  have hbx := hb.below h1
  have hr := keep (hk.keep h.rb h.rx h.rg) h1
  ⟨⟨grown_keep hbx.1 h2 h.neX, World.ownsRow.kept hbx.2.1 h2 (.inr (fun q => h.neG q.symm)), hbx.2.2⟩, hw, grown_keep hr h2 h.neR, h.rx, h.rg, h.lx, h.lg, ((h.bl.trans (hk.below h.lx h.lg h.bl.size)).trans (h1.mono (Nat.le_trans h.bl.size hk.size))).trans h3, getS_inv h.inv⟩
end Go.Proofs.Ythjmcopknkemnaa.ring

/- plugref: RingPlay's closure mark. -/
namespace Go.Proofs.Ythjmcopknkemnaa.ring
open Go Go.RowKit
set_option linter.unusedVariables false
set_option linter.unusedSimpArgs false
set_option maxRecDepth 100000

theorem h_three {P : Program} {md : Region.Mode} {ops : Array Oper} {Q : Exit → Act → World → Prop} {S : World → Prop} (i j l : Nat) {fuel : Nat} {L : Array Bool} {a : Act} {w : World} (hr : Region.ready md ops L = [i, j, l])
    (h1 : wpOp P ops Q i (fun a' w' => S w' ∧ wpAnyH P md ops Q S fuel (L.setIfInBounds i true) a' w') a w)
    (h2 : wpOp P ops Q j (fun a' w' => S w' ∧ wpAnyH P md ops Q S fuel (L.setIfInBounds j true) a' w') a w)
    (h3 : wpOp P ops Q l (fun a' w' => S w' ∧ wpAnyH P md ops Q S fuel (L.setIfInBounds l true) a' w') a w) : wpAnyH P md ops Q S (fuel + 1) L a w := by
  refine wpAnyH_all hr (by simp) fun k hk => ?_
  rcases List.mem_cons.1 hk with rfl | hk
  · exact h1
  rcases List.mem_cons.1 hk with rfl | hk
  · exact h2
  · obtain rfl : k = l := by simpa using hk
    exact h3
theorem box1 {u : World} {X : Nat} {x : Value} {T : TypeId} (h : u.heap[X]? = some (.cells #[x] T)) : X < u.heap.size ∧ u.cell? ⟨X, 0, none⟩ = some x ∧ u.frozen? ⟨X, 0, none⟩ = false := by
  refine ⟨(Array.getElem?_eq_some_iff.1 h).1, ?_, frozen_of_row u X 0 _ _ h⟩
  rw [cell_of_row u X _ _ _ (0, 0) h]; rfl
abbrev inO (p : Int) : Obj := .cells #[.int .i64 p] 3
set_option maxHeartbeats 2000000 in
theorem mark_any (X k p : Nat) (w : World) (hX : w.heap[X]? = some (inO (p : Int))) (hp : 2 ≤ p) (hp2 : p ≤ 63) (hk : k ≤ 1000) :
    Calls Try.prog 50 #[.int .i64 (k : Int), .pointer (some ⟨X, 0, none⟩)] w fun e w' => e = .returned (mkV (mk p k).1 (mk p k).2) ∧ Below w.heap.size w w' := by
  obtain ⟨w1, hw1, hR1, hb1⟩ := named w (mkO 0 0)
  have HX : Hid (∀ u, Below w1.heap.size w1 u → u.heap[X]? = some (inO (p : Int)) ∧ u.heap[w.heap.size]? = some (mkO 0 0)) := fun u hu => ⟨keep (keep hX hb1) hu, keep hR1 hu⟩
  have HB : Hid (Below w.heap.size w w1) := hb1
  obtain ⟨M, hM⟩ : ∃ M, ((k % p : Nat) : Int) = M := ⟨_, rfl⟩
  obtain ⟨D, hD⟩ : ∃ D : Nat, k / p = D := ⟨_, rfl⟩
  obtain ⟨E, hE⟩ : ∃ E, (((D + 1) % 2 : Nat) : Int) = E := ⟨_, rfl⟩
  have hmk : (mk p k).1 = M ∧ (mk p k).2 = E := ⟨hM, by rw [← hE, ← hD]; rfl⟩
  rw [hmk.1, hmk.2]
  have hDk : D ≤ 1000 := by rw [← hD]; exact Nat.le_trans (Nat.div_le_self _ _) hk
  have t1 : ((k : Int)).tmod (p : Int) = M := by rw [← hM, Int.tmod_eq_emod_of_nonneg (by omega)]; omega
  have t2 : ((k : Int)).tdiv (p : Int) = (D : Int) := by rw [← hD, Int.tdiv_eq_ediv_of_nonneg (by omega)]; omega
  have t3 : ((D : Int) + 1).tmod 2 = E := by rw [← hE, Int.tmod_eq_emod_of_nonneg (by omega)]; omega
  have t4 : IntKind.i64.wrap ((D : Int) + 1) = (D : Int) + 1 := by rw [IntKind.wrap_i64]; omega
  have hE0 : 0 ≤ E ∧ E ≤ 1 := by rw [← hE]; omega
  have hM0 : 0 ≤ M ∧ M ≤ 1000 := by rw [← hM]; have := Nat.mod_le k p; omega
  obtain ⟨hE1, hE2⟩ := hE0
  obtain ⟨hM1, hM2⟩ := hM0
  have t5 : IntKind.i64.wrap M = M := by rw [IntKind.wrap_i64]; omega
  have t6 : IntKind.i64.wrap (D : Int) = (D : Int) := by rw [IntKind.wrap_i64]; omega
  have t7 : IntKind.i64.wrap E = E := by rw [IntKind.wrap_i64]; omega
  have hp0 : ((p : Int) == 0) = false := by simp; omega
  have hp1 : ¬ (p : Int) = 0 := by omega
  have hp3 : ¬ p = 0 := by omega
  clear hR1 hb1 hM hD hE hmk
  go_enter Try.func50, Try.ntmps50
  go_upto_region 1 with (fail)
  refine wp_abs (fun a0 => a0.tmps.size = 13 ∧ (∀ h, a0.tmps[0]'h = .int .i64 (k : Int)) ∧ (∀ h, a0.tmps[1]'h = .pointer (some ⟨X, 0, none⟩)) ∧ (∀ h, a0.tmps[3]'h = .pointer (some ⟨w.heap.size, 0, none⟩))) ⟨rfl, fun _ => rfl, fun _ => rfl, fun _ => rfl⟩ ?_
  rintro a0 ⟨hsz, s0, s1, s3⟩ ha0
  refine wp_region_held (S := fun W => W.heap[X]? = some (inO (p : Int))) (by kernel_rfl) ?_
  obtain ⟨wd, hwd⟩ : ∃ wd, w1.drew = wd := ⟨_, rfl⟩
  have hbd : Below w1.heap.size w1 wd := by rw [← hwd]; exact (Below.refl _ _).drew
  show wpAnyH _ _ _ _ _ _ _ _ w1.drew
  rw [hwd]
  have hS0 : wd.heap[X]? = some (inO (p : Int)) := (HX.out wd hbd).1
  refine h_take (i := 0) (.int .i64 (k : Int)) rfl (by kernel_rfl) (by kernel_rfl) (by kernel_rfl) (fun _ _ _ h => h) rfl hS0 (fun W hW => by simp [execOp, go_sem, Act.put, hsz, s0, s1, s3]) ?_
  refine h_take (i := 1) (.int .i64 (p : Int)) rfl (by kernel_rfl) (by kernel_rfl) (by kernel_rfl) (fun _ _ _ h => h) rfl hS0 (fun W hW => by obtain ⟨zb, x0, _⟩ := box1 hW; simp [execOp, go_sem, Act.put, hsz, s0, s1, s3, zb, x0]) ?_
  refine h_take (i := 2) (.int .i64 M) rfl (by kernel_rfl) (by kernel_rfl) (by kernel_rfl) (fun _ _ _ h => h) rfl hS0 (fun W hW => by simp [execOp, go_sem, Act.put, hsz, s0, s1, s3, t1, t5, hp0, hp1, hp3]) ?_
  refine h_take (i := 3) (.int .i64 (k : Int)) rfl (by kernel_rfl) (by kernel_rfl) (by kernel_rfl) (fun _ _ _ h => h) rfl hS0 (fun W hW => by simp [execOp, go_sem, Act.put, hsz, s0, s1, s3]) ?_
  refine h_take (i := 4) (.int .i64 (p : Int)) rfl (by kernel_rfl) (by kernel_rfl) (by kernel_rfl) (fun _ _ _ h => h) rfl hS0 (fun W hW => by obtain ⟨zb, x0, _⟩ := box1 hW; simp [execOp, go_sem, Act.put, hsz, s0, s1, s3, zb, x0]) ?_
  refine h_take (i := 5) (.int .i64 (D : Int)) rfl (by kernel_rfl) (by kernel_rfl) (by kernel_rfl) (fun _ _ _ h => h) rfl hS0 (fun W hW => by simp [execOp, go_sem, Act.put, hsz, s0, s1, s3, t2, t6, hp0, hp1, hp3]) ?_
  refine h_take (i := 6) (.int .i64 ((D : Int) + 1)) rfl (by kernel_rfl) (by kernel_rfl) (by kernel_rfl) (fun _ _ _ h => h) rfl hS0 (fun W hW => by simp [execOp, go_sem, Act.put, hsz, s0, s1, s3, t4]) ?_
  refine h_take (i := 7) (.int .i64 E) rfl (by kernel_rfl) (by kernel_rfl) (by kernel_rfl) (fun _ _ _ h => h) rfl hS0 (fun W hW => by simp [execOp, go_sem, Act.put, hsz, s0, s1, s3, t3, t7]) ?_
  refine h_take (i := 8) (mkV M E) rfl (by kernel_rfl) (by kernel_rfl) (by kernel_rfl) (fun _ _ _ h => h) rfl hS0 (fun W hW => by simp [execOp, go_sem, Act.put, hsz, s0, s1, s3]) ?_
  obtain ⟨uf, huf, hXf, hBf, hkf, _⟩ := put2 wd w.heap.size (.int .i64 M) (.int .i64 E) (HX.out wd hbd).2
  obtain ⟨⟨zr, r0, r1⟩, f0, f1⟩ := box2 (HX.out wd hbd).2
  have hXne : X ≠ w.heap.size := by
    have h1 := (Array.getElem?_eq_some_iff.1 hX).1
    omega
  have hSf : uf.heap[X]? = some (inO (p : Int)) := (hkf X hXne).trans hS0
  refine h_skip (i := 9) (w' := uf) rfl (by kernel_rfl) rfl (by rw [← huf]; simp [execOp, go_sem, Act.put, hsz, s0, s1, s3, zr, r0, r1, f0, f1]) hSf ?_
  refine wpAnyH_done (by kernel_rfl) ?_ _
  have HBf : Hid (Below w.heap.size w uf) := hBf _ _ (Nat.le_refl _) (bsq HB.out hbd)
  obtain ⟨⟨hzf, y0, y1⟩, _⟩ := box2 hXf
  clear huf r0 r1 f0 f1 hXf hBf hkf hS0 hSf hX hwd hbd t1 t2 t3 t4 t5 t6 t7
  subst ha0
  clear hsz s0 s1 s3
  go_simp
  go_wp2_with fail
  exact bodyPost_ret (v := mkV M E) (by simp [results, Try.results50, go_sem, hzf, y0, y1]) rfl ⟨rfl, HBf.out⟩
end Go.Proofs.Ythjmcopknkemnaa.ring

/- plugref: what RingPlay answers. -/
namespace Go.Proofs.Ythjmcopknkemnaa.ring
open Go Go.RowKit
set_option linter.unusedVariables false
set_option linter.unusedSimpArgs false
set_option maxRecDepth 100000

theorem laid1 (u : World) (T : TypeId) (x x' : Value) : ∃ u1 uf, u.alloc (.cells #[x] T) = u1 ∧ u1.setCell ⟨u.heap.size, 0, none⟩ x' = uf ∧ u1.heap[u.heap.size]? = some (.cells #[x] T) ∧ uf.heap[u.heap.size]? = some (.cells #[x'] T) ∧ Below u.heap.size u uf := by
  obtain ⟨u1, hu1, hX1, hb1⟩ := named u (.cells #[x] T)
  exact ⟨u1, _, hu1, rfl, hX1, csetX 0 _ hX1 rfl, hb1.setCell (Nat.le_refl _) _⟩
/-- what the loop over turns holds: the result's box R, the places' box P, all words that were put -/
structure Lp (w : World) (P : Nat) (av : Value) (p : Nat) (s : Sx) (u : World) : Prop where
  wd : Wds u w.heap.size av s.all
  rb : u.heap[w.heap.size]? = some (rgO (.slice none 0 0) 0 0 0 0 0)
  pb : u.heap[P]? = some (inO (p : Int))
  bl : Below w.heap.size w u
  inv : InvS p s
theorem Lp.below {w u x : World} {P p : Nat} {av : Value} {s : Sx} (h : Lp w P av p s u) (hb : Below u.heap.size u x) : Lp w P av p s x := ⟨own_below h.wd hb, keep h.rb hb, keep h.pb hb, bsq h.bl hb, h.inv⟩
theorem Lp.grow {w u x y : World} {P p : Nat} {av av' : Value} {s s' : Sx} (h : Lp w P av p s u) (hb : Below u.heap.size u x) (hg : x.grownBy y av.ownBlock) (hB : Below w.heap.size x y) (hw : Wds y w.heap.size av' s'.all) (hi : InvS p s') : Lp w P av' p s' y :=
  have hx := h.below hb
  ⟨hw, grown_keep hx.rb hg (box_ne hx.wd hx.rb (by decide)), grown_keep hx.pb hg (box_ne hx.wd hx.pb (by decide)), hx.bl.trans hB, hi⟩
theorem Lp.with {w u : World} {P p : Nat} {av : Value} {s s' : Sx} (h : Lp w P av p s u) (h1 : s'.all = s.all) (hi : InvS p s') : Lp w P av p s' u := ⟨by rw [h1]; exact h.wd, h.rb, h.pb, h.bl, hi⟩
set_option maxHeartbeats 16000000 in
theorem refPlay_any (cc : Int) (v : Value) (T : List Tn) (w : World) (hv : Rtn w v T) :
    Calls Try.prog 23 #[.int .i64 cc, v] w fun e w' => ∃ v' gv, e = .returned (.tuple #[rgW v' (plR cc T), gv, .int .i64 (plC cc T)]) ∧ Ces w' w.heap.size v' (plR cc T).C ∧ Wds w' w.heap.size gv (plL cc T) ∧ Below w.heap.size w w' := by
  obtain ⟨a, c, rfl, hlc, hcm⟩ := hv.form
  obtain ⟨n, hn⟩ : ∃ n, T.length = n := ⟨_, rfl⟩
  have HN : Hid (T.length = n) := hn
  obtain ⟨Z, hZ⟩ : ∃ Z : Ending → World → Prop, (fun e w' => ∃ v' gv, e = .returned (.tuple #[rgW v' (plR cc T), gv, .int .i64 (plC cc T)]) ∧ Ces w' w.heap.size v' (plR cc T).C ∧ Wds w' w.heap.size gv (plL cc T) ∧ Below w.heap.size w w') = Z := ⟨_, rfl⟩
  rw [hn] at hv hlc ⊢
  rw [hZ]
  have HZ : Hid (∀ e w', (∃ v' gv, e = .returned (.tuple #[rgW v' (plR cc T), gv, .int .i64 (plC cc T)]) ∧ Ces w' w.heap.size v' (plR cc T).C ∧ Wds w' w.heap.size gv (plL cc T) ∧ Below w.heap.size w w') → Z e w') := fun e w' h => by rw [← hZ]; exact h
  obtain ⟨w1, hw1, hX1, hb1⟩ := named w (rgO (.slice none 0 0) 0 0 0 0 0)
  have HTT : Hid (∀ u, Below w.heap.size w u → Rtn u (.slice a n c) T) := fun u hu => hv.below hu
  have HERR : Hid (∀ (W : World) (z : Int), W.heap[w.heap.size]? = some (rgO (.slice none 0 0) 0 0 0 0 0) → Below w.heap.size w W → plC cc T = z → ¬ z = 0 → ∃ uf, (((((W.setCell ⟨w.heap.size, 0, none⟩ (.slice none 0 0)).setCell ⟨w.heap.size, 1, none⟩ (.int .i64 0)).setCell ⟨w.heap.size, 2, none⟩ (.int .i64 0)).setCell ⟨w.heap.size, 3, none⟩ (.int .i64 0)).setCell ⟨w.heap.size, 4, none⟩ (.int .i64 0)).setCell ⟨w.heap.size, 5, none⟩ (.int .i64 0) = uf ∧ uf.heap[w.heap.size]? = some (rgO (.slice none 0 0) 0 0 0 0 0) ∧ Z (.returned (.tuple #[rgV (.slice none 0 0) 0 0 0 0 0, .slice none 0 0, .int .i64 z])) uf) := fun W z hW hbW hz h0 => by
    obtain ⟨uf, huf, hXf, hBf, _, _⟩ := put6 W w.heap.size (.slice none 0 0) (.int .i64 0) (.int .i64 0) (.int .i64 0) (.int .i64 0) (.int .i64 0) hW
    refine ⟨uf, huf, hXf, HZ.out _ _ ?_⟩
    unfold plR plL
    rw [hz, if_neg h0, if_neg h0]
    exact ⟨_, _, rfl, Ces.nil _ _, ⟨rfl, .inl ⟨rfl, rfl⟩⟩, hBf _ _ (Nat.le_refl _) hbW⟩
  have HX1 : Hid (w1.heap[w.heap.size]? = some (rgO (.slice none 0 0) 0 0 0 0 0) ∧ Below w.heap.size w w1) := ⟨hX1, hb1⟩
  obtain ⟨⟨hz1, x0, x1, x2, x3, x4, x5⟩, f0, f1, f2, f3, f4, f5⟩ := box6 hX1
  have HS : Hid (Calls Try.prog 32 #[.int .i64 cc, .int .i64 3, .int .i64 64] w1 fun e w' => e = .returned (.bool (cnB cc)) ∧ w1 = w') := betCn cc w1
  unfold maxLen at hcm
  clear hv hn hX1 hb1 hZ
  cases hcn : cnB cc
  · obtain ⟨uf, huf, hXf, hE⟩ := HERR.out w1 1 HX1.out.1 HX1.out.2 (by unfold plC; rw [hcn]; rfl) (by decide)
    have HE : Hid (Z (.returned (.tuple #[rgV (.slice none 0 0) 0 0 0 0 0, .slice none 0 0, .int .i64 1])) uf) := hE
    obtain ⟨⟨hzf, y0, y1, y2, y3, y4, y5⟩, _⟩ := box6 hXf
    rw [hcn] at HS
    clear hXf hE hcn
    go_enter Try.func23, Try.ntmps23
    go_wp2_with fail
    refine HS.out.mono ?_
    rintro e u ⟨rfl, rfl⟩
    clear hw1
    go_wp2
    try rw [huf]
    exact bodyPost_ret (v := .tuple #[rgV (.slice none 0 0) 0 0 0 0 0, .slice none 0 0, .int .i64 1]) (by simp [results, Try.results23, go_sem, hzf, y0, y1, y2, y3, y4, y5]) rfl HE.out
  rw [hcn] at HS
  have HPC : Hid (plC cc T = if 1000 < n then 2 else if T.all (fun t => turnB t.1) = false then 1 else 0) := by show _ = _; unfold plC tcC; rw [hcn, if_neg (by decide), HN.out]
  by_cases hl : 1000 < n
  · obtain ⟨uf, huf, hXf, hE⟩ := HERR.out w1 2 HX1.out.1 HX1.out.2 (by rw [HPC.out, if_pos hl]) (by decide)
    have HE : Hid (Z (.returned (.tuple #[rgV (.slice none 0 0) 0 0 0 0 0, .slice none 0 0, .int .i64 2])) uf) := hE
    obtain ⟨⟨hzf, y0, y1, y2, y3, y4, y5⟩, _⟩ := box6 hXf
    have e1 : decide ((n : Int) > 1000) = true := by rw [decide_eq_true_eq]; omega
    clear hXf hE hcn hl
    go_enter Try.func23, Try.ntmps23
    go_wp2_with fail
    refine HS.out.mono ?_
    rintro e u ⟨rfl, rfl⟩
    clear hw1
    go_wp2
    try rw [huf]
    exact bodyPost_ret (v := .tuple #[rgV (.slice none 0 0) 0 0 0 0 0, .slice none 0 0, .int .i64 2]) (by simp [results, Try.results23, go_sem, hzf, y0, y1, y2, y3, y4, y5]) rfl HE.out
  have e1 : decide ((n : Int) > 1000) = false := by rw [decide_eq_false_iff_not]; omega
  have hn2 : n ≤ 1000 := by omega
  have hcc := cn_iff.1 hcn
  obtain ⟨p, hp⟩ : ∃ p : Nat, cc.toNat - 1 = p := ⟨_, rfl⟩
  have hp2 : 2 ≤ p := by omega
  have hp63 : p ≤ 63 := by omega
  have hm1 : cc - 1 = (p : Int) := by omega
  have hc3 : 3 ≤ cc := by omega
  have hc64 : cc ≤ 64 := by omega
  obtain ⟨w2, w3, hw2, hw3, hP2, hP3, hb3⟩ := laid1 w1 3 (.int .i64 0) (.int .i64 (p : Int))
  obtain ⟨zp, p0, pf0⟩ := box1 hP2
  have HL0 : Hid (Lp w w1.heap.size (.slice none 0 0) p sx0 w3) := ⟨⟨rfl, .inl ⟨rfl, rfl⟩⟩, keep HX1.out.1 hb3, hP3, bsq HX1.out.2 hb3, inv_new hp2 hp63⟩
  obtain ⟨q, hq⟩ : ∃ q, plS cc T = q := ⟨_, rfl⟩
  have HQ : Hid (runT p sx0 T = q) := by show _ = _; rw [← hq]; unfold plS; rw [hp]
  obtain ⟨qa, hqa⟩ : ∃ q, T.all (fun t => turnB t.1) = q := ⟨_, rfl⟩
  have HQA : Hid (T.all (fun t => turnB t.1) = qa) := hqa
  have HPC2 : Hid (plC cc T = if qa = false then 1 else 0) := by show _ = _; rw [HPC.out, if_neg hl, hqa]
  have HRES : Hid (qa = true → plR cc T = stS p q ∧ plL cc T = q.all.take q.got ∧ plC cc T = 0) := fun h => by
    have h2 := HPC2.out
    rw [h, if_neg (by decide)] at h2
    unfold plR plL
    rw [h2, if_pos rfl, if_pos rfl, hq, hp]
    exact ⟨rfl, rfl, rfl⟩
  have HCC : Hid (cc = ((p + 1 : Nat) : Int)) := by show _ = _; omega
  clear hP2 hP3 hb3 hq hqa hl hcn hcc hp HPC
  go_enter Try.func23, Try.ntmps23
  go_wp2_with fail
  refine HS.out.mono ?_
  rintro e u ⟨rfl, rfl⟩
  clear hw1 x0 x1 x2 x3 x4 x5 f0 f1 f2 f3 f4 f5
  go_upto_region 6 with (fail)
  try rw [hw3]
  clear hw2 hw3 p0 pf0
  go_wp2
  go_loopw [8, 9, 10, 29] (fun av gv sv i wr => ∃ (k : Nat), k ≤ n ∧ i = .int .i64 (k : Int) ∧ Hid (∃ s : Sx, gv = .int .i64 (s.got : Int) ∧ sv = .int .i64 (s.seen : Int) ∧ Lp w w1.heap.size av p s wr ∧ runT p s (T.drop k) = q ∧ (T.drop k).all (fun t => turnB t.1) = qa ∧ s.all.length ≤ k)) (fun _ _ _ i _ => n - (intOf i).toNat)
  case atStart => exact ⟨0, Nat.zero_le _, rfl, sx0, rfl, rfl, HL0.out, HQ.out, HQA.out, Nat.zero_le _⟩
  case round =>
    obtain ⟨k, hk, rfl, HA⟩ := hrel
    obtain ⟨s, hgv, hsv, hL, hrun, hall, hlen⟩ := HA.out
    clear HA
    have hsA := hL.inv.sg
    have hgA := hL.inv.ga
    have hrA := hL.inv.room
    obtain ⟨A, hA⟩ : ∃ A, s.all.length = A := ⟨_, rfl⟩
    obtain ⟨G, hG⟩ : ∃ G, s.got = G := ⟨_, rfl⟩
    obtain ⟨N, hN⟩ : ∃ N, s.seen = N := ⟨_, rfl⟩
    rw [hG] at hgv hgA hsA
    rw [hN] at hsv hsA hrA
    rw [hA] at hgA hrA hlen
    obtain ⟨av, ac, hav, hac, hacm⟩ := hL.wd.form
    rw [hA] at hav hac
    subst hgv hsv hav
    have HS2 : Hid (s.all.length = A ∧ s.got = G ∧ s.seen = N) := ⟨hA, hG, hN⟩
    have HL : Hid (Lp w w1.heap.size (.slice av A ac) p s wr) := hL
    unfold maxLen at hacm
    by_cases hlt : ¬ k < n
    · rw [List.drop_eq_nil_of_le (by have := HN.out; omega)] at hrun hall
      have hrun : s = q := hrun
      have hall : true = qa := hall
      subst hrun
      have HRES2 : Hid (plR cc T = stS p s ∧ plL cc T = s.all.take s.got ∧ plC cc T = 0) := HRES.out hall.symm
      clear hA hG hN hL hall HQ HQA HERR HPC2 HRES
      go_upto_region 22 with (fail)
      have hA1000 : A ≤ 1000 := by omega
      obtain ⟨a1, ha1⟩ : ∃ x, (mk p A).1 = x := ⟨_, rfl⟩
      obtain ⟨a2, ha2⟩ : ∃ x, (mk p A).2 = x := ⟨_, rfl⟩
      obtain ⟨g1, hg1⟩ : ∃ x, (mk p G).1 = x := ⟨_, rfl⟩
      obtain ⟨g2, hg2⟩ : ∃ x, (mk p G).2 = x := ⟨_, rfl⟩
      obtain ⟨SN, hSN⟩ : ∃ x, ((N % p : Nat) : Int) = x := ⟨_, rfl⟩
      have HST : Hid (stS p s = ⟨stL p s.all, a1, a2, g1, g2, SN⟩) := by
        show _ = _
        unfold stS st
        rw [HS2.out.1, HS2.out.2.1, HS2.out.2.2, ha1, ha2, hg1, hg2, hSN]
      have HMK : Hid (∀ (j : Nat) W, j ≤ 1000 → W.heap[w1.heap.size]? = some (inO (p : Int)) → Calls Try.prog 50 #[.int .i64 (j : Int), .pointer (some ⟨w1.heap.size, 0, none⟩)] W fun e w' => e = .returned (mkV (mk p j).1 (mk p j).2) ∧ Below W.heap.size W w') := fun j W hj hW => mark_any _ j p W hW hp2 hp63 hj
      have HMA : Hid (∀ W, Below wr.heap.size wr W → Calls Try.prog 50 #[.int .i64 (A : Int), .pointer (some ⟨w1.heap.size, 0, none⟩)] W fun e w' => e = .returned (mkV a1 a2) ∧ Below W.heap.size W w') := fun W hW => by
        have := HMK.out A W hA1000 (keep HL.out.pb hW)
        rw [ha1, ha2] at this
        exact this
      have HMG : Hid (∀ W, Below wr.heap.size wr W → Calls Try.prog 50 #[.int .i64 (G : Int), .pointer (some ⟨w1.heap.size, 0, none⟩)] W fun e w' => e = .returned (mkV g1 g2) ∧ Below W.heap.size W w') := fun W hW => by
        have := HMK.out G W (by omega) (keep HL.out.pb hW)
        rw [hg1, hg2] at this
        exact this
      have eg := enters_of (P := Try.prog) Try.func50 (by kernel_rfl) rfl
      have hrem : ((N : Int)).tmod (p : Int) = SN := by rw [← hSN, Int.tmod_eq_emod_of_nonneg (by omega)]; omega
      have hSNw : IntKind.i64.wrap SN = SN := by rw [← hSN, IntKind.wrap_i64]; have := Nat.mod_le N p; omega
      have hp0 : ((p : Int) == 0) = false := by simp; omega
      have hp1 : ¬ (p : Int) = 0 := by omega
      have hp3 : ¬ p = 0 := by omega
      clear ha1 ha2 hg1 hg2 hSN
      go_cut [14] from 62 (fun yv wx => ∃ Y g : Nat, yv = .pointer (some ⟨Y, 0, none⟩) ∧ Hid (wx.heap[Y]? = some (rgO (.slice (some ⟨g, 0, none⟩) (p + 1) (p + 1)) a1 a2 g1 g2 SN) ∧ Ces wx g (.slice (some ⟨g, 0, none⟩) (p + 1) (p + 1)) (List.replicate (p + 1) cz) ∧ Lp w w1.heap.size (.slice av A ac) p s wx ∧ wr.heap.size ≤ g ∧ wr.heap.size ≤ Y))
      case first =>
        obtain ⟨i0, hi, hz0, hzs1, hzs2⟩ := info_parts infoC
        refine wp_abs (fun a0 => a0.tmps.size = 110 ∧ (∀ h, a0.tmps[0]'h = .int .i64 cc) ∧ (∀ h, a0.tmps[7]'h = .pointer (some ⟨w1.heap.size, 0, none⟩)) ∧ (∀ h, a0.tmps[8]'h = .slice av A ac) ∧ (∀ h, a0.tmps[9]'h = .int .i64 (G : Int)) ∧ (∀ h, a0.tmps[10]'h = .int .i64 (N : Int)) ∧ (∀ h, a0.tmps[13]'h = .func (.func 50) #[] #[.pointer (some ⟨w1.heap.size, 0, none⟩)])) ⟨rfl, fun _ => rfl, fun _ => rfl, fun _ => rfl, fun _ => rfl, fun _ => rfl, fun _ => rfl⟩ ?_
        rintro a0 ⟨hsz, s0, s7, s8, s9, s10, s13⟩ ha0
        refine wp_region_held (S := fun W => Below wr.heap.size wr W) (by kernel_rfl) ?_
        obtain ⟨u0, hu0⟩ : ∃ u0, wr.drew = u0 := ⟨_, rfl⟩
        have hS0 : Below wr.heap.size wr u0 := by rw [← hu0]; exact (Below.refl _ _).drew
        show wpAnyH _ _ _ _ _ _ _ _ wr.drew
        rw [hu0]
        refine h_take (i := 0) (.int .i64 cc) rfl (by kernel_rfl) (by kernel_rfl) (by kernel_rfl) (fun _ _ _ h => h) rfl hS0 (fun W hW => by simp [execOp, go_sem, Act.put, hsz, s0, s7, s8, s9, s10, s13, eg]) ?_
        refine h_take (i := 2) (.func (.func 50) #[] #[.pointer (some ⟨w1.heap.size, 0, none⟩)]) rfl (by kernel_rfl) (by kernel_rfl) (by kernel_rfl) (fun _ _ _ h => h) rfl hS0 (fun W hW => by simp [execOp, go_sem, Act.put, hsz, s0, s7, s8, s9, s10, s13, eg]) ?_
        refine h_take (i := 3) (.slice av A ac) rfl (by kernel_rfl) (by kernel_rfl) (by kernel_rfl) (fun _ _ _ h => h) rfl hS0 (fun W hW => by simp [execOp, go_sem, Act.put, hsz, s0, s7, s8, s9, s10, s13, eg]) ?_
        refine h_take (i := 4) (.int .i64 (A : Int)) rfl (by kernel_rfl) (by kernel_rfl) (by kernel_rfl) (fun _ _ _ h => h) rfl hS0 (fun W hW => by simp [execOp, go_sem, Act.put, hsz, s0, s7, s8, s9, s10, s13, eg]) ?_
        refine h_take (i := 6) (.func (.func 50) #[] #[.pointer (some ⟨w1.heap.size, 0, none⟩)]) rfl (by kernel_rfl) (by kernel_rfl) (by kernel_rfl) (fun _ _ _ h => h) rfl hS0 (fun W hW => by simp [execOp, go_sem, Act.put, hsz, s0, s7, s8, s9, s10, s13, eg]) ?_
        refine h_take (i := 7) (.int .i64 (G : Int)) rfl (by kernel_rfl) (by kernel_rfl) (by kernel_rfl) (fun _ _ _ h => h) rfl hS0 (fun W hW => by simp [execOp, go_sem, Act.put, hsz, s0, s7, s8, s9, s10, s13, eg]) ?_
        refine h_take (i := 9) (.int .i64 (N : Int)) rfl (by kernel_rfl) (by kernel_rfl) (by kernel_rfl) (fun _ _ _ h => h) rfl hS0 (fun W hW => by simp [execOp, go_sem, Act.put, hsz, s0, s7, s8, s9, s10, s13, eg]) ?_
        refine h_take (i := 10) (.int .i64 (p : Int)) rfl (by kernel_rfl) (by kernel_rfl) (by kernel_rfl) (fun _ _ _ h => h) rfl hS0 (fun W hW => by obtain ⟨zb, x0, _⟩ := box1 (keep HL.out.pb hW); simp [execOp, go_sem, Act.put, hsz, s0, s7, s8, s9, s10, s13, eg, zb, x0]) ?_
        refine h_take (i := 11) (.int .i64 SN) rfl (by kernel_rfl) (by kernel_rfl) (by kernel_rfl) (fun _ _ _ h => h) rfl hS0 (fun W hW => by simp [execOp, go_sem, Act.put, hsz, s0, s7, s8, s9, s10, s13, eg, hrem, hSNw, hp0, hp1, hp3]) ?_
        refine h_three 1 5 13 (by kernel_rfl) ?_ ?_ ?_
        · obtain ⟨v1, hrun1, ro1, rg1⟩ := run_make_full (P := Try.prog) (w := u0) u0.heap.size 31 91 i0 (.agg #[.int .u64 0, .int .i64 0, .bool false]) 3 Try.underlying31 hi hz0 hzs1 .i64 .i64 (p + 1) (by rw [hzs2]; omega) (by unfold maxLen; omega) (Nat.le_refl _)
          rw [← HCC.out] at hrun1
          have hb1 : Below u0.heap.size u0 v1 := (Below.refl _ _).grown rg1 (Nat.le_refl _) (fun k hk => by cases hk)
          have hC1 := made_ces ro1
          have hl1 : wr.heap.size ≤ u0.heap.size := hS0.size
          have hS1 : Below wr.heap.size wr v1 := bsq hS0 hb1
          refine o_value (w' := v1) (.slice (some ⟨u0.heap.size, 0, none⟩) (p + 1) (p + 1)) rfl rfl (run_make_op _ _ _ rfl (by simp [go_sem, Act.put, hsz, s0, s7, s8, s9, s10, s13, eg]) (by simp [go_sem, Act.put, hsz, s0, s7, s8, s9, s10, s13, eg]) hrun1) ⟨hS1, ?_⟩
          refine h_two 5 13 (by kernel_rfl) ?_ ?_
          · refine o_call 50 #[.int .i64 (A : Int), .pointer (some ⟨w1.heap.size, 0, none⟩)] rfl rfl (by simp [execOp, go_sem, Act.put, hsz, s0, s7, s8, s9, s10, s13, eg]) ((HMA.out _ hS1).mono ?_)
            rintro e v2 ⟨rfl, hb2⟩
            have hS2 : Below wr.heap.size wr v2 := bsq hS1 hb2
            refine ⟨_, rfl, hS2, ?_⟩
            have hC2 := Ces.below hC1 hb2
            refine h_two 8 13 (by kernel_rfl) ?_ ?_
            · refine o_call 50 #[.int .i64 (G : Int), .pointer (some ⟨w1.heap.size, 0, none⟩)] rfl rfl (by simp [execOp, go_sem, Act.put, hsz, s0, s7, s8, s9, s10, s13, eg]) ((HMG.out _ hS2).mono ?_)
              rintro e v3 ⟨rfl, hb3⟩
              have hS3 : Below wr.heap.size wr v3 := bsq hS2 hb3
              refine ⟨_, rfl, hS3, ?_⟩
              have hC3 := Ces.below hC2 hb3
              refine h_take (i := 12) (rgV (.slice (some ⟨u0.heap.size, 0, none⟩) (p + 1) (p + 1)) a1 a2 g1 g2 SN) rfl (by kernel_rfl) (by kernel_rfl) (by kernel_rfl) (fun _ _ _ h => h) rfl hS3 (fun W hW => by simp [execOp, go_sem, Act.put, hsz, s0, s7, s8, s9, s10, s13, eg]) ?_
              obtain ⟨v4, hv4, hY4, hb4⟩ := named v3 (rgO (.slice none 0 0) 0 0 0 0 0)
              have hl4 : wr.heap.size ≤ v3.heap.size := hS3.size
              have hS4 : Below wr.heap.size wr v4 := bsq hS3 hb4
              refine h_value (i := 13) (w' := v4) (.pointer (some ⟨v3.heap.size, 0, none⟩)) rfl (by kernel_rfl) rfl (by rw [← hv4]; simp [execOp, go_sem, Act.put, hsz, s0, s7, s8, s9, s10, s13, eg]) hS4 ?_
              have hC4 := Ces.below hC3 hb4
              obtain ⟨uf, huf, hYf, hBf, _, _⟩ := put6 v4 (v3.heap.size) (.slice (some ⟨u0.heap.size, 0, none⟩) (p + 1) (p + 1)) (.int .i64 a1) (.int .i64 a2) (.int .i64 g1) (.int .i64 g2) (.int .i64 SN) hY4
              obtain ⟨⟨zz, q0, q1, q2, q3, q4, q5⟩, f0, f1, f2, f3, f4, f5⟩ := box6 hY4
              have hSf : Below wr.heap.size wr uf := hBf _ _ hl4 hS4
              refine h_skip (i := 14) (w' := uf) rfl (by kernel_rfl) rfl (by rw [← huf]; simp [execOp, go_sem, Act.put, hsz, s0, s7, s8, s9, s10, s13, eg, zz, q0, q1, q2, q3, q4, q5, f0, f1, f2, f3, f4, f5]) hSf ?_
              refine wpAnyH_done (by kernel_rfl) ?_ _
              have HF : Hid (uf.heap[v3.heap.size]? = some (rgO (.slice (some ⟨u0.heap.size, 0, none⟩) (p + 1) (p + 1)) a1 a2 g1 g2 SN) ∧ Ces uf (u0.heap.size) (.slice (some ⟨u0.heap.size, 0, none⟩) (p + 1) (p + 1)) (List.replicate (p + 1) cz) ∧ Lp w w1.heap.size (.slice av A ac) p s uf ∧ wr.heap.size ≤ u0.heap.size ∧ wr.heap.size ≤ v3.heap.size) := ⟨hYf, by rw [← huf]; exact own6 hC4 hY4 _ _ _ _ _ _, HL.out.below hSf, hl1, hl4⟩
              clear huf hYf hBf hSf q0 q1 q2 q3 q4 q5 f0 f1 f2 f3 f4 f5 hb4 hv4 hb3 hb2 hb1 rg1 ro1 hrun1
              subst ha0
              clear hsz s0 s7 s8 s9 s10 s13
              go_simp
              go_wp2_with fail
              go_meet
              case rel => exact ⟨_, _, rfl, HF.out⟩
            · obtain ⟨v5, hv5, hY5, hb5⟩ := named v2 (rgO (.slice none 0 0) 0 0 0 0 0)
              have hl5 : wr.heap.size ≤ v2.heap.size := hS2.size
              have hS5 : Below wr.heap.size wr v5 := bsq hS2 hb5
              refine o_value (w' := v5) (.pointer (some ⟨v2.heap.size, 0, none⟩)) rfl rfl (by rw [← hv5]; simp [execOp, go_sem, Act.put, hsz, s0, s7, s8, s9, s10, s13, eg]) ⟨hS5, ?_⟩
              have hC5 := Ces.below hC2 hb5
              refine h_call (i := 8) 50 #[.int .i64 (G : Int), .pointer (some ⟨w1.heap.size, 0, none⟩)] rfl (by kernel_rfl) rfl (by simp [execOp, go_sem, Act.put, hsz, s0, s7, s8, s9, s10, s13, eg]) ((HMG.out _ hS5).mono ?_)
              rintro e v6 ⟨rfl, hb6⟩
              have hS6 : Below wr.heap.size wr v6 := bsq hS5 hb6
              refine ⟨_, rfl, hS6, ?_⟩
              have hC6 := Ces.below hC5 hb6
              have hY6 := keep hY5 hb6
              refine h_take (i := 12) (rgV (.slice (some ⟨u0.heap.size, 0, none⟩) (p + 1) (p + 1)) a1 a2 g1 g2 SN) rfl (by kernel_rfl) (by kernel_rfl) (by kernel_rfl) (fun _ _ _ h => h) rfl hS6 (fun W hW => by simp [execOp, go_sem, Act.put, hsz, s0, s7, s8, s9, s10, s13, eg]) ?_
              obtain ⟨uf, huf, hYf, hBf, _, _⟩ := put6 v6 (v2.heap.size) (.slice (some ⟨u0.heap.size, 0, none⟩) (p + 1) (p + 1)) (.int .i64 a1) (.int .i64 a2) (.int .i64 g1) (.int .i64 g2) (.int .i64 SN) hY6
              obtain ⟨⟨zz, q0, q1, q2, q3, q4, q5⟩, f0, f1, f2, f3, f4, f5⟩ := box6 hY6
              have hSf : Below wr.heap.size wr uf := hBf _ _ hl5 hS6
              refine h_skip (i := 14) (w' := uf) rfl (by kernel_rfl) rfl (by rw [← huf]; simp [execOp, go_sem, Act.put, hsz, s0, s7, s8, s9, s10, s13, eg, zz, q0, q1, q2, q3, q4, q5, f0, f1, f2, f3, f4, f5]) hSf ?_
              refine wpAnyH_done (by kernel_rfl) ?_ _
              have HF : Hid (uf.heap[v2.heap.size]? = some (rgO (.slice (some ⟨u0.heap.size, 0, none⟩) (p + 1) (p + 1)) a1 a2 g1 g2 SN) ∧ Ces uf (u0.heap.size) (.slice (some ⟨u0.heap.size, 0, none⟩) (p + 1) (p + 1)) (List.replicate (p + 1) cz) ∧ Lp w w1.heap.size (.slice av A ac) p s uf ∧ wr.heap.size ≤ u0.heap.size ∧ wr.heap.size ≤ v2.heap.size) := ⟨hYf, by rw [← huf]; exact own6 hC6 hY6 _ _ _ _ _ _, HL.out.below hSf, hl1, hl5⟩
              clear huf hYf hBf hSf q0 q1 q2 q3 q4 q5 f0 f1 f2 f3 f4 f5 hb6 hb5 hv5 hb2 hb1 rg1 ro1 hrun1
              subst ha0
              clear hsz s0 s7 s8 s9 s10 s13
              go_simp
              go_wp2_with fail
              go_meet
              case rel => exact ⟨_, _, rfl, HF.out⟩
          · obtain ⟨v7, hv7, hY7, hb7⟩ := named v1 (rgO (.slice none 0 0) 0 0 0 0 0)
            have hl7 : wr.heap.size ≤ v1.heap.size := hS1.size
            have hS7 : Below wr.heap.size wr v7 := bsq hS1 hb7
            refine o_value (w' := v7) (.pointer (some ⟨v1.heap.size, 0, none⟩)) rfl rfl (by rw [← hv7]; simp [execOp, go_sem, Act.put, hsz, s0, s7, s8, s9, s10, s13, eg]) ⟨hS7, ?_⟩
            have hC7 := Ces.below hC1 hb7
            refine h_call (i := 5) 50 #[.int .i64 (A : Int), .pointer (some ⟨w1.heap.size, 0, none⟩)] rfl (by kernel_rfl) rfl (by simp [execOp, go_sem, Act.put, hsz, s0, s7, s8, s9, s10, s13, eg]) ((HMA.out _ hS7).mono ?_)
            rintro e v8 ⟨rfl, hb8⟩
            have hS8 : Below wr.heap.size wr v8 := bsq hS7 hb8
            refine ⟨_, rfl, hS8, ?_⟩
            have hC8 := Ces.below hC7 hb8
            have hY8 := keep hY7 hb8
            refine h_call (i := 8) 50 #[.int .i64 (G : Int), .pointer (some ⟨w1.heap.size, 0, none⟩)] rfl (by kernel_rfl) rfl (by simp [execOp, go_sem, Act.put, hsz, s0, s7, s8, s9, s10, s13, eg]) ((HMG.out _ hS8).mono ?_)
            rintro e v9 ⟨rfl, hb9⟩
            have hS9 : Below wr.heap.size wr v9 := bsq hS8 hb9
            refine ⟨_, rfl, hS9, ?_⟩
            have hC9 := Ces.below hC8 hb9
            have hY9 := keep hY8 hb9
            refine h_take (i := 12) (rgV (.slice (some ⟨u0.heap.size, 0, none⟩) (p + 1) (p + 1)) a1 a2 g1 g2 SN) rfl (by kernel_rfl) (by kernel_rfl) (by kernel_rfl) (fun _ _ _ h => h) rfl hS9 (fun W hW => by simp [execOp, go_sem, Act.put, hsz, s0, s7, s8, s9, s10, s13, eg]) ?_
            obtain ⟨uf, huf, hYf, hBf, _, _⟩ := put6 v9 (v1.heap.size) (.slice (some ⟨u0.heap.size, 0, none⟩) (p + 1) (p + 1)) (.int .i64 a1) (.int .i64 a2) (.int .i64 g1) (.int .i64 g2) (.int .i64 SN) hY9
            obtain ⟨⟨zz, q0, q1, q2, q3, q4, q5⟩, f0, f1, f2, f3, f4, f5⟩ := box6 hY9
            have hSf : Below wr.heap.size wr uf := hBf _ _ hl7 hS9
            refine h_skip (i := 14) (w' := uf) rfl (by kernel_rfl) rfl (by rw [← huf]; simp [execOp, go_sem, Act.put, hsz, s0, s7, s8, s9, s10, s13, eg, zz, q0, q1, q2, q3, q4, q5, f0, f1, f2, f3, f4, f5]) hSf ?_
            refine wpAnyH_done (by kernel_rfl) ?_ _
            have HF : Hid (uf.heap[v1.heap.size]? = some (rgO (.slice (some ⟨u0.heap.size, 0, none⟩) (p + 1) (p + 1)) a1 a2 g1 g2 SN) ∧ Ces uf (u0.heap.size) (.slice (some ⟨u0.heap.size, 0, none⟩) (p + 1) (p + 1)) (List.replicate (p + 1) cz) ∧ Lp w w1.heap.size (.slice av A ac) p s uf ∧ wr.heap.size ≤ u0.heap.size ∧ wr.heap.size ≤ v1.heap.size) := ⟨hYf, by rw [← huf]; exact own6 hC9 hY9 _ _ _ _ _ _, HL.out.below hSf, hl1, hl7⟩
            clear huf hYf hBf hSf q0 q1 q2 q3 q4 q5 f0 f1 f2 f3 f4 f5 hb9 hb8 hb7 hv7 hb1 rg1 ro1 hrun1
            subst ha0
            clear hsz s0 s7 s8 s9 s10 s13
            go_simp
            go_wp2_with fail
            go_meet
            case rel => exact ⟨_, _, rfl, HF.out⟩
        · refine o_call 50 #[.int .i64 (A : Int), .pointer (some ⟨w1.heap.size, 0, none⟩)] rfl rfl (by simp [execOp, go_sem, Act.put, hsz, s0, s7, s8, s9, s10, s13, eg]) ((HMA.out _ hS0).mono ?_)
          rintro e v10 ⟨rfl, hb10⟩
          have hS10 : Below wr.heap.size wr v10 := bsq hS0 hb10
          refine ⟨_, rfl, hS10, ?_⟩
          refine h_three 1 8 13 (by kernel_rfl) ?_ ?_ ?_
          · obtain ⟨v11, hrun11, ro11, rg11⟩ := run_make_full (P := Try.prog) (w := v10) v10.heap.size 31 91 i0 (.agg #[.int .u64 0, .int .i64 0, .bool false]) 3 Try.underlying31 hi hz0 hzs1 .i64 .i64 (p + 1) (by rw [hzs2]; omega) (by unfold maxLen; omega) (Nat.le_refl _)
            rw [← HCC.out] at hrun11
            have hb11 : Below v10.heap.size v10 v11 := (Below.refl _ _).grown rg11 (Nat.le_refl _) (fun k hk => by cases hk)
            have hC11 := made_ces ro11
            have hl11 : wr.heap.size ≤ v10.heap.size := hS10.size
            have hS11 : Below wr.heap.size wr v11 := bsq hS10 hb11
            refine o_value (w' := v11) (.slice (some ⟨v10.heap.size, 0, none⟩) (p + 1) (p + 1)) rfl rfl (run_make_op _ _ _ rfl (by simp [go_sem, Act.put, hsz, s0, s7, s8, s9, s10, s13, eg]) (by simp [go_sem, Act.put, hsz, s0, s7, s8, s9, s10, s13, eg]) hrun11) ⟨hS11, ?_⟩
            refine h_two 8 13 (by kernel_rfl) ?_ ?_
            · refine o_call 50 #[.int .i64 (G : Int), .pointer (some ⟨w1.heap.size, 0, none⟩)] rfl rfl (by simp [execOp, go_sem, Act.put, hsz, s0, s7, s8, s9, s10, s13, eg]) ((HMG.out _ hS11).mono ?_)
              rintro e v12 ⟨rfl, hb12⟩
              have hS12 : Below wr.heap.size wr v12 := bsq hS11 hb12
              refine ⟨_, rfl, hS12, ?_⟩
              have hC12 := Ces.below hC11 hb12
              refine h_take (i := 12) (rgV (.slice (some ⟨v10.heap.size, 0, none⟩) (p + 1) (p + 1)) a1 a2 g1 g2 SN) rfl (by kernel_rfl) (by kernel_rfl) (by kernel_rfl) (fun _ _ _ h => h) rfl hS12 (fun W hW => by simp [execOp, go_sem, Act.put, hsz, s0, s7, s8, s9, s10, s13, eg]) ?_
              obtain ⟨v13, hv13, hY13, hb13⟩ := named v12 (rgO (.slice none 0 0) 0 0 0 0 0)
              have hl13 : wr.heap.size ≤ v12.heap.size := hS12.size
              have hS13 : Below wr.heap.size wr v13 := bsq hS12 hb13
              refine h_value (i := 13) (w' := v13) (.pointer (some ⟨v12.heap.size, 0, none⟩)) rfl (by kernel_rfl) rfl (by rw [← hv13]; simp [execOp, go_sem, Act.put, hsz, s0, s7, s8, s9, s10, s13, eg]) hS13 ?_
              have hC13 := Ces.below hC12 hb13
              obtain ⟨uf, huf, hYf, hBf, _, _⟩ := put6 v13 (v12.heap.size) (.slice (some ⟨v10.heap.size, 0, none⟩) (p + 1) (p + 1)) (.int .i64 a1) (.int .i64 a2) (.int .i64 g1) (.int .i64 g2) (.int .i64 SN) hY13
              obtain ⟨⟨zz, q0, q1, q2, q3, q4, q5⟩, f0, f1, f2, f3, f4, f5⟩ := box6 hY13
              have hSf : Below wr.heap.size wr uf := hBf _ _ hl13 hS13
              refine h_skip (i := 14) (w' := uf) rfl (by kernel_rfl) rfl (by rw [← huf]; simp [execOp, go_sem, Act.put, hsz, s0, s7, s8, s9, s10, s13, eg, zz, q0, q1, q2, q3, q4, q5, f0, f1, f2, f3, f4, f5]) hSf ?_
              refine wpAnyH_done (by kernel_rfl) ?_ _
              have HF : Hid (uf.heap[v12.heap.size]? = some (rgO (.slice (some ⟨v10.heap.size, 0, none⟩) (p + 1) (p + 1)) a1 a2 g1 g2 SN) ∧ Ces uf (v10.heap.size) (.slice (some ⟨v10.heap.size, 0, none⟩) (p + 1) (p + 1)) (List.replicate (p + 1) cz) ∧ Lp w w1.heap.size (.slice av A ac) p s uf ∧ wr.heap.size ≤ v10.heap.size ∧ wr.heap.size ≤ v12.heap.size) := ⟨hYf, by rw [← huf]; exact own6 hC13 hY13 _ _ _ _ _ _, HL.out.below hSf, hl11, hl13⟩
              clear huf hYf hBf hSf q0 q1 q2 q3 q4 q5 f0 f1 f2 f3 f4 f5 hb13 hv13 hb12 hb11 rg11 ro11 hrun11 hb10
              subst ha0
              clear hsz s0 s7 s8 s9 s10 s13
              go_simp
              go_wp2_with fail
              go_meet
              case rel => exact ⟨_, _, rfl, HF.out⟩
            · obtain ⟨v14, hv14, hY14, hb14⟩ := named v11 (rgO (.slice none 0 0) 0 0 0 0 0)
              have hl14 : wr.heap.size ≤ v11.heap.size := hS11.size
              have hS14 : Below wr.heap.size wr v14 := bsq hS11 hb14
              refine o_value (w' := v14) (.pointer (some ⟨v11.heap.size, 0, none⟩)) rfl rfl (by rw [← hv14]; simp [execOp, go_sem, Act.put, hsz, s0, s7, s8, s9, s10, s13, eg]) ⟨hS14, ?_⟩
              have hC14 := Ces.below hC11 hb14
              refine h_call (i := 8) 50 #[.int .i64 (G : Int), .pointer (some ⟨w1.heap.size, 0, none⟩)] rfl (by kernel_rfl) rfl (by simp [execOp, go_sem, Act.put, hsz, s0, s7, s8, s9, s10, s13, eg]) ((HMG.out _ hS14).mono ?_)
              rintro e v15 ⟨rfl, hb15⟩
              have hS15 : Below wr.heap.size wr v15 := bsq hS14 hb15
              refine ⟨_, rfl, hS15, ?_⟩
              have hC15 := Ces.below hC14 hb15
              have hY15 := keep hY14 hb15
              refine h_take (i := 12) (rgV (.slice (some ⟨v10.heap.size, 0, none⟩) (p + 1) (p + 1)) a1 a2 g1 g2 SN) rfl (by kernel_rfl) (by kernel_rfl) (by kernel_rfl) (fun _ _ _ h => h) rfl hS15 (fun W hW => by simp [execOp, go_sem, Act.put, hsz, s0, s7, s8, s9, s10, s13, eg]) ?_
              obtain ⟨uf, huf, hYf, hBf, _, _⟩ := put6 v15 (v11.heap.size) (.slice (some ⟨v10.heap.size, 0, none⟩) (p + 1) (p + 1)) (.int .i64 a1) (.int .i64 a2) (.int .i64 g1) (.int .i64 g2) (.int .i64 SN) hY15
              obtain ⟨⟨zz, q0, q1, q2, q3, q4, q5⟩, f0, f1, f2, f3, f4, f5⟩ := box6 hY15
              have hSf : Below wr.heap.size wr uf := hBf _ _ hl14 hS15
              refine h_skip (i := 14) (w' := uf) rfl (by kernel_rfl) rfl (by rw [← huf]; simp [execOp, go_sem, Act.put, hsz, s0, s7, s8, s9, s10, s13, eg, zz, q0, q1, q2, q3, q4, q5, f0, f1, f2, f3, f4, f5]) hSf ?_
              refine wpAnyH_done (by kernel_rfl) ?_ _
              have HF : Hid (uf.heap[v11.heap.size]? = some (rgO (.slice (some ⟨v10.heap.size, 0, none⟩) (p + 1) (p + 1)) a1 a2 g1 g2 SN) ∧ Ces uf (v10.heap.size) (.slice (some ⟨v10.heap.size, 0, none⟩) (p + 1) (p + 1)) (List.replicate (p + 1) cz) ∧ Lp w w1.heap.size (.slice av A ac) p s uf ∧ wr.heap.size ≤ v10.heap.size ∧ wr.heap.size ≤ v11.heap.size) := ⟨hYf, by rw [← huf]; exact own6 hC15 hY15 _ _ _ _ _ _, HL.out.below hSf, hl11, hl14⟩
              clear huf hYf hBf hSf q0 q1 q2 q3 q4 q5 f0 f1 f2 f3 f4 f5 hb15 hb14 hv14 hb11 rg11 ro11 hrun11 hb10
              subst ha0
              clear hsz s0 s7 s8 s9 s10 s13
              go_simp
              go_wp2_with fail
              go_meet
              case rel => exact ⟨_, _, rfl, HF.out⟩
          · refine o_call 50 #[.int .i64 (G : Int), .pointer (some ⟨w1.heap.size, 0, none⟩)] rfl rfl (by simp [execOp, go_sem, Act.put, hsz, s0, s7, s8, s9, s10, s13, eg]) ((HMG.out _ hS10).mono ?_)
            rintro e v16 ⟨rfl, hb16⟩
            have hS16 : Below wr.heap.size wr v16 := bsq hS10 hb16
            refine ⟨_, rfl, hS16, ?_⟩
            refine h_two 1 13 (by kernel_rfl) ?_ ?_
            · obtain ⟨v17, hrun17, ro17, rg17⟩ := run_make_full (P := Try.prog) (w := v16) v16.heap.size 31 91 i0 (.agg #[.int .u64 0, .int .i64 0, .bool false]) 3 Try.underlying31 hi hz0 hzs1 .i64 .i64 (p + 1) (by rw [hzs2]; omega) (by unfold maxLen; omega) (Nat.le_refl _)
              rw [← HCC.out] at hrun17
              have hb17 : Below v16.heap.size v16 v17 := (Below.refl _ _).grown rg17 (Nat.le_refl _) (fun k hk => by cases hk)
              have hC17 := made_ces ro17
              have hl17 : wr.heap.size ≤ v16.heap.size := hS16.size
              have hS17 : Below wr.heap.size wr v17 := bsq hS16 hb17
              refine o_value (w' := v17) (.slice (some ⟨v16.heap.size, 0, none⟩) (p + 1) (p + 1)) rfl rfl (run_make_op _ _ _ rfl (by simp [go_sem, Act.put, hsz, s0, s7, s8, s9, s10, s13, eg]) (by simp [go_sem, Act.put, hsz, s0, s7, s8, s9, s10, s13, eg]) hrun17) ⟨hS17, ?_⟩
              refine h_take (i := 12) (rgV (.slice (some ⟨v16.heap.size, 0, none⟩) (p + 1) (p + 1)) a1 a2 g1 g2 SN) rfl (by kernel_rfl) (by kernel_rfl) (by kernel_rfl) (fun _ _ _ h => h) rfl hS17 (fun W hW => by simp [execOp, go_sem, Act.put, hsz, s0, s7, s8, s9, s10, s13, eg]) ?_
              obtain ⟨v18, hv18, hY18, hb18⟩ := named v17 (rgO (.slice none 0 0) 0 0 0 0 0)
              have hl18 : wr.heap.size ≤ v17.heap.size := hS17.size
              have hS18 : Below wr.heap.size wr v18 := bsq hS17 hb18
              refine h_value (i := 13) (w' := v18) (.pointer (some ⟨v17.heap.size, 0, none⟩)) rfl (by kernel_rfl) rfl (by rw [← hv18]; simp [execOp, go_sem, Act.put, hsz, s0, s7, s8, s9, s10, s13, eg]) hS18 ?_
              have hC18 := Ces.below hC17 hb18
              obtain ⟨uf, huf, hYf, hBf, _, _⟩ := put6 v18 (v17.heap.size) (.slice (some ⟨v16.heap.size, 0, none⟩) (p + 1) (p + 1)) (.int .i64 a1) (.int .i64 a2) (.int .i64 g1) (.int .i64 g2) (.int .i64 SN) hY18
              obtain ⟨⟨zz, q0, q1, q2, q3, q4, q5⟩, f0, f1, f2, f3, f4, f5⟩ := box6 hY18
              have hSf : Below wr.heap.size wr uf := hBf _ _ hl18 hS18
              refine h_skip (i := 14) (w' := uf) rfl (by kernel_rfl) rfl (by rw [← huf]; simp [execOp, go_sem, Act.put, hsz, s0, s7, s8, s9, s10, s13, eg, zz, q0, q1, q2, q3, q4, q5, f0, f1, f2, f3, f4, f5]) hSf ?_
              refine wpAnyH_done (by kernel_rfl) ?_ _
              have HF : Hid (uf.heap[v17.heap.size]? = some (rgO (.slice (some ⟨v16.heap.size, 0, none⟩) (p + 1) (p + 1)) a1 a2 g1 g2 SN) ∧ Ces uf (v16.heap.size) (.slice (some ⟨v16.heap.size, 0, none⟩) (p + 1) (p + 1)) (List.replicate (p + 1) cz) ∧ Lp w w1.heap.size (.slice av A ac) p s uf ∧ wr.heap.size ≤ v16.heap.size ∧ wr.heap.size ≤ v17.heap.size) := ⟨hYf, by rw [← huf]; exact own6 hC18 hY18 _ _ _ _ _ _, HL.out.below hSf, hl17, hl18⟩
              clear huf hYf hBf hSf q0 q1 q2 q3 q4 q5 f0 f1 f2 f3 f4 f5 hb18 hv18 hb17 rg17 ro17 hrun17 hb16 hb10
              subst ha0
              clear hsz s0 s7 s8 s9 s10 s13
              go_simp
              go_wp2_with fail
              go_meet
              case rel => exact ⟨_, _, rfl, HF.out⟩
            · obtain ⟨v19, hv19, hY19, hb19⟩ := named v16 (rgO (.slice none 0 0) 0 0 0 0 0)
              have hl19 : wr.heap.size ≤ v16.heap.size := hS16.size
              have hS19 : Below wr.heap.size wr v19 := bsq hS16 hb19
              refine o_value (w' := v19) (.pointer (some ⟨v16.heap.size, 0, none⟩)) rfl rfl (by rw [← hv19]; simp [execOp, go_sem, Act.put, hsz, s0, s7, s8, s9, s10, s13, eg]) ⟨hS19, ?_⟩
              obtain ⟨v20, hrun20, ro20, rg20⟩ := run_make_full (P := Try.prog) (w := v19) v19.heap.size 31 91 i0 (.agg #[.int .u64 0, .int .i64 0, .bool false]) 3 Try.underlying31 hi hz0 hzs1 .i64 .i64 (p + 1) (by rw [hzs2]; omega) (by unfold maxLen; omega) (Nat.le_refl _)
              rw [← HCC.out] at hrun20
              have hb20 : Below v19.heap.size v19 v20 := (Below.refl _ _).grown rg20 (Nat.le_refl _) (fun k hk => by cases hk)
              have hC20 := made_ces ro20
              have hl20 : wr.heap.size ≤ v19.heap.size := hS19.size
              have hS20 : Below wr.heap.size wr v20 := bsq hS19 hb20
              refine h_value (i := 1) (w' := v20) (.slice (some ⟨v19.heap.size, 0, none⟩) (p + 1) (p + 1)) rfl (by kernel_rfl) rfl (run_make_op _ _ _ rfl (by simp [go_sem, Act.put, hsz, s0, s7, s8, s9, s10, s13, eg]) (by simp [go_sem, Act.put, hsz, s0, s7, s8, s9, s10, s13, eg]) hrun20) hS20 ?_
              have hY20 := keep hY19 hb20
              refine h_take (i := 12) (rgV (.slice (some ⟨v19.heap.size, 0, none⟩) (p + 1) (p + 1)) a1 a2 g1 g2 SN) rfl (by kernel_rfl) (by kernel_rfl) (by kernel_rfl) (fun _ _ _ h => h) rfl hS20 (fun W hW => by simp [execOp, go_sem, Act.put, hsz, s0, s7, s8, s9, s10, s13, eg]) ?_
              obtain ⟨uf, huf, hYf, hBf, _, _⟩ := put6 v20 (v16.heap.size) (.slice (some ⟨v19.heap.size, 0, none⟩) (p + 1) (p + 1)) (.int .i64 a1) (.int .i64 a2) (.int .i64 g1) (.int .i64 g2) (.int .i64 SN) hY20
              obtain ⟨⟨zz, q0, q1, q2, q3, q4, q5⟩, f0, f1, f2, f3, f4, f5⟩ := box6 hY20
              have hSf : Below wr.heap.size wr uf := hBf _ _ hl19 hS20
              refine h_skip (i := 14) (w' := uf) rfl (by kernel_rfl) rfl (by rw [← huf]; simp [execOp, go_sem, Act.put, hsz, s0, s7, s8, s9, s10, s13, eg, zz, q0, q1, q2, q3, q4, q5, f0, f1, f2, f3, f4, f5]) hSf ?_
              refine wpAnyH_done (by kernel_rfl) ?_ _
              have HF : Hid (uf.heap[v16.heap.size]? = some (rgO (.slice (some ⟨v19.heap.size, 0, none⟩) (p + 1) (p + 1)) a1 a2 g1 g2 SN) ∧ Ces uf (v19.heap.size) (.slice (some ⟨v19.heap.size, 0, none⟩) (p + 1) (p + 1)) (List.replicate (p + 1) cz) ∧ Lp w w1.heap.size (.slice av A ac) p s uf ∧ wr.heap.size ≤ v19.heap.size ∧ wr.heap.size ≤ v16.heap.size) := ⟨hYf, by rw [← huf]; exact own6 hC20 hY20 _ _ _ _ _ _, HL.out.below hSf, hl20, hl19⟩
              clear huf hYf hBf hSf q0 q1 q2 q3 q4 q5 f0 f1 f2 f3 f4 f5 hb20 rg20 ro20 hrun20 hb19 hv19 hb16 hb10
              subst ha0
              clear hsz s0 s7 s8 s9 s10 s13
              go_simp
              go_wp2_with fail
              go_meet
              case rel => exact ⟨_, _, rfl, HF.out⟩
          · obtain ⟨v21, hv21, hY21, hb21⟩ := named v10 (rgO (.slice none 0 0) 0 0 0 0 0)
            have hl21 : wr.heap.size ≤ v10.heap.size := hS10.size
            have hS21 : Below wr.heap.size wr v21 := bsq hS10 hb21
            refine o_value (w' := v21) (.pointer (some ⟨v10.heap.size, 0, none⟩)) rfl rfl (by rw [← hv21]; simp [execOp, go_sem, Act.put, hsz, s0, s7, s8, s9, s10, s13, eg]) ⟨hS21, ?_⟩
            refine h_two 1 8 (by kernel_rfl) ?_ ?_
            · obtain ⟨v22, hrun22, ro22, rg22⟩ := run_make_full (P := Try.prog) (w := v21) v21.heap.size 31 91 i0 (.agg #[.int .u64 0, .int .i64 0, .bool false]) 3 Try.underlying31 hi hz0 hzs1 .i64 .i64 (p + 1) (by rw [hzs2]; omega) (by unfold maxLen; omega) (Nat.le_refl _)
              rw [← HCC.out] at hrun22
              have hb22 : Below v21.heap.size v21 v22 := (Below.refl _ _).grown rg22 (Nat.le_refl _) (fun k hk => by cases hk)
              have hC22 := made_ces ro22
              have hl22 : wr.heap.size ≤ v21.heap.size := hS21.size
              have hS22 : Below wr.heap.size wr v22 := bsq hS21 hb22
              refine o_value (w' := v22) (.slice (some ⟨v21.heap.size, 0, none⟩) (p + 1) (p + 1)) rfl rfl (run_make_op _ _ _ rfl (by simp [go_sem, Act.put, hsz, s0, s7, s8, s9, s10, s13, eg]) (by simp [go_sem, Act.put, hsz, s0, s7, s8, s9, s10, s13, eg]) hrun22) ⟨hS22, ?_⟩
              have hY22 := keep hY21 hb22
              refine h_call (i := 8) 50 #[.int .i64 (G : Int), .pointer (some ⟨w1.heap.size, 0, none⟩)] rfl (by kernel_rfl) rfl (by simp [execOp, go_sem, Act.put, hsz, s0, s7, s8, s9, s10, s13, eg]) ((HMG.out _ hS22).mono ?_)
              rintro e v23 ⟨rfl, hb23⟩
              have hS23 : Below wr.heap.size wr v23 := bsq hS22 hb23
              refine ⟨_, rfl, hS23, ?_⟩
              have hC23 := Ces.below hC22 hb23
              have hY23 := keep hY22 hb23
              refine h_take (i := 12) (rgV (.slice (some ⟨v21.heap.size, 0, none⟩) (p + 1) (p + 1)) a1 a2 g1 g2 SN) rfl (by kernel_rfl) (by kernel_rfl) (by kernel_rfl) (fun _ _ _ h => h) rfl hS23 (fun W hW => by simp [execOp, go_sem, Act.put, hsz, s0, s7, s8, s9, s10, s13, eg]) ?_
              obtain ⟨uf, huf, hYf, hBf, _, _⟩ := put6 v23 (v10.heap.size) (.slice (some ⟨v21.heap.size, 0, none⟩) (p + 1) (p + 1)) (.int .i64 a1) (.int .i64 a2) (.int .i64 g1) (.int .i64 g2) (.int .i64 SN) hY23
              obtain ⟨⟨zz, q0, q1, q2, q3, q4, q5⟩, f0, f1, f2, f3, f4, f5⟩ := box6 hY23
              have hSf : Below wr.heap.size wr uf := hBf _ _ hl21 hS23
              refine h_skip (i := 14) (w' := uf) rfl (by kernel_rfl) rfl (by rw [← huf]; simp [execOp, go_sem, Act.put, hsz, s0, s7, s8, s9, s10, s13, eg, zz, q0, q1, q2, q3, q4, q5, f0, f1, f2, f3, f4, f5]) hSf ?_
              refine wpAnyH_done (by kernel_rfl) ?_ _
              have HF : Hid (uf.heap[v10.heap.size]? = some (rgO (.slice (some ⟨v21.heap.size, 0, none⟩) (p + 1) (p + 1)) a1 a2 g1 g2 SN) ∧ Ces uf (v21.heap.size) (.slice (some ⟨v21.heap.size, 0, none⟩) (p + 1) (p + 1)) (List.replicate (p + 1) cz) ∧ Lp w w1.heap.size (.slice av A ac) p s uf ∧ wr.heap.size ≤ v21.heap.size ∧ wr.heap.size ≤ v10.heap.size) := ⟨hYf, by rw [← huf]; exact own6 hC23 hY23 _ _ _ _ _ _, HL.out.below hSf, hl22, hl21⟩
              clear huf hYf hBf hSf q0 q1 q2 q3 q4 q5 f0 f1 f2 f3 f4 f5 hb23 hb22 rg22 ro22 hrun22 hb21 hv21 hb10
              subst ha0
              clear hsz s0 s7 s8 s9 s10 s13
              go_simp
              go_wp2_with fail
              go_meet
              case rel => exact ⟨_, _, rfl, HF.out⟩
            · refine o_call 50 #[.int .i64 (G : Int), .pointer (some ⟨w1.heap.size, 0, none⟩)] rfl rfl (by simp [execOp, go_sem, Act.put, hsz, s0, s7, s8, s9, s10, s13, eg]) ((HMG.out _ hS21).mono ?_)
              rintro e v24 ⟨rfl, hb24⟩
              have hS24 : Below wr.heap.size wr v24 := bsq hS21 hb24
              refine ⟨_, rfl, hS24, ?_⟩
              have hY24 := keep hY21 hb24
              obtain ⟨v25, hrun25, ro25, rg25⟩ := run_make_full (P := Try.prog) (w := v24) v24.heap.size 31 91 i0 (.agg #[.int .u64 0, .int .i64 0, .bool false]) 3 Try.underlying31 hi hz0 hzs1 .i64 .i64 (p + 1) (by rw [hzs2]; omega) (by unfold maxLen; omega) (Nat.le_refl _)
              rw [← HCC.out] at hrun25
              have hb25 : Below v24.heap.size v24 v25 := (Below.refl _ _).grown rg25 (Nat.le_refl _) (fun k hk => by cases hk)
              have hC25 := made_ces ro25
              have hl25 : wr.heap.size ≤ v24.heap.size := hS24.size
              have hS25 : Below wr.heap.size wr v25 := bsq hS24 hb25
              refine h_value (i := 1) (w' := v25) (.slice (some ⟨v24.heap.size, 0, none⟩) (p + 1) (p + 1)) rfl (by kernel_rfl) rfl (run_make_op _ _ _ rfl (by simp [go_sem, Act.put, hsz, s0, s7, s8, s9, s10, s13, eg]) (by simp [go_sem, Act.put, hsz, s0, s7, s8, s9, s10, s13, eg]) hrun25) hS25 ?_
              have hY25 := keep hY24 hb25
              refine h_take (i := 12) (rgV (.slice (some ⟨v24.heap.size, 0, none⟩) (p + 1) (p + 1)) a1 a2 g1 g2 SN) rfl (by kernel_rfl) (by kernel_rfl) (by kernel_rfl) (fun _ _ _ h => h) rfl hS25 (fun W hW => by simp [execOp, go_sem, Act.put, hsz, s0, s7, s8, s9, s10, s13, eg]) ?_
              obtain ⟨uf, huf, hYf, hBf, _, _⟩ := put6 v25 (v10.heap.size) (.slice (some ⟨v24.heap.size, 0, none⟩) (p + 1) (p + 1)) (.int .i64 a1) (.int .i64 a2) (.int .i64 g1) (.int .i64 g2) (.int .i64 SN) hY25
              obtain ⟨⟨zz, q0, q1, q2, q3, q4, q5⟩, f0, f1, f2, f3, f4, f5⟩ := box6 hY25
              have hSf : Below wr.heap.size wr uf := hBf _ _ hl21 hS25
              refine h_skip (i := 14) (w' := uf) rfl (by kernel_rfl) rfl (by rw [← huf]; simp [execOp, go_sem, Act.put, hsz, s0, s7, s8, s9, s10, s13, eg, zz, q0, q1, q2, q3, q4, q5, f0, f1, f2, f3, f4, f5]) hSf ?_
              refine wpAnyH_done (by kernel_rfl) ?_ _
              have HF : Hid (uf.heap[v10.heap.size]? = some (rgO (.slice (some ⟨v24.heap.size, 0, none⟩) (p + 1) (p + 1)) a1 a2 g1 g2 SN) ∧ Ces uf (v24.heap.size) (.slice (some ⟨v24.heap.size, 0, none⟩) (p + 1) (p + 1)) (List.replicate (p + 1) cz) ∧ Lp w w1.heap.size (.slice av A ac) p s uf ∧ wr.heap.size ≤ v24.heap.size ∧ wr.heap.size ≤ v10.heap.size) := ⟨hYf, by rw [← huf]; exact own6 hC25 hY25 _ _ _ _ _ _, HL.out.below hSf, hl25, hl21⟩
              clear huf hYf hBf hSf q0 q1 q2 q3 q4 q5 f0 f1 f2 f3 f4 f5 hb25 rg25 ro25 hrun25 hb24 hb21 hv21 hb10
              subst ha0
              clear hsz s0 s7 s8 s9 s10 s13
              go_simp
              go_wp2_with fail
              go_meet
              case rel => exact ⟨_, _, rfl, HF.out⟩
        · obtain ⟨v26, hv26, hY26, hb26⟩ := named u0 (rgO (.slice none 0 0) 0 0 0 0 0)
          have hl26 : wr.heap.size ≤ u0.heap.size := hS0.size
          have hS26 : Below wr.heap.size wr v26 := bsq hS0 hb26
          refine o_value (w' := v26) (.pointer (some ⟨u0.heap.size, 0, none⟩)) rfl rfl (by rw [← hv26]; simp [execOp, go_sem, Act.put, hsz, s0, s7, s8, s9, s10, s13, eg]) ⟨hS26, ?_⟩
          refine h_two 1 5 (by kernel_rfl) ?_ ?_
          · obtain ⟨v27, hrun27, ro27, rg27⟩ := run_make_full (P := Try.prog) (w := v26) v26.heap.size 31 91 i0 (.agg #[.int .u64 0, .int .i64 0, .bool false]) 3 Try.underlying31 hi hz0 hzs1 .i64 .i64 (p + 1) (by rw [hzs2]; omega) (by unfold maxLen; omega) (Nat.le_refl _)
            rw [← HCC.out] at hrun27
            have hb27 : Below v26.heap.size v26 v27 := (Below.refl _ _).grown rg27 (Nat.le_refl _) (fun k hk => by cases hk)
            have hC27 := made_ces ro27
            have hl27 : wr.heap.size ≤ v26.heap.size := hS26.size
            have hS27 : Below wr.heap.size wr v27 := bsq hS26 hb27
            refine o_value (w' := v27) (.slice (some ⟨v26.heap.size, 0, none⟩) (p + 1) (p + 1)) rfl rfl (run_make_op _ _ _ rfl (by simp [go_sem, Act.put, hsz, s0, s7, s8, s9, s10, s13, eg]) (by simp [go_sem, Act.put, hsz, s0, s7, s8, s9, s10, s13, eg]) hrun27) ⟨hS27, ?_⟩
            have hY27 := keep hY26 hb27
            refine h_call (i := 5) 50 #[.int .i64 (A : Int), .pointer (some ⟨w1.heap.size, 0, none⟩)] rfl (by kernel_rfl) rfl (by simp [execOp, go_sem, Act.put, hsz, s0, s7, s8, s9, s10, s13, eg]) ((HMA.out _ hS27).mono ?_)
            rintro e v28 ⟨rfl, hb28⟩
            have hS28 : Below wr.heap.size wr v28 := bsq hS27 hb28
            refine ⟨_, rfl, hS28, ?_⟩
            have hC28 := Ces.below hC27 hb28
            have hY28 := keep hY27 hb28
            refine h_call (i := 8) 50 #[.int .i64 (G : Int), .pointer (some ⟨w1.heap.size, 0, none⟩)] rfl (by kernel_rfl) rfl (by simp [execOp, go_sem, Act.put, hsz, s0, s7, s8, s9, s10, s13, eg]) ((HMG.out _ hS28).mono ?_)
            rintro e v29 ⟨rfl, hb29⟩
            have hS29 : Below wr.heap.size wr v29 := bsq hS28 hb29
            refine ⟨_, rfl, hS29, ?_⟩
            have hC29 := Ces.below hC28 hb29
            have hY29 := keep hY28 hb29
            refine h_take (i := 12) (rgV (.slice (some ⟨v26.heap.size, 0, none⟩) (p + 1) (p + 1)) a1 a2 g1 g2 SN) rfl (by kernel_rfl) (by kernel_rfl) (by kernel_rfl) (fun _ _ _ h => h) rfl hS29 (fun W hW => by simp [execOp, go_sem, Act.put, hsz, s0, s7, s8, s9, s10, s13, eg]) ?_
            obtain ⟨uf, huf, hYf, hBf, _, _⟩ := put6 v29 (u0.heap.size) (.slice (some ⟨v26.heap.size, 0, none⟩) (p + 1) (p + 1)) (.int .i64 a1) (.int .i64 a2) (.int .i64 g1) (.int .i64 g2) (.int .i64 SN) hY29
            obtain ⟨⟨zz, q0, q1, q2, q3, q4, q5⟩, f0, f1, f2, f3, f4, f5⟩ := box6 hY29
            have hSf : Below wr.heap.size wr uf := hBf _ _ hl26 hS29
            refine h_skip (i := 14) (w' := uf) rfl (by kernel_rfl) rfl (by rw [← huf]; simp [execOp, go_sem, Act.put, hsz, s0, s7, s8, s9, s10, s13, eg, zz, q0, q1, q2, q3, q4, q5, f0, f1, f2, f3, f4, f5]) hSf ?_
            refine wpAnyH_done (by kernel_rfl) ?_ _
            have HF : Hid (uf.heap[u0.heap.size]? = some (rgO (.slice (some ⟨v26.heap.size, 0, none⟩) (p + 1) (p + 1)) a1 a2 g1 g2 SN) ∧ Ces uf (v26.heap.size) (.slice (some ⟨v26.heap.size, 0, none⟩) (p + 1) (p + 1)) (List.replicate (p + 1) cz) ∧ Lp w w1.heap.size (.slice av A ac) p s uf ∧ wr.heap.size ≤ v26.heap.size ∧ wr.heap.size ≤ u0.heap.size) := ⟨hYf, by rw [← huf]; exact own6 hC29 hY29 _ _ _ _ _ _, HL.out.below hSf, hl27, hl26⟩
            clear huf hYf hBf hSf q0 q1 q2 q3 q4 q5 f0 f1 f2 f3 f4 f5 hb29 hb28 hb27 rg27 ro27 hrun27 hb26 hv26
            subst ha0
            clear hsz s0 s7 s8 s9 s10 s13
            go_simp
            go_wp2_with fail
            go_meet
            case rel => exact ⟨_, _, rfl, HF.out⟩
          · refine o_call 50 #[.int .i64 (A : Int), .pointer (some ⟨w1.heap.size, 0, none⟩)] rfl rfl (by simp [execOp, go_sem, Act.put, hsz, s0, s7, s8, s9, s10, s13, eg]) ((HMA.out _ hS26).mono ?_)
            rintro e v30 ⟨rfl, hb30⟩
            have hS30 : Below wr.heap.size wr v30 := bsq hS26 hb30
            refine ⟨_, rfl, hS30, ?_⟩
            have hY30 := keep hY26 hb30
            refine h_two 1 8 (by kernel_rfl) ?_ ?_
            · obtain ⟨v31, hrun31, ro31, rg31⟩ := run_make_full (P := Try.prog) (w := v30) v30.heap.size 31 91 i0 (.agg #[.int .u64 0, .int .i64 0, .bool false]) 3 Try.underlying31 hi hz0 hzs1 .i64 .i64 (p + 1) (by rw [hzs2]; omega) (by unfold maxLen; omega) (Nat.le_refl _)
              rw [← HCC.out] at hrun31
              have hb31 : Below v30.heap.size v30 v31 := (Below.refl _ _).grown rg31 (Nat.le_refl _) (fun k hk => by cases hk)
              have hC31 := made_ces ro31
              have hl31 : wr.heap.size ≤ v30.heap.size := hS30.size
              have hS31 : Below wr.heap.size wr v31 := bsq hS30 hb31
              refine o_value (w' := v31) (.slice (some ⟨v30.heap.size, 0, none⟩) (p + 1) (p + 1)) rfl rfl (run_make_op _ _ _ rfl (by simp [go_sem, Act.put, hsz, s0, s7, s8, s9, s10, s13, eg]) (by simp [go_sem, Act.put, hsz, s0, s7, s8, s9, s10, s13, eg]) hrun31) ⟨hS31, ?_⟩
              have hY31 := keep hY30 hb31
              refine h_call (i := 8) 50 #[.int .i64 (G : Int), .pointer (some ⟨w1.heap.size, 0, none⟩)] rfl (by kernel_rfl) rfl (by simp [execOp, go_sem, Act.put, hsz, s0, s7, s8, s9, s10, s13, eg]) ((HMG.out _ hS31).mono ?_)
              rintro e v32 ⟨rfl, hb32⟩
              have hS32 : Below wr.heap.size wr v32 := bsq hS31 hb32
              refine ⟨_, rfl, hS32, ?_⟩
              have hC32 := Ces.below hC31 hb32
              have hY32 := keep hY31 hb32
              refine h_take (i := 12) (rgV (.slice (some ⟨v30.heap.size, 0, none⟩) (p + 1) (p + 1)) a1 a2 g1 g2 SN) rfl (by kernel_rfl) (by kernel_rfl) (by kernel_rfl) (fun _ _ _ h => h) rfl hS32 (fun W hW => by simp [execOp, go_sem, Act.put, hsz, s0, s7, s8, s9, s10, s13, eg]) ?_
              obtain ⟨uf, huf, hYf, hBf, _, _⟩ := put6 v32 (u0.heap.size) (.slice (some ⟨v30.heap.size, 0, none⟩) (p + 1) (p + 1)) (.int .i64 a1) (.int .i64 a2) (.int .i64 g1) (.int .i64 g2) (.int .i64 SN) hY32
              obtain ⟨⟨zz, q0, q1, q2, q3, q4, q5⟩, f0, f1, f2, f3, f4, f5⟩ := box6 hY32
              have hSf : Below wr.heap.size wr uf := hBf _ _ hl26 hS32
              refine h_skip (i := 14) (w' := uf) rfl (by kernel_rfl) rfl (by rw [← huf]; simp [execOp, go_sem, Act.put, hsz, s0, s7, s8, s9, s10, s13, eg, zz, q0, q1, q2, q3, q4, q5, f0, f1, f2, f3, f4, f5]) hSf ?_
              refine wpAnyH_done (by kernel_rfl) ?_ _
              have HF : Hid (uf.heap[u0.heap.size]? = some (rgO (.slice (some ⟨v30.heap.size, 0, none⟩) (p + 1) (p + 1)) a1 a2 g1 g2 SN) ∧ Ces uf (v30.heap.size) (.slice (some ⟨v30.heap.size, 0, none⟩) (p + 1) (p + 1)) (List.replicate (p + 1) cz) ∧ Lp w w1.heap.size (.slice av A ac) p s uf ∧ wr.heap.size ≤ v30.heap.size ∧ wr.heap.size ≤ u0.heap.size) := ⟨hYf, by rw [← huf]; exact own6 hC32 hY32 _ _ _ _ _ _, HL.out.below hSf, hl31, hl26⟩
              clear huf hYf hBf hSf q0 q1 q2 q3 q4 q5 f0 f1 f2 f3 f4 f5 hb32 hb31 rg31 ro31 hrun31 hb30 hb26 hv26
              subst ha0
              clear hsz s0 s7 s8 s9 s10 s13
              go_simp
              go_wp2_with fail
              go_meet
              case rel => exact ⟨_, _, rfl, HF.out⟩
            · refine o_call 50 #[.int .i64 (G : Int), .pointer (some ⟨w1.heap.size, 0, none⟩)] rfl rfl (by simp [execOp, go_sem, Act.put, hsz, s0, s7, s8, s9, s10, s13, eg]) ((HMG.out _ hS30).mono ?_)
              rintro e v33 ⟨rfl, hb33⟩
              have hS33 : Below wr.heap.size wr v33 := bsq hS30 hb33
              refine ⟨_, rfl, hS33, ?_⟩
              have hY33 := keep hY30 hb33
              obtain ⟨v34, hrun34, ro34, rg34⟩ := run_make_full (P := Try.prog) (w := v33) v33.heap.size 31 91 i0 (.agg #[.int .u64 0, .int .i64 0, .bool false]) 3 Try.underlying31 hi hz0 hzs1 .i64 .i64 (p + 1) (by rw [hzs2]; omega) (by unfold maxLen; omega) (Nat.le_refl _)
              rw [← HCC.out] at hrun34
              have hb34 : Below v33.heap.size v33 v34 := (Below.refl _ _).grown rg34 (Nat.le_refl _) (fun k hk => by cases hk)
              have hC34 := made_ces ro34
              have hl34 : wr.heap.size ≤ v33.heap.size := hS33.size
              have hS34 : Below wr.heap.size wr v34 := bsq hS33 hb34
              refine h_value (i := 1) (w' := v34) (.slice (some ⟨v33.heap.size, 0, none⟩) (p + 1) (p + 1)) rfl (by kernel_rfl) rfl (run_make_op _ _ _ rfl (by simp [go_sem, Act.put, hsz, s0, s7, s8, s9, s10, s13, eg]) (by simp [go_sem, Act.put, hsz, s0, s7, s8, s9, s10, s13, eg]) hrun34) hS34 ?_
              have hY34 := keep hY33 hb34
              refine h_take (i := 12) (rgV (.slice (some ⟨v33.heap.size, 0, none⟩) (p + 1) (p + 1)) a1 a2 g1 g2 SN) rfl (by kernel_rfl) (by kernel_rfl) (by kernel_rfl) (fun _ _ _ h => h) rfl hS34 (fun W hW => by simp [execOp, go_sem, Act.put, hsz, s0, s7, s8, s9, s10, s13, eg]) ?_
              obtain ⟨uf, huf, hYf, hBf, _, _⟩ := put6 v34 (u0.heap.size) (.slice (some ⟨v33.heap.size, 0, none⟩) (p + 1) (p + 1)) (.int .i64 a1) (.int .i64 a2) (.int .i64 g1) (.int .i64 g2) (.int .i64 SN) hY34
              obtain ⟨⟨zz, q0, q1, q2, q3, q4, q5⟩, f0, f1, f2, f3, f4, f5⟩ := box6 hY34
              have hSf : Below wr.heap.size wr uf := hBf _ _ hl26 hS34
              refine h_skip (i := 14) (w' := uf) rfl (by kernel_rfl) rfl (by rw [← huf]; simp [execOp, go_sem, Act.put, hsz, s0, s7, s8, s9, s10, s13, eg, zz, q0, q1, q2, q3, q4, q5, f0, f1, f2, f3, f4, f5]) hSf ?_
              refine wpAnyH_done (by kernel_rfl) ?_ _
              have HF : Hid (uf.heap[u0.heap.size]? = some (rgO (.slice (some ⟨v33.heap.size, 0, none⟩) (p + 1) (p + 1)) a1 a2 g1 g2 SN) ∧ Ces uf (v33.heap.size) (.slice (some ⟨v33.heap.size, 0, none⟩) (p + 1) (p + 1)) (List.replicate (p + 1) cz) ∧ Lp w w1.heap.size (.slice av A ac) p s uf ∧ wr.heap.size ≤ v33.heap.size ∧ wr.heap.size ≤ u0.heap.size) := ⟨hYf, by rw [← huf]; exact own6 hC34 hY34 _ _ _ _ _ _, HL.out.below hSf, hl34, hl26⟩
              clear huf hYf hBf hSf q0 q1 q2 q3 q4 q5 f0 f1 f2 f3 f4 f5 hb34 rg34 ro34 hrun34 hb33 hb30 hb26 hv26
              subst ha0
              clear hsz s0 s7 s8 s9 s10 s13
              go_simp
              go_wp2_with fail
              go_meet
              case rel => exact ⟨_, _, rfl, HF.out⟩
      case rest =>
      rename World => wx
      obtain ⟨Y, g, rfl, HY⟩ := hcut
      have HYP : Hid (Y ≠ g ∧ w1.heap.size ≠ g ∧ w.heap.size ≠ g ∧ w.heap.size ≠ Y ∧ w.heap.size ≤ g) := by
        obtain ⟨h1, h2, h3, h4, h5⟩ := HY.out
        have l1 := (Array.getElem?_eq_some_iff.1 HL.out.pb).1
        have l2 := (Array.getElem?_eq_some_iff.1 HL.out.rb).1
        exact ⟨fun q => box_ne h2 h1 (by decide) (by rw [q]; rfl), by omega, by omega, by omega, by omega⟩
      have hrep : List.replicate (p + 1) cz = csk p s.all 0 ++ [cz] := by
        show _ = List.replicate p cz ++ [cz]
        rw [List.replicate_succ']
      have HCS0 : Hid (Ces wx g (.slice (some ⟨g, 0, none⟩) (p + 1) (p + 1)) (csk p s.all 0 ++ [cz])) := by show Ces _ _ _ _; rw [← hrep]; exact HY.out.2.1
      have HST2 : Hid (∀ u D (i : Nat) (e : Ce), u.heap[Y]? = some (rgO (.slice (some ⟨g, 0, none⟩) (p + 1) (p + 1)) a1 a2 g1 g2 SN) → Ces u g (.slice (some ⟨g, 0, none⟩) (p + 1) (p + 1)) D → D.length = p + 1 → Lp w w1.heap.size (.slice av A ac) p s u → i < p + 1 → ∀ uf, ((u.setCell ⟨g, i * 3, none⟩ (.int .u64 e.1)).setCell ⟨g, i * 3 + 1, none⟩ (.int .i64 e.2.1)).setCell ⟨g, i * 3 + 2, none⟩ (.bool e.2.2) = uf → uf.heap[Y]? = some (rgO (.slice (some ⟨g, 0, none⟩) (p + 1) (p + 1)) a1 a2 g1 g2 SN) ∧ Ces uf g (.slice (some ⟨g, 0, none⟩) (p + 1) (p + 1)) (D.set i e) ∧ Lp w w1.heap.size (.slice av A ac) p s uf) := fun u D i e h1 h2 h3 h4 h5 uf huf => by
        obtain ⟨n1, n2, n3, n4, n5⟩ := HYP.out
        obtain ⟨cur, hcur⟩ := h2.blk
        have hne : (Value.slice av A ac).ownBlock ≠ some g := box_ne h4.wd hcur (by decide)
        refine ⟨?_, by rw [← huf]; exact Ces.set h2 h3 i e h5, ⟨by rw [← huf]; exact ownsRow_setCell_other (ownsRow_setCell_other (ownsRow_setCell_other h4.wd hne _) hne _) hne _, ?_, ?_, by rw [← huf]; exact ((h4.bl.setCell n5 _).setCell n5 _).setCell n5 _, h4.inv⟩⟩
        · rw [← huf, heap_setCell_other _ _ _ _ n1, heap_setCell_other _ _ _ _ n1, heap_setCell_other _ _ _ _ n1]; exact h1
        · rw [← huf, heap_setCell_other _ _ _ _ n3, heap_setCell_other _ _ _ _ n3, heap_setCell_other _ _ _ _ n3]; exact h4.rb
        · rw [← huf, heap_setCell_other _ _ _ _ n2, heap_setCell_other _ _ _ _ n2, heap_setCell_other _ _ _ _ n2]; exact h4.pb
      clear HMA HMG hrem hSNw hrep
      rename World => wo
      go_wp2
      go_loopw [77] (fun i wr => ∃ (k : Nat), k ≤ A ∧ i = .int .i64 (k : Int) ∧ Hid (wr.heap[Y]? = some (rgO (.slice (some ⟨g, 0, none⟩) (p + 1) (p + 1)) a1 a2 g1 g2 SN) ∧ Ces wr g (.slice (some ⟨g, 0, none⟩) (p + 1) (p + 1)) (csk p s.all k ++ [cz]) ∧ Lp w w1.heap.size (.slice av A ac) p s wr)) (fun i _ => A - (intOf i).toNat)
      case atStart => exact ⟨0, Nat.zero_le _, rfl, HY.out.1, HCS0.out, HY.out.2.2.1⟩
      case round =>
        obtain ⟨k2, hk2, rfl, HB⟩ := hrel
        have hclen : (csk p s.all k2 ++ [cz]).length = p + 1 := by rw [List.length_append, csk_len]; rfl
        by_cases hlt2 : ¬ k2 < A
        · have hkA : k2 = A := by omega
          subst hkA
          obtain ⟨D, hD⟩ : ∃ D : Nat, k2 / p = D := ⟨_, rfl⟩
          obtain ⟨E, hE⟩ : ∃ E, ((D % 2 : Nat) : Int) = E := ⟨_, rfl⟩
          have hDk : D ≤ 1000 := by rw [← hD]; exact Nat.le_trans (Nat.div_le_self _ _) hA1000
          have hE0 : 0 ≤ E ∧ E ≤ 1 := by rw [← hE]; omega
          obtain ⟨hE1, hE2⟩ := hE0
          have r2 : ((k2 : Int)).tdiv (p : Int) = (D : Int) := by rw [← hD, Int.tdiv_eq_ediv_of_nonneg (by omega)]; omega
          have r3 : ((D : Int)).tmod 2 = E := by rw [← hE, Int.tmod_eq_emod_of_nonneg (by omega)]; omega
          have r4 : IntKind.i64.wrap (D : Int) = (D : Int) := by rw [IntKind.wrap_i64]; omega
          have r5 : IntKind.i64.wrap E = E := by rw [IntKind.wrap_i64]; omega
          have hstL : (csk p s.all k2 ++ [cz]).set p (0, E, true) = stL p s.all := by
            rw [List.set_append_right _ _ (by rw [csk_len]; omega), csk_len, Nat.sub_self]
            unfold stL
            rw [HS2.out.1, hD, hE]
            rfl
          obtain ⟨dw, db, dl, hDd⟩ : ∃ a b l, (csk p s.all k2 ++ [cz])[p]? = some (a, b, l) := ⟨_, _, _, List.getElem?_eq_getElem (by omega)⟩
          have hpi2 : ¬ ((p : Int) + 1 ≤ (p : Int)) := by omega
          have hpi1 : p < p + 1 := by omega
          clear hD hE
          go_upto_region 28 with (fail)
          go_cut [] from 95 (fun wy => Hid (wy.heap[Y]? = some (rgO (.slice (some ⟨g, 0, none⟩) (p + 1) (p + 1)) a1 a2 g1 g2 SN) ∧ Ces wy g (.slice (some ⟨g, 0, none⟩) (p + 1) (p + 1)) (stL p s.all) ∧ Lp w w1.heap.size (.slice av k2 ac) p s wy))
          case first =>
            refine wp_abs (fun a0 => a0.tmps.size = 110 ∧ (∀ h, a0.tmps[7]'h = .pointer (some ⟨w1.heap.size, 0, none⟩)) ∧ (∀ h, a0.tmps[8]'h = .slice av k2 ac) ∧ (∀ h, a0.tmps[14]'h = .pointer (some ⟨Y, 0, none⟩))) ⟨rfl, fun _ => rfl, fun _ => rfl, fun _ => rfl⟩ ?_
            rintro a0 ⟨hsz, s7, s8, s14⟩ ha0
            refine wp_region_held (S := fun W => W.heap[Y]? = some (rgO (.slice (some ⟨g, 0, none⟩) (p + 1) (p + 1)) a1 a2 g1 g2 SN) ∧ W.heap[w1.heap.size]? = some (inO (p : Int))) (by kernel_rfl) ?_
            obtain ⟨u0, hu0⟩ : ∃ u0, wr.drew = u0 := ⟨_, rfl⟩
            have hb0 : Below wr.heap.size wr u0 := by rw [← hu0]; exact (Below.refl _ _).drew
            show wpAnyH _ _ _ _ _ _ _ _ wr.drew
            rw [hu0]
            have hS0 := And.intro (keep HB.out.1 hb0) (keep HB.out.2.2.pb hb0)
            refine h_take (i := 0) (.pointer (some ⟨Y, 0, none⟩)) rfl (by kernel_rfl) (by kernel_rfl) (by kernel_rfl) (fun _ _ _ h => h) rfl hS0 (fun W hW => by simp [execOp, go_sem, Act.put, hsz, s7, s8, s14]) ?_
            refine h_take (i := 1) (.slice (some ⟨g, 0, none⟩) (p + 1) (p + 1)) rfl (by kernel_rfl) (by kernel_rfl) (by kernel_rfl) (fun _ _ _ h => h) rfl hS0 (fun W hW => by obtain ⟨⟨zb, x0, x1, x2, x3, x4, x5⟩, _⟩ := box6 (hW.1); simp [execOp, go_sem, Act.put, hsz, s7, s8, s14, x0, x1, x2, x3, x4, x5]) ?_
            refine h_take (i := 2) (.int .i64 (p : Int)) rfl (by kernel_rfl) (by kernel_rfl) (by kernel_rfl) (fun _ _ _ h => h) rfl hS0 (fun W hW => by obtain ⟨zb, x0, _⟩ := box1 hW.2; simp [execOp, go_sem, Act.put, hsz, s7, s8, s14, zb, x0]) ?_
            refine h_take (i := 3) (.slice av k2 ac) rfl (by kernel_rfl) (by kernel_rfl) (by kernel_rfl) (fun _ _ _ h => h) rfl hS0 (fun W hW => by simp [execOp, go_sem, Act.put, hsz, s7, s8, s14]) ?_
            refine h_take (i := 4) (.int .i64 (k2 : Int)) rfl (by kernel_rfl) (by kernel_rfl) (by kernel_rfl) (fun _ _ _ h => h) rfl hS0 (fun W hW => by simp [execOp, go_sem, Act.put, hsz, s7, s8, s14]) ?_
            refine h_take (i := 5) (.int .i64 (p : Int)) rfl (by kernel_rfl) (by kernel_rfl) (by kernel_rfl) (fun _ _ _ h => h) rfl hS0 (fun W hW => by obtain ⟨zb, x0, _⟩ := box1 hW.2; simp [execOp, go_sem, Act.put, hsz, s7, s8, s14, zb, x0]) ?_
            refine h_take (i := 6) (.int .i64 (D : Int)) rfl (by kernel_rfl) (by kernel_rfl) (by kernel_rfl) (fun _ _ _ h => h) rfl hS0 (fun W hW => by simp [execOp, go_sem, Act.put, hsz, s7, s8, s14, r2, r4, hp0, hp1, hp3]) ?_
            refine h_take (i := 7) (.int .i64 E) rfl (by kernel_rfl) (by kernel_rfl) (by kernel_rfl) (fun _ _ _ h => h) rfl hS0 (fun W hW => by simp [execOp, go_sem, Act.put, hsz, s7, s8, s14, r3, r5]) ?_
            refine h_take (i := 8) (ceV 0 E true) rfl (by kernel_rfl) (by kernel_rfl) (by kernel_rfl) (fun _ _ _ h => h) rfl hS0 (fun W hW => by simp [execOp, go_sem, Act.put, hsz, s7, s8, s14]) ?_
            refine h_take (i := 9) (.pointer (some ⟨g, p * 3, none⟩)) rfl (by kernel_rfl) (by kernel_rfl) (by kernel_rfl) (fun _ _ _ h => h) rfl hS0 (fun W hW => by simp [execOp, go_sem, Act.put, hsz, s7, s8, s14, hpi1, hpi2]) ?_
            have hC1 := Ces.below HB.out.2.1 hb0
            obtain ⟨d0, d1, d2⟩ := hC1.cells hclen hDd
            have k0 := hC1.free hclen (p * 3)
            have k1 := hC1.free hclen (p * 3 + 1)
            have k2' := hC1.free hclen (p * 3 + 2)
            have hgl := hC1.lt
            obtain ⟨uf, huf⟩ : ∃ uf, ((u0.setCell ⟨g, p * 3, none⟩ (.int .u64 0)).setCell ⟨g, p * 3 + 1, none⟩ (.int .i64 E)).setCell ⟨g, p * 3 + 2, none⟩ (.bool true) = uf := ⟨_, rfl⟩
            have hF := HST2.out u0 _ p (0, E, true) hS0.1 hC1 hclen (HB.out.2.2.below hb0) hpi1 uf huf
            rw [hstL] at hF
            have HF : Hid (uf.heap[Y]? = some (rgO (.slice (some ⟨g, 0, none⟩) (p + 1) (p + 1)) a1 a2 g1 g2 SN) ∧ Ces uf g (.slice (some ⟨g, 0, none⟩) (p + 1) (p + 1)) (stL p s.all) ∧ Lp w w1.heap.size (.slice av k2 ac) p s uf) := hF
            refine h_skip (i := 10) (w' := uf) rfl (by kernel_rfl) rfl (by rw [← huf]; simp [execOp, go_sem, Act.put, hsz, s7, s8, s14, d0, d1, d2, k0, k1, k2', hgl]) ⟨HF.out.1, HF.out.2.2.pb⟩ ?_
            refine wpAnyH_done (by kernel_rfl) ?_ _
            clear huf hF hgl d0 d1 d2 k0 k1 k2' hC1 hS0 hb0 hu0
            subst ha0
            clear hsz s7 s8 s14
            go_simp
            go_wp2_with fail
            go_meet
            case rel => exact HF.out
          case rest =>
          rename World => wy
          have HWY : Hid (wy.heap[Y]? = some (rgO (.slice (some ⟨g, 0, none⟩) (p + 1) (p + 1)) a1 a2 g1 g2 SN) ∧ Ces wy g (.slice (some ⟨g, 0, none⟩) (p + 1) (p + 1)) (stL p s.all) ∧ Lp w w1.heap.size (.slice av k2 ac) p s wy) := hcut
          clear hcut HB hDd hstL r2 r3 r4 r5 hclen
          go_upto_region 29 with (fail)
          obtain ⟨hrunS, hup⟩ := HWY.out.2.2.wd.rws.upto G (by omega)
          have hlenG : (s.all.take G).length ≤ 17592186043904 := by rw [List.length_take]; have := HS2.out.1; omega
          refine wp_abs (fun a0 => a0.tmps.size = 110 ∧ a0.defers = [] ∧ (∀ h, a0.tmps[4]'h = .pointer (some ⟨w.heap.size, 0, none⟩)) ∧ (∀ h, a0.tmps[8]'h = .slice av k2 ac) ∧ (∀ h, a0.tmps[9]'h = .int .i64 (G : Int)) ∧ (∀ h, a0.tmps[14]'h = .pointer (some ⟨Y, 0, none⟩))) ⟨rfl, rfl, fun _ => rfl, fun _ => rfl, fun _ => rfl, fun _ => rfl⟩ ?_
          rintro a0 ⟨hsz, hdf, s4, s8, s9, s14⟩ ha0
          refine wp_region_held (S := fun W => W.heap[Y]? = some (rgO (.slice (some ⟨g, 0, none⟩) (p + 1) (p + 1)) a1 a2 g1 g2 SN)) (by kernel_rfl) ?_
          obtain ⟨u0, hu0⟩ : ∃ u0, wy.drew = u0 := ⟨_, rfl⟩
          have hb0 : Below wy.heap.size wy u0 := by rw [← hu0]; exact (Below.refl _ _).drew
          show wpAnyH _ _ _ _ _ _ _ _ wy.drew
          rw [hu0]
          have hS0 := keep HWY.out.1 hb0
          refine h_take (i := 0) (rgV (.slice (some ⟨g, 0, none⟩) (p + 1) (p + 1)) a1 a2 g1 g2 SN) rfl (by kernel_rfl) (by kernel_rfl) (by kernel_rfl) (fun _ _ _ h => h) rfl hS0 (fun W hW => by obtain ⟨⟨zb, x0, x1, x2, x3, x4, x5⟩, _⟩ := box6 (hW); simp [execOp, go_sem, Act.put, hsz, s4, s8, s9, s14, x0, x1, x2, x3, x4, x5]) ?_
          refine h_take (i := 1) (.slice av k2 ac) rfl (by kernel_rfl) (by kernel_rfl) (by kernel_rfl) (fun _ _ _ h => h) rfl hS0 (fun W hW => by simp [execOp, go_sem, Act.put, hsz, s4, s8, s9, s14]) ?_
          refine h_take (i := 2) (.int .i64 (G : Int)) rfl (by kernel_rfl) (by kernel_rfl) (by kernel_rfl) (fun _ _ _ h => h) rfl hS0 (fun W hW => by simp [execOp, go_sem, Act.put, hsz, s4, s8, s9, s14]) ?_
          refine h_take (i := 3) (.slice av G ac) rfl (by kernel_rfl) (by kernel_rfl) (by kernel_rfl) (fun _ _ _ h => h) rfl hS0 (fun W hW => by simp [execOp, go_sem, Act.put, hsz, s4, s8, s9, s14, hrunS]) ?_
          refine h_call (i := 4) 51 #[.slice av G ac] rfl (by kernel_rfl) rfl (by simp [execOp, go_sem, Act.put, hsz, s4, s8, s9, s14]) ((cloneW_any (.slice av G ac) (s.all.take G) u0 (hup.below hb0) hlenG).mono ?_)
          rintro e u1 ⟨cv, rfl, hcv, hb1⟩
          obtain ⟨ca, cn, cc', rfl⟩ : ∃ a n c, cv = .slice a n c := by obtain ⟨a, c, h, _⟩ := hcv.form; exact ⟨_, _, _, h⟩
          have hb01 : Below wy.heap.size wy u1 := bsq hb0 hb1
          have hS1 := keep HWY.out.1 hb01
          refine ⟨_, rfl, hS1, ?_⟩
          have hR1 := keep HWY.out.2.2.rb hb01
          have hC1 := Ces.below HWY.out.2.1 hb01
          obtain ⟨uf, huf, hXf, hBf, hkf, _⟩ := put6 u1 w.heap.size (.slice (some ⟨g, 0, none⟩) (p + 1) (p + 1)) (.int .i64 a1) (.int .i64 a2) (.int .i64 g1) (.int .i64 g2) (.int .i64 SN) hR1
          obtain ⟨⟨hzr, r0, r1, r2, r3, r4, r5⟩, f0, f1, f2, f3, f4, f5⟩ := box6 hR1
          have hSf : uf.heap[Y]? = some (rgO (.slice (some ⟨g, 0, none⟩) (p + 1) (p + 1)) a1 a2 g1 g2 SN) := (hkf _ (by have := HYP.out.2.2.2.1; omega)).trans hS1
          have hblf : Below w.heap.size w uf := hBf _ _ (Nat.le_refl _) (bsq HWY.out.2.2.bl hb01)
          have hne := box_ne hcv hR1 (by decide)
          have HE : Hid (Z (.returned (.tuple #[rgV (.slice (some ⟨g, 0, none⟩) (p + 1) (p + 1)) a1 a2 g1 g2 SN, .slice ca cn cc', .int .i64 0])) uf) := by
            refine HZ.out _ _ ?_
            rw [HRES2.out.1, HRES2.out.2.1, HRES2.out.2.2, HST.out, HS2.out.2.1]
            refine ⟨_, _, rfl, ?_, ?_, hblf⟩
            · rw [← huf]
              exact Ces.mono (own6 hC1 hR1 _ _ _ _ _ _) HYP.out.2.2.2.2
            · rw [← huf]
              exact Wds.mono (ownsRow_setCell_other (ownsRow_setCell_other (ownsRow_setCell_other (ownsRow_setCell_other (ownsRow_setCell_other (ownsRow_setCell_other hcv hne _) hne _) hne _) hne _) hne _) hne _) (Nat.le_trans HWY.out.2.2.bl.size hb0.size)
          obtain ⟨⟨hzf, y0, y1, y2, y3, y4, y5⟩, _⟩ := box6 hXf
          refine h_skip (i := 5) (w' := uf) rfl (by kernel_rfl) rfl (by rw [← huf]; simp [execOp, go_sem, Act.put, hsz, s4, s8, s9, s14, hzr, r0, r1, r2, r3, r4, r5, f0, f1, f2, f3, f4, f5]) hSf ?_
          refine h_take (i := 6) (.slice ca cn cc') rfl (by kernel_rfl) (by kernel_rfl) (by kernel_rfl) (fun _ _ _ h => h) rfl hSf (fun W hW => by simp [execOp, go_sem, Act.put, hsz, s4, s8, s9, s14]) ?_
          refine h_take (i := 7) (.int .i64 0) rfl (by kernel_rfl) (by kernel_rfl) (by kernel_rfl) (fun _ _ _ h => h) rfl hSf (fun W hW => by simp [execOp, go_sem, Act.put, hsz, s4, s8, s9, s14]) ?_
          refine wpAnyH_done (by kernel_rfl) ?_ _
          clear huf hXf hBf hkf r0 r1 r2 r3 r4 r5 f0 f1 f2 f3 f4 f5 hSf hblf hne hcv hC1 hR1 hS1 hb01 hb1 hS0 hb0 hu0 hrunS hup hlenG
          subst ha0
          clear hsz hdf s4 s8 s9 s14
          go_simp
          go_wp2_with fail
          exact bodyPost_ret (v := .tuple #[rgV (.slice (some ⟨g, 0, none⟩) (p + 1) (p + 1)) a1 a2 g1 g2 SN, .slice ca cn cc', .int .i64 0]) (by simp [results, Try.results23, go_sem, hzf, y0, y1, y2, y3, y4, y5]) rfl HE.out
        have hlt2 : k2 < A := by omega
        obtain ⟨x, hx⟩ : ∃ x, s.all[k2]? = some x := ⟨_, List.getElem?_eq_getElem (by have := HS2.out.1; omega)⟩
        obtain ⟨ga, off, hav, hcell⟩ := HB.out.2.2.wd.rws.at k2 x hx
        subst hav
        have c0 := hcell wr (Below.refl _ _)
        obtain ⟨M, hM⟩ : ∃ M : Nat, k2 % p = M := ⟨_, rfl⟩
        have hMp : M < p := by rw [← hM]; exact Nat.mod_lt _ (by omega)
        have hMp1 : M < p + 1 := by omega
        obtain ⟨m1, hm1'⟩ : ∃ x, (mk p k2).1 = x := ⟨_, rfl⟩
        obtain ⟨m2, hm2'⟩ : ∃ x, (mk p k2).2 = x := ⟨_, rfl⟩
        have HMk : Hid (∀ W, W.heap[w1.heap.size]? = some (inO (p : Int)) → Calls Try.prog 50 #[.int .i64 (k2 : Int), .pointer (some ⟨w1.heap.size, 0, none⟩)] W fun e w' => e = .returned (mkV m1 m2) ∧ Below W.heap.size W w') := fun W hW => by
          have := HMK.out k2 W (by omega) hW
          rw [hm1', hm2'] at this
          exact this
        have hsk : (csk p s.all k2 ++ [cz]).set M (x, m2, false) = csk p s.all (k2 + 1) ++ [cz] := by
          rw [List.set_append_left _ _ (by rw [csk_len]; exact hMp), csk, hM, List.getD_eq_getElem?_getD, hx, ← hm2']
          rfl
        have hrem2 : ((k2 : Int)).tmod (p : Int) = (M : Int) := by rw [← hM, Int.tmod_eq_emod_of_nonneg (by omega)]; omega
        have hMw : IntKind.i64.wrap (M : Int) = (M : Int) := by rw [IntKind.wrap_i64]; omega
        obtain ⟨dw, db, dl, hD⟩ : ∃ a b l, (csk p s.all k2 ++ [cz])[M]? = some (a, b, l) := ⟨_, _, _, List.getElem?_eq_getElem (by omega)⟩
        have hMi2 : ¬ ((p : Int) + 1 ≤ (M : Int)) := by omega
        have hfd : ∀ u : World, (Instr.field 33 (mkV m1 m2) 1).run Try.prog u = .ok (.int .i64 m2) u := fun _ => by kernel_rfl
        clear hcell hx hM hm1' hm2'
        go_upto_region 26 with (fail)
        refine wp_abs (fun a0 => a0.tmps.size = 110 ∧ (∀ h, a0.tmps[7]'h = .pointer (some ⟨w1.heap.size, 0, none⟩)) ∧ (∀ h, a0.tmps[14]'h = .pointer (some ⟨Y, 0, none⟩)) ∧ (∀ h, a0.tmps[15]'h = .int .i64 (k2 : Int)) ∧ (∀ h, a0.tmps[16]'h = .int .u64 x) ∧ (∀ h, a0.tmps[13]'h = .func (.func 50) #[] #[.pointer (some ⟨w1.heap.size, 0, none⟩)])) ⟨rfl, fun _ => rfl, fun _ => rfl, fun _ => rfl, fun _ => rfl, fun _ => rfl⟩ ?_
        rintro a0 ⟨hsz, s7, s14, s15, s16, s13⟩ ha0
        refine wp_region_held (S := fun W => W.heap[Y]? = some (rgO (.slice (some ⟨g, 0, none⟩) (p + 1) (p + 1)) a1 a2 g1 g2 SN) ∧ W.heap[w1.heap.size]? = some (inO (p : Int))) (by kernel_rfl) ?_
        obtain ⟨u0, hu0⟩ : ∃ u0, wr.drew = u0 := ⟨_, rfl⟩
        have hb0 : Below wr.heap.size wr u0 := by rw [← hu0]; exact (Below.refl _ _).drew
        show wpAnyH _ _ _ _ _ _ _ _ wr.drew
        rw [hu0]
        have hS0 := And.intro (keep HB.out.1 hb0) (keep HB.out.2.2.pb hb0)
        refine h_take (i := 0) (.pointer (some ⟨Y, 0, none⟩)) rfl (by kernel_rfl) (by kernel_rfl) (by kernel_rfl) (fun _ _ _ h => h) rfl hS0 (fun W hW => by simp [execOp, go_sem, Act.put, hsz, s7, s13, s14, s15, s16, eg]) ?_
        refine h_take (i := 1) (.slice (some ⟨g, 0, none⟩) (p + 1) (p + 1)) rfl (by kernel_rfl) (by kernel_rfl) (by kernel_rfl) (fun _ _ _ h => h) rfl hS0 (fun W hW => by obtain ⟨⟨zb, x0, x1, x2, x3, x4, x5⟩, _⟩ := box6 (hW.1); simp [execOp, go_sem, Act.put, hsz, s7, s13, s14, s15, s16, eg, x0, x1, x2, x3, x4, x5]) ?_
        refine h_take (i := 2) (.int .i64 (k2 : Int)) rfl (by kernel_rfl) (by kernel_rfl) (by kernel_rfl) (fun _ _ _ h => h) rfl hS0 (fun W hW => by simp [execOp, go_sem, Act.put, hsz, s7, s13, s14, s15, s16, eg]) ?_
        refine h_take (i := 3) (.int .i64 (p : Int)) rfl (by kernel_rfl) (by kernel_rfl) (by kernel_rfl) (fun _ _ _ h => h) rfl hS0 (fun W hW => by obtain ⟨zb, x0, _⟩ := box1 hW.2; simp [execOp, go_sem, Act.put, hsz, s7, s13, s14, s15, s16, eg, zb, x0]) ?_
        refine h_take (i := 4) (.int .i64 (M : Int)) rfl (by kernel_rfl) (by kernel_rfl) (by kernel_rfl) (fun _ _ _ h => h) rfl hS0 (fun W hW => by simp [execOp, go_sem, Act.put, hsz, s7, s13, s14, s15, s16, eg, hrem2, hMw, hp0, hp1, hp3]) ?_
        refine h_take (i := 5) (.int .u64 x) rfl (by kernel_rfl) (by kernel_rfl) (by kernel_rfl) (fun _ _ _ h => h) rfl hS0 (fun W hW => by simp [execOp, go_sem, Act.put, hsz, s7, s13, s14, s15, s16, eg]) ?_
        refine h_take (i := 6) (.func (.func 50) #[] #[.pointer (some ⟨w1.heap.size, 0, none⟩)]) rfl (by kernel_rfl) (by kernel_rfl) (by kernel_rfl) (fun _ _ _ h => h) rfl hS0 (fun W hW => by simp [execOp, go_sem, Act.put, hsz, s7, s13, s14, s15, s16, eg]) ?_
        refine h_take (i := 7) (.int .i64 (k2 : Int)) rfl (by kernel_rfl) (by kernel_rfl) (by kernel_rfl) (fun _ _ _ h => h) rfl hS0 (fun W hW => by simp [execOp, go_sem, Act.put, hsz, s7, s13, s14, s15, s16, eg]) ?_
        refine h_call (i := 8) 50 #[.int .i64 (k2 : Int), .pointer (some ⟨w1.heap.size, 0, none⟩)] rfl (by kernel_rfl) rfl (by simp [execOp, go_sem, Act.put, hsz, s7, s13, s14, s15, s16, eg]) ((HMk.out _ hS0.2).mono ?_)
        rintro e u1 ⟨rfl, hb1⟩
        have hb01 : Below wr.heap.size wr u1 := bsq hb0 hb1
        have hS1 := And.intro (keep HB.out.1 hb01) (keep HB.out.2.2.pb hb01)
        refine ⟨_, rfl, hS1, ?_⟩
        refine h_take (i := 9) (.int .i64 m2) rfl (by kernel_rfl) (by kernel_rfl) (by kernel_rfl) (fun _ _ _ h => h) rfl hS1 (fun W hW => by simp [execOp, go_sem, Act.put, hsz, s7, s13, s14, s15, s16, eg, hfd]) ?_
        refine h_take (i := 10) (ceV x m2 false) rfl (by kernel_rfl) (by kernel_rfl) (by kernel_rfl) (fun _ _ _ h => h) rfl hS1 (fun W hW => by simp [execOp, go_sem, Act.put, hsz, s7, s13, s14, s15, s16, eg]) ?_
        refine h_take (i := 11) (.pointer (some ⟨g, M * 3, none⟩)) rfl (by kernel_rfl) (by kernel_rfl) (by kernel_rfl) (fun _ _ _ h => h) rfl hS1 (fun W hW => by simp [execOp, go_sem, Act.put, hsz, s7, s13, s14, s15, s16, eg, hMp1, hMi2]) ?_
        have hC1 := Ces.below HB.out.2.1 hb01
        obtain ⟨d0, d1, d2⟩ := hC1.cells hclen hD
        have k0 := hC1.free hclen (M * 3)
        have k1 := hC1.free hclen (M * 3 + 1)
        have k2' := hC1.free hclen (M * 3 + 2)
        have hgl := hC1.lt
        obtain ⟨uf, huf⟩ : ∃ uf, ((u1.setCell ⟨g, M * 3, none⟩ (.int .u64 x)).setCell ⟨g, M * 3 + 1, none⟩ (.int .i64 m2)).setCell ⟨g, M * 3 + 2, none⟩ (.bool false) = uf := ⟨_, rfl⟩
        have hF := HST2.out u1 _ M (x, m2, false) hS1.1 hC1 hclen (HB.out.2.2.below hb01) hMp1 uf huf
        rw [hsk] at hF
        have HF : Hid (uf.heap[Y]? = some (rgO (.slice (some ⟨g, 0, none⟩) (p + 1) (p + 1)) a1 a2 g1 g2 SN) ∧ Ces uf g (.slice (some ⟨g, 0, none⟩) (p + 1) (p + 1)) (csk p s.all (k2 + 1) ++ [cz]) ∧ Lp w w1.heap.size (.slice (some ⟨ga, off, none⟩) A ac) p s uf) := hF
        refine h_skip (i := 12) (w' := uf) rfl (by kernel_rfl) rfl (by rw [← huf]; simp [execOp, go_sem, Act.put, hsz, s7, s13, s14, s15, s16, d0, d1, d2, k0, k1, k2', hgl]) ⟨HF.out.1, HF.out.2.2.pb⟩ ?_
        refine wpAnyH_done (by kernel_rfl) ?_ _
        clear huf hF hgl d0 d1 d2 k0 k1 k2' hC1 hS1 hb01 hb1 hS0 hb0 hu0 hD hsk hrem2 hMw c0 hclen HB
        subst ha0
        clear hsz s7 s13 s14 s15 s16
        go_simp
        go_wp2
        go_roundw
        case rel => exact ⟨k2 + 1, by omega, by go_num, HF.out⟩
        case measure => simp [intOf]; omega
    have hlt : k < n := by omega
    obtain ⟨x, hx⟩ : ∃ x, T[k]? = some x := ⟨_, List.getElem?_eq_getElem (by have := HN.out; omega)⟩
    rw [runT_at hx] at hrun
    rw [all_at hx] at hall
    obtain ⟨ga, off, rfl, hcell⟩ := (HTT.out wr hL.bl).at k x hx
    obtain ⟨c0, c1⟩ := hcell wr (Below.refl _ _)
    obtain ⟨xk, xw⟩ := x
    simp only at c0 c1 hall
    obtain ⟨v2, v3, hv2, hv3, hY1, hYf, hbf⟩ := laid2 wr 103 (.int .i64 0) (.int .u64 0) (.int .i64 xk) (.int .u64 xw)
    obtain ⟨⟨hy, y0, y1⟩, g0, g1⟩ := box2 hY1
    obtain ⟨⟨hyf, t0, t1⟩, _⟩ := box2 hYf
    have HL3 : Hid (Lp w w1.heap.size (.slice av A ac) p s v3) := hL.below hbf
    have HRU : Hid (runT p (stepT p s (xk, xw)) (T.drop (k + 1)) = q) := hrun
    have HAL : Hid ((turnB xk && (T.drop (k + 1)).all (fun t => turnB t.1)) = qa) := hall
    obtain ⟨zp, p0, _⟩ := box1 HL3.out.pb
    clear hcell hx hY1 hYf hbf hA hG hN hL hrun hall HL
    go_upto_region 11 with (fail)
    try rw [hv3]
    clear hv3 hv2 y0 y1 g0 g1 c0 c1
    by_cases hk1 : xk = 1
    · subst hk1
      have HAL1 : Hid ((T.drop (k + 1)).all (fun t => turnB t.1) = qa) := HAL.out
      obtain ⟨D, hD⟩ : ∃ D : Int, (A : Int) - (N : Int) = D := ⟨_, rfl⟩
      obtain ⟨E, hE⟩ : ∃ E : Int, (p : Int) - 1 = E := ⟨_, rfl⟩
      by_cases hroom : A - N < p - 1
      · have e2 : decide (D < E) = true := by rw [decide_eq_true_eq]; omega
        have hput : putS p s xw = ⟨s.all ++ [xw], s.got, s.seen⟩ := by unfold putS; rw [HS2.out.1, HS2.out.2.2, if_pos hroom]
        obtain ⟨vd, hvd⟩ : ∃ vd, v3.alloc (.cells #[.int .u64 xw] 24) = vd := ⟨_, rfl⟩
        have hbd : Below v3.heap.size v3 vd := by rw [← hvd]; exact balloc _ _
        have HD : Hid (Rws vd (.slice (some ⟨v3.heap.size, 0, none⟩) 1 1) [xw] ∧ Lp w w1.heap.size (.slice av A ac) p s vd ∧ Below v3.heap.size v3 vd) := ⟨by rw [← hvd]; exact rws_laid v3 [xw] (by simp), HL3.out.below hbd, hbd⟩
        clear hbd hroom
        go_wp2_with
          (at_builtin
           refine wpList_wds _ rfl _ _ rfl w.heap.size _ s.all rfl HD.out.2.1.wd _ [xw] rfl HD.out.1 (by have := HS2.out.1; simp; omega) HD.out.2.1.bl.size ?_
           intro v' w' z1 z2 z3
           have HE : Hid (∃ s' : Sx, Value.int .i64 (G : Int) = .int .i64 (s'.got : Int) ∧ Value.int .i64 (N : Int) = .int .i64 (s'.seen : Int) ∧ Lp w w1.heap.size v' p s' w' ∧ runT p s' (T.drop (k + 1)) = q ∧ (T.drop (k + 1)).all (fun t => turnB t.1) = qa ∧ s'.all.length ≤ k + 1) := ⟨putS p s xw, by rw [hput]; show _ = Value.int .i64 (s.got : Int); rw [HS2.out.2.1], by rw [hput]; show _ = Value.int .i64 (s.seen : Int); rw [HS2.out.2.2], HL3.out.grow HD.out.2.2 z2 z3 (by rw [hput]; exact z1) (putS_inv HL3.out.inv xw), HRU.out, HAL1.out, by have := putS_len p s xw; rw [HS2.out.1] at this; omega⟩
           clear z1 z2 z3)
        go_wp2
        go_roundw
        case rel => exact ⟨k + 1, by omega, by go_num, HE.out⟩
        case measure => simp [intOf]; omega
      · have e2 : decide (D < E) = false := by rw [decide_eq_false_iff_not]; omega
        have hput : putS p s xw = s := by unfold putS; rw [HS2.out.1, HS2.out.2.2, if_neg hroom]
        have HE : Hid (∃ s' : Sx, Value.int .i64 (G : Int) = .int .i64 (s'.got : Int) ∧ Value.int .i64 (N : Int) = .int .i64 (s'.seen : Int) ∧ Lp w w1.heap.size (.slice av A ac) p s' v3 ∧ runT p s' (T.drop (k + 1)) = q ∧ (T.drop (k + 1)).all (fun t => turnB t.1) = qa ∧ s'.all.length ≤ k + 1) := ⟨s, by rw [HS2.out.2.1], by rw [HS2.out.2.2], HL3.out, by have := HRU.out; unfold stepT at this; rw [if_pos rfl, hput] at this; exact this, HAL1.out, by rw [HS2.out.1]; omega⟩
        clear hroom hput HL3 HRU HAL HAL1 HS2
        go_wp2
        go_roundw
        case rel => exact ⟨k + 1, by omega, by go_num, HE.out⟩
        case measure => simp [intOf]; omega
    have e2 : (xk == 1) = false := by simpa using hk1
    by_cases hk2 : xk = 2
    · subst hk2
      have HAL1 : Hid ((T.drop (k + 1)).all (fun t => turnB t.1) = qa) := HAL.out
      obtain ⟨M, hM⟩ : ∃ M : Nat, min (G + 1) A = M := ⟨_, rfl⟩
      obtain ⟨G1, hG1⟩ : ∃ G1 : Nat, G + 1 = G1 := ⟨_, rfl⟩
      have hG1i : (G : Int) + 1 = (G1 : Int) := by omega
      have hm1' : (if (A : Int) < (G1 : Int) then (A : Int) else (G1 : Int)) = (M : Int) := by split <;> omega
      have hm2' : (if A < G1 then (A : Int) else (G1 : Int)) = (M : Int) := by split <;> omega
      have hm3' : min (G1 : Int) (A : Int) = (M : Int) := by omega
      have hm4' : min G1 A = M := by omega
      have hgt : (getS s).got = M ∧ (getS s).all = s.all ∧ (getS s).seen = s.seen := by
        unfold getS
        refine ⟨?_, rfl, rfl⟩
        show (if s.got < s.all.length then s.got + 1 else s.got) = M
        rw [HS2.out.1, HS2.out.2.1]
        split <;> omega
      have HE : Hid (∃ s' : Sx, Value.int .i64 (M : Int) = .int .i64 (s'.got : Int) ∧ Value.int .i64 (N : Int) = .int .i64 (s'.seen : Int) ∧ Lp w w1.heap.size (.slice av A ac) p s' v3 ∧ runT p s' (T.drop (k + 1)) = q ∧ (T.drop (k + 1)).all (fun t => turnB t.1) = qa ∧ s'.all.length ≤ k + 1) := ⟨getS s, by rw [hgt.1], by rw [hgt.2.2, HS2.out.2.2], HL3.out.with hgt.2.1 (getS_inv HL3.out.inv), HRU.out, HAL1.out, by rw [hgt.2.1, HS2.out.1]; omega⟩
      clear hgt HL3 HRU HAL HAL1 HS2 hk1 hM
      go_wp2
      go_roundw
      case rel => exact ⟨k + 1, by omega, by go_num, HE.out⟩
      case measure => simp [intOf]; omega
    have e3 : (xk == 2) = false := by simpa using hk2
    by_cases hk3 : xk = 3
    · subst hk3
      have HAL1 : Hid ((T.drop (k + 1)).all (fun t => turnB t.1) = qa) := HAL.out
      have HE : Hid (∃ s' : Sx, Value.int .i64 (G : Int) = .int .i64 (s'.got : Int) ∧ Value.int .i64 (G : Int) = .int .i64 (s'.seen : Int) ∧ Lp w w1.heap.size (.slice av A ac) p s' v3 ∧ runT p s' (T.drop (k + 1)) = q ∧ (T.drop (k + 1)).all (fun t => turnB t.1) = qa ∧ s'.all.length ≤ k + 1) := ⟨⟨s.all, s.got, s.got⟩, by rw [HS2.out.2.1], by rw [HS2.out.2.1], HL3.out.with rfl (lrnS_inv HL3.out.inv), HRU.out, HAL1.out, by rw [HS2.out.1]; omega⟩
      clear HL3 HRU HAL HAL1 HS2 hk1 hk2
      go_wp2
      go_roundw
      case rel => exact ⟨k + 1, by omega, by go_num, HE.out⟩
      case measure => simp [intOf]; omega
    have e4 : (xk == 3) = false := by simpa using hk3
    have hqf : false = qa := by
      have h1 := HAL.out
      have h2 : turnB xk = false := by unfold turnB; rw [e2, e3, e4]; rfl
      rw [h2] at h1
      exact h1
    obtain ⟨uf, huf, hXf, hE⟩ := HERR.out v3 1 HL3.out.rb HL3.out.bl (by rw [HPC2.out, ← hqf]; rfl) (by decide)
    have HE : Hid (Z (.returned (.tuple #[rgV (.slice none 0 0) 0 0 0 0 0, .slice none 0 0, .int .i64 1])) uf) := hE
    obtain ⟨⟨hzf, y0, y1, y2, y3, y4, y5⟩, _⟩ := box6 hXf
    obtain ⟨⟨hzr, r0, r1, r2, r3, r4, r5⟩, f0, f1, f2, f3, f4, f5⟩ := box6 HL3.out.rb
    clear hXf hE hqf hk1 hk2 hk3 HL3 HRU HAL HS2
    go_wp2
    try rw [huf]
    exact bodyPost_ret (v := .tuple #[rgV (.slice none 0 0) 0 0 0 0 0, .slice none 0 0, .int .i64 1]) (by simp [results, Try.results23, go_sem, hzf, y0, y1, y2, y3, y4, y5]) rfl HE.out
end Go.Proofs.Ythjmcopknkemnaa.ring
