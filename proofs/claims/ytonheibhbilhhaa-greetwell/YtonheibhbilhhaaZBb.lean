/- desc: what word answers. -/
import Derived.Test.YtonheibhbilhhaaZAc
import Derived.Laws.BitsAllLaws
import Derived.Laws.BitsLemmas
import Derived.Deep.QuietTactic
import Derived.BigQuiet
import Derived.Laws.Strings2
import Derived.Test.YtonheibhbilhhaaZAf
import Derived.OneCell
import Derived.Test.YtonheibhbilhhaaZAg
namespace Go.Proofs.Ytonheibhbilhhaa.desc
open Go.RowKit Go.PlainAid Go.Proofs.Ytonheibhbilhhaa.lane
set_option linter.unusedVariables false

theorem or_low (k : IntKind) (j i x y : Nat) (c d : Int) (hj : j ≤ k.bits) (hk : ∀ n : Int, 0 ≤ n → n < 2 ^ j → k.wrap n = n) (hx : x < 2 ^ i) (hxj : x < 2 ^ j) (hy : y % 2 ^ i = 0) (hyj : y < 2 ^ j)
    (hc : c = (x : Int)) (hd : d = (y : Int)) : bits .or k c d = ((x + y : Nat) : Int) := by
  subst hc hd
  rw [(bits_nat k j hj hk x y hxj hyj).2, Nat.or_comm, nat_join i y x hy hx, Nat.add_comm]
theorem wraps_i64 (n : Int) (h₀ : 0 ≤ n) (h₁ : n < 2 ^ 32) : IntKind.i64.wrap n = n := by rw [IntKind.wrap_i64]; omega
/-- the word at the front of a text -/
def wdOf (t : ByteArray) : Int := bt t 0 + 256 * bt t 1
set_option maxHeartbeats 400000 in
theorem word_any (s : ByteArray) (w : World) (hs : 2 ≤ s.size) :
    Calls Try.prog 89 #[.string s] w fun e w' => e = .returned (.int .i64 (wdOf s)) ∧ ∃ q, w' = w.drewN q := by
  have hb := get_bt s
  have b0 := bt_nonneg s 0
  have b1 := bt_le s 0
  have c0 := bt_nonneg s 1
  have c1 := bt_le s 1
  have e3 := or_low .i64 32 8 (bt s 0).toNat (256 * (bt s 1).toNat) (bt s 0) (bt s 1 * 256) (by decide) wraps_i64 (by omega) (by omega) (by omega) (by omega) (by omega) (by omega)
  have e0 : (((bt s 0).toNat + 256 * (bt s 1).toNat : Nat) : Int) = wdOf s := by unfold wdOf; omega
  rw [e0] at e3
  clear e0
  generalize wdOf s = N at *
  go_enter Try.func89, Try.ntmps89
  go_wp2_with fail
  go_quiet (fail)
  go_wp2
  go_ret
  exact ⟨rfl, _, rfl⟩
theorem bt_extract (s : ByteArray) (k j : Nat) (h : k + j < s.size) : bt (s.extract k s.size) j = bt s (k + j) := by
  have hz : (s.extract k s.size).size = s.size - k := by rw [ByteArray.size_extract]; omega
  rw [bt_nums _ j (by omega), bt_nums _ (k + j) h, extract_rest]
  simp [List.getD, List.getElem?_drop]
theorem run_ix (s : ByteArray) (k : Nat) (h : k < s.size) (W : World) : (Instr.index 9 (.string s) (.int .i64 (k : Int))).run Try.prog W = .ok (.int .u8 (bt s k)) W := by
  have e : bt s k = ((s[k]'h).toNat : Int) := by unfold bt; rw [dif_pos h]
  rw [e]
  simp [Instr.index, asIntOf, run_underlying Try.underlying9, h, Result.andThen]
theorem run_cut (s : ByteArray) (k : Nat) (h : k ≤ s.size) (W : World) : (Instr.slice 9 (.string s) (some (.int .i64 (k : Int))) none none).run Try.prog W = .ok (.string (s.extract k s.size)) W := by
  have := run_slice_string_l (P := Try.prog) (w := W) 9 s Try.underlying9 .i64 (k : Int) (by omega) (by omega)
  rw [Int.toNat_natCast] at this
  exact this
end Go.Proofs.Ytonheibhbilhhaa.desc

/- desc: a configuration that is being made: its rows, each in a block of its own. -/
namespace Go.Proofs.Ytonheibhbilhhaa.desc
open Go.RowKit Go.PlainAid Go.Proofs.Ytonheibhbilhhaa.lane
set_option linter.unusedVariables false

theorem infoE : (Try.prog.info? 85).map (fun i => (i.zero, i.size, i.bytes)) = some (some (.agg #[.int .i64 0, .bool false, .int .i64 0, .int .i64 0, .int .i64 0]), 5, 40) := by kernel_rfl
theorem infoF : (Try.prog.info? 76).map (fun i => (i.zero, i.size, i.bytes)) = some (some (.agg #[.int .i64 0, .int .i64 0, .int .i64 0, .int .i64 0, .slice none 0 0, .slice none 0 0]), 6, 80) := by kernel_rfl
/-- the value v owns these ends -/
def Eds (w : World) (B : Nat) (v : Value) (es : List En) : Prop := w.ownsRow B 85 5 v es.length (ecells es)
theorem Eds.nil (w : World) (B : Nat) : Eds w B (.slice none 0 0) [] := ⟨rfl, .inl ⟨rfl, rfl⟩⟩
/-- rows that lie apart -/
def apart (a b : Value) : Prop := a.ownBlock = none ∨ b.ownBlock = none ∨ a.ownBlock ≠ b.ownBlock
theorem apart.symm {a b : Value} (h : apart a b) : apart b a := by
  rcases h with h | h | h
  · exact .inr (.inl h)
  · exact .inl h
  · exact .inr (.inr h.symm)
theorem kind_ne {w : World} {B B' : Nat} {e e' : TypeId} {s s' : Nat} {v v' : Value} {n n' : Nat} {xs xs' : List Value} (h : w.ownsRow B e s v n xs) (h' : w.ownsRow B' e' s' v' n' xs') (he : e ≠ e') : v.ownBlock = none ∨ v.ownBlock ≠ v'.ownBlock := by
  cases hv : v.ownBlock with
  | none => exact .inl rfl
  | some g =>
    right
    intro q
    obtain ⟨c, fz, h1⟩ := Lib.ownsRow_kind h g hv
    obtain ⟨c', fz', h2⟩ := Lib.ownsRow_kind h' g q.symm
    rw [h1] at h2
    injection h2 with h2
    injection h2 with _ h2 _
    exact he h2
/-- a row of another kind than block X -/
theorem box_ne {w : World} {B : Nat} {e T : TypeId} {s : Nat} {v : Value} {n : Nat} {xs : List Value} {X : Nat} {cs : Array Value} {fr : Nat × Nat} (h : w.ownsRow B e s v n xs) (hX : w.heap[X]? = some (.cells cs T fr)) (he : e ≠ T) : v.ownBlock ≠ some X := by
  intro q
  obtain ⟨c, fz, h1⟩ := Lib.ownsRow_kind h X q
  rw [hX] at h1
  injection h1 with h1
  injection h1 with _ h1 _
  exact he h1.symm
structure Inv (w0 wr : World) (X : Nat) (va na atr po : Int) (vf : Value) (L : FL) : Prop where
  box : wr.heap[X]? = some (.cells #[.int .i64 va, .int .i64 na, .int .i64 atr, .int .i64 po, vf] 26)
  hX : w0.heap.size ≤ X
  row : wr.ownsRow w0.heap.size 76 6 vf L.length (fcells L)
  tx : ∀ q ∈ L, Txs wr w0.heap.size q.2.1 q.1.ex
  en : ∀ q ∈ L, Eds wr w0.heap.size q.2.2 q.1.en
  sx : L.Pairwise fun a b => apart a.2.1 b.2.1
  sn : L.Pairwise fun a b => apart a.2.2 b.2.2
  bb : ∀ q ∈ L, BB q.1.ex ∧ ∀ x ∈ q.1.ex, x.length ≤ 512
  bel : Below w0.heap.size w0 wr
theorem Inv.below {w0 wr u : World} {X : Nat} {va na atr po : Int} {vf : Value} {L : FL} (h : Inv w0 wr X va na atr po vf L) (hb : Below wr.heap.size wr u) : Inv w0 u X va na atr po vf L :=
  ⟨(hb.block X (Array.getElem?_eq_some_iff.1 h.box).1).trans h.box, h.hX, own_below h.row hb, fun q hq => own_below (h.tx q hq) hb, fun q hq => own_below (h.en q hq) hb, h.sx, h.sn, h.bb, h.bel.trans (hb.mono h.bel.size)⟩
theorem Inv.drew {w0 wr : World} {X : Nat} {va na atr po : Int} {vf : Value} {L : FL} (h : Inv w0 wr X va na atr po vf L) : Inv w0 wr.drew X va na atr po vf L :=
  ⟨h.box, h.hX, h.row, h.tx, h.en, h.sx, h.sn, h.bb, h.bel.drew⟩
theorem Inv.rc {w0 wr : World} {X : Nat} {va na atr po : Int} {vf : Value} {L : FL} (h : Inv w0 wr X va na atr po vf L) : Rc wr vf ⟨va, na, atr, po, L.map Prod.fst⟩ L :=
  ⟨⟨Rdg.of h.row, fun q hq => ⟨(h.tx q hq).rts, Rdg.of (h.en q hq), (h.bb q hq).1, fun x hx => Nat.le_trans ((h.bb q hq).2 x hx) (by decide)⟩⟩, rfl⟩
theorem heap_set5 {w : World} {X : Nat} {a0 a1 a2 a3 a4 u : Value} {T : TypeId} (h : w.heap[X]? = some (.cells #[a0, a1, a2, a3, a4] T)) : (w.setCell ⟨X, 4, none⟩ u).heap[X]? = some (.cells #[a0, a1, a2, a3, u] T) :=
  heap_setCell_same w X 4 #[a0, a1, a2, a3, a4] T u h
/-- a face more -/
theorem Inv.addF {w0 wr w' : World} {X : Nat} {va na atr po : Int} {vf vf' : Value} {L : FL} {f : Fc} (h : Inv w0 wr X va na atr po vf L) (hf : f.ex = [] ∧ f.en = [])
    (own : w'.ownsRow w0.heap.size 76 6 vf' (L.length + 1) (fcells L ++ fcell (f, .slice none 0 0, .slice none 0 0))) (hg : wr.grownBy w' vf.ownBlock) :
    Inv w0 (w'.setCell ⟨X, 4, none⟩ vf') X va na atr po vf' (L ++ [(f, .slice none 0 0, .slice none 0 0)]) := by
  have hXlt := (Array.getElem?_eq_some_iff.1 h.box).1
  have hne := box_ne h.row h.box (by decide)
  have hbox : w'.heap[X]? = some (.cells #[.int .i64 va, .int .i64 na, .int .i64 atr, .int .i64 po, vf] 26) := (hg.block X hXlt (fun q => hne q.symm)).trans h.box
  have hne' := box_ne own hbox (by decide)
  have tx' : ∀ q ∈ L, Txs w' w0.heap.size q.2.1 q.1.ex := fun q hq => World.ownsRow.kept (h.tx q hq) hg (kind_ne (h.tx q hq) h.row (by decide))
  have en' : ∀ q ∈ L, Eds w' w0.heap.size q.2.2 q.1.en := fun q hq => World.ownsRow.kept (h.en q hq) hg (kind_ne (h.en q hq) h.row (by decide))
  have bel' : Below w0.heap.size w0 w' := h.bel.grown hg h.bel.size (fun k hk => own_block h.row k hk)
  refine ⟨heap_set5 hbox, h.hX, ?_, fun q hq => ?_, fun q hq => ?_, ?_, ?_, fun q hq => ?_, bel'.setCell h.hX _⟩
  · rw [fcells_append, List.length_append]
    exact ownsRow_setCell_other own hne' vf'
  · rcases List.mem_append.1 hq with hq | hq
    · exact ownsRow_setCell_other (tx' q hq) (box_ne (tx' q hq) hbox (by decide)) vf'
    · simp at hq; subst hq; show Txs _ _ _ f.ex; rw [hf.1]; exact Txs.nil _ _
  · rcases List.mem_append.1 hq with hq | hq
    · exact ownsRow_setCell_other (en' q hq) (box_ne (en' q hq) hbox (by decide)) vf'
    · simp at hq; subst hq; show Eds _ _ _ f.en; rw [hf.2]; exact Eds.nil _ _
  · rw [List.pairwise_append]
    exact ⟨h.sx, by simp, fun a _ b hb => by simp at hb; subst hb; exact .inr (.inl rfl)⟩
  · rw [List.pairwise_append]
    exact ⟨h.sn, by simp, fun a _ b hb => by simp at hb; subst hb; exact .inr (.inl rfl)⟩
  · rcases List.mem_append.1 hq with hq | hq
    · exact h.bb q hq
    · simp at hq; subst hq
      refine ⟨?_, ?_⟩
      · show BB f.ex; rw [hf.1]; intro p hp; simp at hp
      · show ∀ x ∈ f.ex, _; rw [hf.1]; intro p hp; simp at hp
theorem fcells_set (D : FL) (q : Fc × Value × Value) (i : Nat) (u : Value) (hi : i < 6) : (fcells (D ++ [q])).set (D.length * 6 + i) u = fcells D ++ (fcell q).set i u := by
  rw [fcells_append, List.set_append_right _ _ (by rw [fcells_length]; omega), fcells_length, Nat.add_sub_cancel_left]
  simp [fcells]
theorem apart_new {a v' vd : Value} {n : Nat} (h : apart a vd) (hn : ∀ k, a.ownBlock = some k → k < n) (hl : vd.ownBlock = v'.ownBlock ∨ v'.ownBlock = some n) : apart a v' := by
  rcases hl with hl | hl
  · unfold apart; rw [← hl]; exact h
  · cases ha : a.ownBlock with
    | none => exact .inl ha
    | some k =>
      right; right
      rw [ha, hl]
      intro q
      injection q with q
      have := hn k ha
      omega
/-- an end more, at the last face -/
theorem Inv.addE {w0 wr w' : World} {X gF cF : Nat} {va na atr po : Int} {D : FL} {f : Fc} {ve vd vd' : Value} {e : En} (h : Inv w0 wr X va na atr po (.slice (some ⟨gF, 0, none⟩) (D.length + 1) cF) (D ++ [(f, ve, vd)]))
    (own : w'.ownsRow w0.heap.size 85 5 vd' (f.en.length + 1) (ecells f.en ++ ecell e)) (hg : wr.grownBy w' vd.ownBlock) (hl : vd.ownBlock = vd'.ownBlock ∨ vd'.ownBlock = some wr.heap.size) :
    Inv w0 (w'.setCell ⟨gF, D.length * 6 + 5, none⟩ vd') X va na atr po (.slice (some ⟨gF, 0, none⟩) (D.length + 1) cF) (D ++ [(desc.addE f e, ve, vd')]) := by
  have hXlt := (Array.getElem?_eq_some_iff.1 h.box).1
  have hlast : (f, ve, vd) ∈ D ++ [(f, ve, vd)] := by simp
  have hen := h.en _ hlast
  have htx := h.tx _ hlast
  have hne := box_ne hen h.box (by decide)
  have hbox : w'.heap[X]? = some (.cells #[.int .i64 va, .int .i64 na, .int .i64 atr, .int .i64 po, .slice (some ⟨gF, 0, none⟩) (D.length + 1) cF] 26) := (hg.block X hXlt (fun q => hne q.symm)).trans h.box
  have hrl : (D ++ [(f, ve, vd)]).length = D.length + 1 := by simp
  have row0 := h.row
  rw [hrl] at row0
  have row' : w'.ownsRow w0.heap.size 76 6 (.slice (some ⟨gF, 0, none⟩) (D.length + 1) cF) (D.length + 1) (fcells (D ++ [(f, ve, vd)])) := World.ownsRow.kept row0 hg (kind_ne row0 hen (by decide))
  have hst := (World.ownsRow.stored row' (D.length * 6 + 5) vd').1
  rw [fcells_set D _ 5 vd' (by omega)] at hst
  have hXF : X ≠ gF := fun q => box_ne row' hbox (by decide) (by rw [q]; rfl)
  have tx' : ∀ q ∈ D ++ [(f, ve, vd)], Txs w' w0.heap.size q.2.1 q.1.ex := fun q hq => World.ownsRow.kept (h.tx q hq) hg (kind_ne (h.tx q hq) hen (by decide))
  have hap := (List.pairwise_append.1 h.sn).2.2
  have en' : ∀ q ∈ D, Eds w' w0.heap.size q.2.2 q.1.en := fun q hq => by
    refine World.ownsRow.kept (h.en q (by simp [hq])) hg ?_
    rcases hap q hq (f, ve, vd) (by simp) with k | k | k
    · exact .inl k
    · cases hv : q.2.2.ownBlock with
      | none => exact .inl rfl
      | some g => right; rw [show vd.ownBlock = none from k]; simp
    · exact .inr k
  have kind : ∀ {e : TypeId} {s : Nat} {v : Value} {n : Nat} {xs : List Value}, w'.ownsRow w0.heap.size e s v n xs → e ≠ 76 → v.ownBlock ≠ some gF := by
    intro e s v n xs ho he q
    rcases kind_ne ho row' he with k | k
    · rw [k] at q; cases q
    · exact k q
  have bel' : Below w0.heap.size w0 w' := h.bel.grown hg h.bel.size (fun k hk => own_block hen k hk)
  have hgF : w0.heap.size ≤ gF := own_block row' gF rfl
  refine ⟨?_, h.hX, ?_, fun q hq => ?_, fun q hq => ?_, ?_, ?_, fun q hq => ?_, bel'.setCell hgF _⟩
  · rw [Below.heap_setCell _ _ _ _ hXF]; exact hbox
  · rw [List.length_append, fcells_append]
    simpa [fcells, fcell, desc.addE] using hst
  · rcases List.mem_append.1 hq with hq | hq
    · exact ownsRow_setCell_other (tx' q (by simp [hq])) (kind (tx' q (by simp [hq])) (by decide)) vd'
    · simp at hq; subst hq
      exact ownsRow_setCell_other (tx' _ hlast) (kind (tx' _ hlast) (by decide)) vd'
  · rcases List.mem_append.1 hq with hq | hq
    · exact ownsRow_setCell_other (en' q hq) (kind (en' q hq) (by decide)) vd'
    · simp at hq; subst hq
      have : Eds w' w0.heap.size vd' (f.en ++ [e]) := by
        unfold Eds
        rw [List.length_append, ecells_append]
        simpa [ecells] using own
      exact ownsRow_setCell_other this (kind this (by decide)) vd'
  · have := h.sx
    rw [List.pairwise_append] at this ⊢
    exact ⟨this.1, by simp, fun a ha b hb => by simp at hb; subst hb; exact this.2.2 a ha (f, ve, vd) (by simp)⟩
  · have := h.sn
    rw [List.pairwise_append] at this ⊢
    exact ⟨this.1, by simp, fun a ha b hb => by
      simp at hb; subst hb
      exact apart_new (hap a ha (f, ve, vd) (by simp)) (fun k hk => (World.ownsRow.lt (h.en a (by simp [ha])) k hk).2) hl⟩
  · rcases List.mem_append.1 hq with hq | hq
    · exact h.bb q (by simp [hq])
    · simp at hq; subst hq
      have h0 := h.bb (f, ve, vd) hlast
      exact h0
/-- a text more, at the last face -/
theorem Inv.addX {w0 wr w' : World} {X gF cF : Nat} {va na atr po : Int} {D : FL} {f : Fc} {ve vd ve' : Value} {x : List Int} (h : Inv w0 wr X va na atr po (.slice (some ⟨gF, 0, none⟩) (D.length + 1) cF) (D ++ [(f, ve, vd)]))
    (own : w'.ownsRow w0.heap.size 9 1 ve' (f.ex.length + 1) (tcells f.ex ++ [.string (strOfNums x)])) (hg : wr.grownBy w' ve.ownBlock) (hl : ve.ownBlock = ve'.ownBlock ∨ ve'.ownBlock = some wr.heap.size) (hb : Byt x) (hxl : x.length ≤ 512) :
    Inv w0 (w'.setCell ⟨gF, D.length * 6 + 4, none⟩ ve') X va na atr po (.slice (some ⟨gF, 0, none⟩) (D.length + 1) cF) (D ++ [(desc.addX f x, ve', vd)]) := by
  have hXlt := (Array.getElem?_eq_some_iff.1 h.box).1
  have hlast : (f, ve, vd) ∈ D ++ [(f, ve, vd)] := by simp
  have hen := h.en _ hlast
  have htx := h.tx _ hlast
  have hne := box_ne htx h.box (by decide)
  have hbox : w'.heap[X]? = some (.cells #[.int .i64 va, .int .i64 na, .int .i64 atr, .int .i64 po, .slice (some ⟨gF, 0, none⟩) (D.length + 1) cF] 26) := (hg.block X hXlt (fun q => hne q.symm)).trans h.box
  have hrl : (D ++ [(f, ve, vd)]).length = D.length + 1 := by simp
  have row0 := h.row
  rw [hrl] at row0
  have row' : w'.ownsRow w0.heap.size 76 6 (.slice (some ⟨gF, 0, none⟩) (D.length + 1) cF) (D.length + 1) (fcells (D ++ [(f, ve, vd)])) := World.ownsRow.kept row0 hg (kind_ne row0 htx (by decide))
  have hst := (World.ownsRow.stored row' (D.length * 6 + 4) ve').1
  rw [fcells_set D _ 4 ve' (by omega)] at hst
  have hXF : X ≠ gF := fun q => box_ne row' hbox (by decide) (by rw [q]; rfl)
  have en' : ∀ q ∈ D ++ [(f, ve, vd)], Eds w' w0.heap.size q.2.2 q.1.en := fun q hq => World.ownsRow.kept (h.en q hq) hg (kind_ne (h.en q hq) htx (by decide))
  have hap := (List.pairwise_append.1 h.sx).2.2
  have tx' : ∀ q ∈ D, Txs w' w0.heap.size q.2.1 q.1.ex := fun q hq => by
    refine World.ownsRow.kept (h.tx q (by simp [hq])) hg ?_
    rcases hap q hq (f, ve, vd) (by simp) with k | k | k
    · exact .inl k
    · cases hv : q.2.1.ownBlock with
      | none => exact .inl rfl
      | some g => right; rw [show ve.ownBlock = none from k]; simp
    · exact .inr k
  have kind : ∀ {e : TypeId} {s : Nat} {v : Value} {n : Nat} {xs : List Value}, w'.ownsRow w0.heap.size e s v n xs → e ≠ 76 → v.ownBlock ≠ some gF := by
    intro e s v n xs ho he q
    rcases kind_ne ho row' he with k | k
    · rw [k] at q; cases q
    · exact k q
  have bel' : Below w0.heap.size w0 w' := h.bel.grown hg h.bel.size (fun k hk => own_block htx k hk)
  have hgF : w0.heap.size ≤ gF := own_block row' gF rfl
  refine ⟨?_, h.hX, ?_, fun q hq => ?_, fun q hq => ?_, ?_, ?_, fun q hq => ?_, bel'.setCell hgF _⟩
  · rw [Below.heap_setCell _ _ _ _ hXF]; exact hbox
  · rw [List.length_append, fcells_append]
    simpa [fcells, fcell, desc.addX] using hst
  · rcases List.mem_append.1 hq with hq | hq
    · exact ownsRow_setCell_other (tx' q hq) (kind (tx' q hq) (by decide)) ve'
    · simp at hq; subst hq
      have : Txs w' w0.heap.size ve' (f.ex ++ [x]) := by
        unfold Txs
        rw [List.length_append, show tcells (f.ex ++ [x]) = tcells f.ex ++ [.string (strOfNums x)] by simp [tcells]]
        exact own
      exact ownsRow_setCell_other this (kind this (by decide)) ve'
  · rcases List.mem_append.1 hq with hq | hq
    · exact ownsRow_setCell_other (en' q (by simp [hq])) (kind (en' q (by simp [hq])) (by decide)) ve'
    · simp at hq; subst hq
      exact ownsRow_setCell_other (en' _ hlast) (kind (en' _ hlast) (by decide)) ve'
  · have := h.sx
    rw [List.pairwise_append] at this ⊢
    exact ⟨this.1, by simp, fun a ha b hb => by
      simp at hb; subst hb
      exact apart_new (hap a ha (f, ve, vd) (by simp)) (fun k hk => (World.ownsRow.lt (h.tx a (by simp [ha])) k hk).2) hl⟩
  · have := h.sn
    rw [List.pairwise_append] at this ⊢
    exact ⟨this.1, by simp, fun a ha b hb => by simp at hb; subst hb; exact this.2.2 a ha (f, ve, vd) (by simp)⟩
  · rcases List.mem_append.1 hq with hq | hq
    · exact h.bb q (by simp [hq])
    · simp at hq; subst hq
      have h0 := h.bb _ hlast
      refine ⟨fun p hp => ?_, fun p hp => ?_⟩
      · rcases List.mem_append.1 (show p ∈ f.ex ++ [x] from hp) with hp | hp
        · exact h0.1 p hp
        · simp at hp; subst hp; exact hb
      · rcases List.mem_append.1 (show p ∈ f.ex ++ [x] from hp) with hp | hp
        · exact h0.2 p hp
        · simp at hp; subst hp; exact hxl
end Go.Proofs.Ytonheibhbilhhaa.desc

/- desc: what isPart, faceOf and endOf answer. -/
namespace Go.Proofs.Ytonheibhbilhhaa.desc
open Go.RowKit Go.PlainAid Go.Proofs.Ytonheibhbilhhaa.lane
set_option linter.unusedVariables false
set_option linter.unusedSimpArgs false

set_option maxHeartbeats 400000 in
theorem isPart_any (p : List Int) (n : Nat) (k : Int) (w : World) (hb : Byt p) (hl : p.length ≤ 512) (hn : 2 ≤ n) (hn2 : n ≤ 512) (k0 : 0 ≤ k) (k1 : k ≤ 255) :
    Calls Try.prog 106 #[.string (strOfNums p), .int .i64 (n : Int), .int .u8 k] w fun e w' => e = .returned (.bool (isP p n k)) ∧ w = w' := by
  have hz := str_size p
  have hbt := get_bt (strOfNums p)
  unfold isP
  by_cases h : p.length = n
  · rw [decide_eq_true h, Bool.true_and, ← getD_bt p hb 1 (by omega)]
    have e1 : (((strOfNums p).size : Int) == (n : Int)) = true := by simp; omega
    have h1 : 1 < (strOfNums p).size := by omega
    generalize strOfNums p = s at *
    clear hz h
    go_enter Try.func106, Try.ntmps106
    go_wp2
    go_ret
    exact ⟨rfl, rfl⟩
  · rw [decide_eq_false h, Bool.false_and]
    have e1 : (((strOfNums p).size : Int) == (n : Int)) = false := by simp; omega
    have h1 : (strOfNums p).size ≤ 512 := by omega
    generalize strOfNums p = s at *
    clear hz h
    go_enter Try.func106, Try.ntmps106
    go_wp2
    go_ret
    exact ⟨rfl, rfl⟩
theorem getD_all (p : List Int) (hb : Byt p) (n : Nat) (h : p.length = n) : ∀ k, k < n → bt (strOfNums p) k = p.getD k 0 := fun k hk => getD_bt p hb k (by omega)
set_option maxHeartbeats 1000000 in
theorem faceOf_any (p : List Int) (w : World) (hb : Byt p) (hl : p.length = 9) :
    Calls Try.prog 107 #[.string (strOfNums p)] w fun e w' => e = .returned (fcV (faceO p) (.slice none 0 0) (.slice none 0 0)) ∧ Below w.heap.size w w' := by
  have hz := str_size p
  rw [hl] at hz
  have hbt := get_bt (strOfNums p)
  unfold faceO
  rw [← getD_all p hb 9 hl 5 (by omega), ← getD_all p hb 9 hl 6 (by omega), ← getD_all p hb 9 hl 7 (by omega), ← getD_all p hb 9 hl 8 (by omega)]
  generalize strOfNums p = s at *
  have b5 := bt_nonneg s 5
  have b6 := bt_nonneg s 6
  have b7 := bt_nonneg s 7
  have b8 := bt_nonneg s 8
  have d5 := bt_le s 5
  have d6 := bt_le s 6
  have d7 := bt_le s 7
  have d8 := bt_le s 8
  have hzi : (s.size : Int) = 9 := by omega
  clear hl hb
  go_enter Try.func107, Try.ntmps107
  go_wp2_with fail
  go_region
  all_goals go_wp2
  all_goals exact bodyPost_ret (v := fcV ⟨bt s 5, bt s 6, bt s 7, bt s 8, [], []⟩ (.slice none 0 0) (.slice none 0 0)) (by simp [results, Try.results107, go_sem]) rfl ⟨rfl, (balloc w _).drew⟩
theorem andNot_all : ∀ n : Fin 256, bits BinOp.andNot IntKind.u8 (n.val : Int) 128 = (n.val : Int) % 128 := by decide +kernel
theorem and128_all : ∀ n : Fin 256, (bits BinOp.and IntKind.u8 (n.val : Int) 128 != 0) = decide (128 ≤ (n.val : Int)) := by decide +kernel
theorem andNot_is (x : Int) (h0 : 0 ≤ x) (h1 : x ≤ 255) : bits BinOp.andNot IntKind.u8 x 128 = x % 128 := by
  have := andNot_all ⟨x.toNat, by omega⟩
  simp only at this
  rwa [show (x.toNat : Int) = x by omega] at this
theorem and128_is (x : Int) (h0 : 0 ≤ x) (h1 : x ≤ 255) : (bits BinOp.and IntKind.u8 x 128 != 0) = decide (128 ≤ x) := by
  have := and128_all ⟨x.toNat, by omega⟩
  simp only at this
  rwa [show (x.toNat : Int) = x by omega] at this
theorem ready_at {md : Region.Mode} {ops : Array Oper} {L : Array Bool} {k : Nat} (h : k ∈ Region.ready md ops L) : L.getD k false = false ∧ k < L.size := by
  have h0 := (mem_ready.1 h).1
  rcases Nat.lt_or_ge k L.size with h' | h'
  · refine ⟨?_, h'⟩
    simp [h'] at h0 ⊢
    exact h0
  · simp [Array.getElem?_eq_none h'] at h0
theorem set_at18 {L : Array Bool} {k : Nat} (h : k < L.size) : (L.setIfInBounds k true).getD k false = true := by
  simp [h]
set_option maxHeartbeats 1000000 in
theorem endOf_any (p : List Int) (w : World) (hb : Byt p) (hl : p.length = 7) :
    Calls Try.prog 108 #[.string (strOfNums p)] w fun e w' => e = .returned (evV (endO p)) ∧ Below w.heap.size w w' := by
  have hz := str_size p
  rw [hl] at hz
  have hbt := get_bt (strOfNums p)
  have hw : wdOf ((strOfNums p).extract 4 (strOfNums p).size) = p.getD 4 0 + 256 * p.getD 5 0 := by
    unfold wdOf
    rw [bt_extract _ 4 0 (by omega), bt_extract _ 4 1 (by omega), getD_all p hb 7 hl 4 (by omega), getD_all p hb 7 hl 5 (by omega)]
  unfold endO
  rw [← hw, ← getD_all p hb 7 hl 2 (by omega), ← getD_all p hb 7 hl 3 (by omega), ← getD_all p hb 7 hl 6 (by omega)]
  have hsl : ∀ W : World, (Instr.slice 9 (.string (strOfNums p)) (some (.int .i64 4)) none none).run Try.prog W = .ok (.string ((strOfNums p).extract 4 (strOfNums p).size)) W := fun W => by
    have := run_slice_string_l (P := Try.prog) (w := W) 9 (strOfNums p) Try.underlying9 .i64 (4 : Int) (by omega) (by omega)
    exact this
  have hxz : 2 ≤ ((strOfNums p).extract 4 (strOfNums p).size).size := by rw [ByteArray.size_extract]; omega
  generalize strOfNums p = s at *
  have HW : Hid (∀ w : World, Calls Try.prog 89 #[.string (s.extract 4 s.size)] w fun e w' => e = .returned (.int .i64 (wdOf (s.extract 4 s.size))) ∧ ∃ q, w' = w.drewN q) := fun w => word_any _ w hxz
  generalize wdOf (s.extract 4 s.size) = N at *
  generalize s.extract 4 s.size = s4 at *
  have b2 := bt_nonneg s 2
  have b3 := bt_nonneg s 3
  have b6 := bt_nonneg s 6
  have d2 := bt_le s 2
  have d3 := bt_le s 3
  have d6 := bt_le s 6
  have e1 := andNot_is (bt s 2) b2 d2
  have e2 := and128_is (bt s 2) b2 d2
  have x2 : ∀ W : World, (Instr.index 9 (.string s) (.int .i64 2)).run Try.prog W = .ok (.int .u8 (bt s 2)) W := run_ix s 2 (by omega)
  have x3 : ∀ W : World, (Instr.index 9 (.string s) (.int .i64 3)).run Try.prog W = .ok (.int .u8 (bt s 3)) W := run_ix s 3 (by omega)
  have x6 : ∀ W : World, (Instr.index 9 (.string s) (.int .i64 6)).run Try.prog W = .ok (.int .u8 (bt s 6)) W := run_ix s 6 (by omega)
  have m2 : IntKind.i64.wrap (bt s 2 % 128) = bt s 2 % 128 := by rw [IntKind.wrap_i64]; omega
  have m3 : IntKind.i64.wrap (bt s 3) = bt s 3 := by rw [IntKind.wrap_i64]; omega
  have m6 : IntKind.i64.wrap (bt s 6) = bt s 6 := by rw [IntKind.wrap_i64]; omega
  clear hl hb hw hxz hbt hz
  go_enter Try.func108, Try.ntmps108
  go_wp2_with fail
  obtain ⟨W0, hW0⟩ : ∃ W0, (w.alloc (.cells #[.int .i64 0, .bool false, .int .i64 0, .int .i64 0, .int .i64 0] 85)) = W0 := ⟨_, rfl⟩
  obtain ⟨W2, hW2⟩ : ∃ W2, (w.alloc (.cells #[.int .i64 (bt s 2 % 128), .bool (decide (128 ≤ bt s 2)), .int .i64 (bt s 3), .int .i64 N, .int .i64 (bt s 6)] 85)) = W2 := ⟨_, rfl⟩
  rw [hW0]
  refine wp_region_L (St fun L => if L.getD 18 false = true then some W2 else some W0) (by kernel_rfl) (by kernel_rfl) ⟨W0, 1, rfl, rfl⟩ ?_
  have hst : ∀ k, k ≠ 18 → ∀ L : Array Bool, (L.setIfInBounds k true).getD 18 false = L.getD 18 false := fun k hk L => getD_set_ne false hk
  refine lex_plain (.string s) (fun L => by simp only [hst 0 (by decide)]) rfl (fun W => by simp [execOp, go_sem]) ?_
  refine lex_plain (.int .u8 (bt s 2)) (fun L => by simp only [hst 1 (by decide)]) rfl (fun W => by simp [execOp, go_sem, x2]) ?_
  refine lex_plain (.int .u8 (bt s 2 % 128)) (fun L => by simp only [hst 2 (by decide)]) rfl (fun W => by simp [execOp, go_sem, e1]) ?_
  refine lex_plain (.int .i64 (bt s 2 % 128)) (fun L => by simp only [hst 3 (by decide)]) rfl (fun W => by simp [execOp, go_sem, m2]) ?_
  refine lex_plain (.string s) (fun L => by simp only [hst 4 (by decide)]) rfl (fun W => by simp [execOp, go_sem]) ?_
  refine lex_plain (.int .u8 (bt s 2)) (fun L => by simp only [hst 5 (by decide)]) rfl (fun W => by simp [execOp, go_sem, x2]) ?_
  refine lex_plain (.int .u8 (bits BinOp.and IntKind.u8 (bt s 2) 128)) (fun L => by simp only [hst 6 (by decide)]) rfl (fun W => by simp [execOp, go_sem]) ?_
  refine lex_plain (.bool (decide (128 ≤ bt s 2))) (fun L => by simp only [hst 7 (by decide)]) rfl (fun W => by simp [execOp, go_sem, e2]) ?_
  refine lex_plain (.string s) (fun L => by simp only [hst 8 (by decide)]) rfl (fun W => by simp [execOp, go_sem]) ?_
  refine lex_plain (.int .u8 (bt s 3)) (fun L => by simp only [hst 9 (by decide)]) rfl (fun W => by simp [execOp, go_sem, x3]) ?_
  refine lex_plain (.int .i64 (bt s 3)) (fun L => by simp only [hst 10 (by decide)]) rfl (fun W => by simp [execOp, go_sem, m3]) ?_
  refine lex_plain (.string s) (fun L => by simp only [hst 11 (by decide)]) rfl (fun W => by simp [execOp, go_sem]) ?_
  refine lex_plain (.string s4) (fun L => by simp only [hst 12 (by decide)]) rfl (fun W => by simp [execOp, go_sem, hsl]) ?_
  refine lex_call (.int .i64 N) 89 #[.string s4] (fun L => by simp only [hst 13 (by decide)]) rfl (fun W => by simp [execOp, go_sem]) HW.out ?_
  refine lex_plain (.string s) (fun L => by simp only [hst 14 (by decide)]) rfl (fun W => by simp [execOp, go_sem]) ?_
  refine lex_plain (.int .u8 (bt s 6)) (fun L => by simp only [hst 15 (by decide)]) rfl (fun W => by simp [execOp, go_sem, x6]) ?_
  refine lex_plain (.int .i64 (bt s 6)) (fun L => by simp only [hst 16 (by decide)]) rfl (fun W => by simp [execOp, go_sem, m6]) ?_
  refine lex_plain (.agg #[.int .i64 (bt s 2 % 128), .bool (decide (128 ≤ bt s 2)), .int .i64 (bt s 3), .int .i64 N, .int .i64 (bt s 6)]) (fun L => by simp only [hst 17 (by decide)]) rfl (fun W => by simp [execOp, go_sem]) ?_
  refine lex_turn undef rfl (fun L W n hr hs => ?_) ?_
  · obtain ⟨h18, hz18⟩ := ready_at hr
    simp only [h18] at hs
    refine ⟨_, by simp only [set_at18 hz18]; rfl, .inr ⟨?_, rfl⟩⟩
    simp at hs
    subst hs
    subst hW2 hW0
    simp [execOp, go_sem]
    simp only [set_drewN]
    simp [go_sem]
  · intro w' hw'
    obtain ⟨W, n, hs, rfl⟩ := hw'
    have hs2 : some W2 = some W := hs
    injection hs2 with hs2
    subst hs2
    subst hW2 hW0
    go_wp2
    exact bodyPost_ret (v := evV ⟨bt s 2 % 128, decide (128 ≤ bt s 2), bt s 3, N, bt s 6⟩) (by simp [results, Try.results108, go_sem]) rfl ⟨rfl, below_drewN (balloc w _) _⟩
end Go.Proofs.Ytonheibhbilhhaa.desc
