/- pipe: texts in memory: slices that are read, rows of one's own; the box of a pipe. -/
import Derived.Test.YtecknicmonhcaabDoorRows
import Derived.Test.YtecknicmonhcaabDoorPipM
import Derived.WalkKit
import Derived.Handy
import Derived.Below
import Derived.OwnWalk
import Derived.Laws.AppendOwn
import Derived.Laws.OwnMore
import Derived.Deep.AppendLies
import Derived.Deep.RegionLaw
import Derived.OneCell
import Derived.WalkSmall
import Derived.RegionTactic
import Derived.WalkLawsBesides
import Derived.Deep.Cut
import Derived.MapKept
import Derived.Lib.OwnKind
namespace Go.Proofs.YtecknicmonhcaabDoor.pipe
open Go.RowKit
set_option linter.unusedVariables false
set_option linter.unusedSimpArgs false
set_option maxRecDepth 100000

theorem bsq {w w1 w2 : World} (h1 : Below w.heap.size w w1) (h2 : Below w1.heap.size w1 w2) : Below w.heap.size w w2 := h1.trans (h2.mono h1.size)
theorem balloc (w : World) (o : Obj) : Below w.heap.size w (w.alloc o) := (Below.refl _ _).alloc (Nat.le_refl _) _
theorem grown_below {w u : World} (hb : Below w.heap.size w u) : w.grownBy u none := ⟨hb.os, hb.tape, hb.output, hb.size, fun k hk _ => hb.block k hk⟩
theorem own_below {w u : World} {B : Nat} {e : TypeId} {s : Nat} {v : Value} {n : Nat} {xs : List Value} (h : w.ownsRow B e s v n xs) (hb : Below w.heap.size w u) : u.ownsRow B e s v n xs := by
  cases hv : v.ownBlock with
  | none => exact World.ownsRow.kept h (grown_below hb) (.inl hv)
  | some k => exact World.ownsRow.kept h (grown_below hb) (.inr (by rw [hv]; simp))
theorem own_block {w : World} {B : Nat} {e : TypeId} {s : Nat} {v : Value} {n : Nat} {xs : List Value} (h : w.ownsRow B e s v n xs) : ∀ k, v.ownBlock = some k → B ≤ k := fun k hk => (World.ownsRow.lt h k hk).1
theorem keep {w u : World} {X : Nat} {o : Obj} (h : w.heap[X]? = some o) (hb : Below w.heap.size w u) : u.heap[X]? = some o := (hb.block X (Array.getElem?_eq_some_iff.1 h).1).trans h
/-- a row of another kind than block X -/
theorem box_ne {w : World} {B : Nat} {e T : TypeId} {s : Nat} {v : Value} {n : Nat} {xs : List Value} {X : Nat} {cs : Array Value} {fr : Nat × Nat} (h : w.ownsRow B e s v n xs) (hX : w.heap[X]? = some (.cells cs T fr)) (he : e ≠ T) : v.ownBlock ≠ some X := by
  intro q
  obtain ⟨c, fz, h1⟩ := Lib.ownsRow_kind h X q
  rw [hX] at h1
  injection h1 with h1
  injection h1 with _ h1 _
  exact he h1.symm
theorem infoS : (Tryd.prog.info? 9).map (fun i => (i.zero, i.size, i.bytes)) = some (some (.string ⟨#[]⟩), 1, 16) := by kernel_rfl
def scells (l : List ByteArray) : List Value := l.map .string
theorem scells_length (l : List ByteArray) : (scells l).length = l.length := List.length_map ..
theorem scells_at {l : List ByteArray} {j : Nat} {x : ByteArray} (h : l[j]? = some x) : (scells l)[j]? = some (.string x) := by simp [scells, h]
theorem scells_one (l : List ByteArray) : ∀ u ∈ scells l, u.oneCell' = true := by
  intro u hu
  obtain ⟨p, _, rfl⟩ := List.mem_map.1 hu
  rfl
/-- the value v owns these texts, in a block from B on -/
def Txs (w : World) (B : Nat) (v : Value) (l : List ByteArray) : Prop := w.ownsRow B 9 1 v l.length (scells l)
theorem Txs.nil (w : World) (B : Nat) : Txs w B (.slice none 0 0) [] := ⟨rfl, .inl ⟨rfl, rfl⟩⟩
theorem Txs.below {w u : World} {B : Nat} {v : Value} {l : List ByteArray} (h : Txs w B v l) (hb : Below w.heap.size w u) : Txs u B v l := own_below h hb
theorem Txs.form {w : World} {B : Nat} {v : Value} {l : List ByteArray} (h : Txs w B v l) : ∃ a c, v = .slice a l.length c ∧ l.length ≤ c ∧ c ≤ maxLen := by
  rcases h.2 with ⟨rfl, h0⟩ | ⟨g, cap, cur, rfl, hb, hg, hn, hm, _⟩
  · exact ⟨none, 0, by rw [h0], by omega, Nat.zero_le _⟩
  · exact ⟨_, _, rfl, hn, hm⟩
/-- a slice that reads as these texts -/
def Rts (w : World) (v : Value) (l : List ByteArray) : Prop :=
  ∃ a c, v = .slice a l.length c ∧ l.length ≤ c ∧ c ≤ maxLen ∧ (0 < l.length → ∃ g off, a = some ⟨g, off, none⟩ ∧ g < w.heap.size ∧ ∀ j x, l[j]? = some x → w.cell? ⟨g, off + j, none⟩ = some (.string x))
theorem Rts.nil (w : World) : Rts w (.slice none 0 0) [] := ⟨none, 0, rfl, Nat.le_refl _, Nat.zero_le _, fun h => by simp at h⟩
theorem Rts.below {w u : World} {v : Value} {l : List ByteArray} (h : Rts w v l) (hb : Below w.heap.size w u) : Rts u v l := by
  obtain ⟨a, c, hv, h1, h2, h4⟩ := h
  refine ⟨a, c, hv, h1, h2, fun hn => ?_⟩
  obtain ⟨g, off, ha, hg, hc⟩ := h4 hn
  exact ⟨g, off, ha, Nat.lt_of_lt_of_le hg hb.size, fun j x hx => (hb.cell (p := ⟨g, off + j, none⟩) hg).trans (hc j x hx)⟩
/-- the part of it from k on, and the part up to k -/
theorem Rts.cell {w : World} {v : Value} {l : List ByteArray} (h : Rts w v l) : ∃ a c, v = .slice a l.length c ∧ l.length ≤ c ∧ c ≤ maxLen ∧
    ∀ j x, l[j]? = some x → ∃ g off, a = some ⟨g, off, none⟩ ∧ w.cell? ⟨g, off + j, none⟩ = some (.string x) := by
  obtain ⟨a, c, hv, h1, h2, h4⟩ := h
  refine ⟨a, c, hv, h1, h2, fun j p hj => ?_⟩
  have hl := (List.getElem?_eq_some_iff.1 hj).1
  obtain ⟨g, off, ha, hg, hc⟩ := h4 (by omega)
  exact ⟨g, off, ha, hc j _ hj⟩
/-- a slice that reads as these texts, with all its room in a block of which p holds -/
def Ow (p : Nat → Prop) (w : World) (v : Value) (l : List ByteArray) : Prop :=
  ∃ a c, v = .slice a l.length c ∧ l.length ≤ c ∧ c ≤ maxLen ∧ (0 < c → ∃ g off, a = some ⟨g, off, none⟩ ∧ p g ∧ g < w.heap.size ∧ (∀ j x, l[j]? = some x → w.cell? ⟨g, off + j, none⟩ = some (.string x)) ∧
    ∀ j, j < c → (∃ x, w.cell? ⟨g, off + j, none⟩ = some x) ∧ w.frozen? ⟨g, off + j, none⟩ = false)
theorem Ow.nil (p : Nat → Prop) (w : World) : Ow p w (.slice none 0 0) [] := ⟨none, 0, rfl, Nat.le_refl _, Nat.zero_le _, fun h => by omega⟩
theorem Ow.mono {p p' : Nat → Prop} {w : World} {v : Value} {l : List ByteArray} (h : Ow p w v l) (hp : ∀ g, p g → g < w.heap.size → p' g) : Ow p' w v l := by
  obtain ⟨a, c, hv, h1, h2, h4⟩ := h
  refine ⟨a, c, hv, h1, h2, fun hn => ?_⟩
  obtain ⟨g, off, ha, hq, hg, hc⟩ := h4 hn
  exact ⟨g, off, ha, hp g hq hg, hg, hc⟩
theorem Ow.kept {p : Nat → Prop} {w u : World} {v : Value} {l : List ByteArray} (h : Ow p w v l) (hs : w.heap.size ≤ u.heap.size) (hk : ∀ g, p g → g < w.heap.size → u.heap[g]? = w.heap[g]?) : Ow p u v l := by
  obtain ⟨a, c, hv, h1, h2, h4⟩ := h
  refine ⟨a, c, hv, h1, h2, fun hn => ?_⟩
  obtain ⟨g, off, ha, hq, hg, hc, hr⟩ := h4 hn
  have hcell : ∀ j, u.cell? ⟨g, j, none⟩ = w.cell? ⟨g, j, none⟩ := fun j => World.cell?_of_block (a := ⟨g, j, none⟩) (hk g hq hg)
  have hfr : ∀ j, u.frozen? ⟨g, j, none⟩ = w.frozen? ⟨g, j, none⟩ := fun j => World.frozen?_of_block (a := ⟨g, j, none⟩) (hk g hq hg)
  exact ⟨g, off, ha, hq, Nat.lt_of_lt_of_le hg hs, fun j x hx => (hcell _).trans (hc j x hx), fun j hj => by rw [hcell, hfr]; exact hr j hj⟩
theorem Ow.below {p : Nat → Prop} {w u : World} {v : Value} {l : List ByteArray} (h : Ow p w v l) (hb : Below w.heap.size w u) : Ow p u v l := h.kept hb.size fun g _ hg => hb.block g hg
theorem Ow.rts {p : Nat → Prop} {w : World} {v : Value} {l : List ByteArray} (h : Ow p w v l) : Rts w v l := by
  obtain ⟨a, c, hv, h1, h2, h4⟩ := h
  refine ⟨a, c, hv, h1, h2, fun hn => ?_⟩
  obtain ⟨g, off, ha, hq, hg, hc, hr⟩ := h4 (by omega)
  exact ⟨g, off, ha, hg, hc⟩
theorem Txs.ow {w : World} {B : Nat} {v : Value} {l : List ByteArray} (h : Txs w B v l) : Ow (fun g => v.ownBlock = some g ∧ B ≤ g) w v l := by
  have h' := h
  rcases h.2 with ⟨rfl, h0⟩ | ⟨g, cap, cur, rfl, hB, hg, hnc, hcm, hs, ht⟩
  · rw [List.eq_nil_of_length_eq_zero h0]; exact Ow.nil _ _
  · refine ⟨_, cap, rfl, hnc, hcm, fun _ => ⟨g, 0, rfl, ⟨rfl, hB⟩, (Array.getElem?_eq_some_iff.1 hg).1, fun j x hx => ?_, fun j hj => ⟨?_, ?_⟩⟩⟩
    · have hj := (List.getElem?_eq_some_iff.1 hx).1
      rw [Nat.zero_add, World.ownsRow.cellAt h' j (by omega)]
      exact scells_at hx
    · rw [Nat.zero_add, cell_of_row w g j cur _ (0, 0) hg]
      exact ⟨_, Array.getElem?_eq_getElem (by omega)⟩
    · exact frozen_of_row w g _ cur _ hg
theorem Txs.rts {w : World} {B : Nat} {v : Value} {l : List ByteArray} (h : Txs w B v l) : Rts w v l := h.ow.rts
/-- the rest of it -/
theorem Ow.rest {p : Nat → Prop} {w : World} {a : Option Addr} {n c : Nat} {x : ByteArray} {r : List ByteArray} (h : Ow p w (.slice a n c) (x :: r)) :
    ∃ g off, a = some ⟨g, off, none⟩ ∧ n = r.length + 1 ∧ n ≤ c ∧ c ≤ maxLen ∧ p g ∧ g < w.heap.size ∧ w.cell? ⟨g, off, none⟩ = some (.string x) ∧ ∃ a1, (∀ W : World, (Instr.slice 22 (.slice a n c) (some (.int .i64 1)) none none).run Tryd.prog W = .ok (.slice a1 r.length (c - 1)) W) ∧ ∀ u : World, u.heap[g]? = w.heap[g]? → g < u.heap.size → Ow p u (.slice a1 r.length (c - 1)) r := by
  obtain ⟨a', c', hv, h1, h2, h4⟩ := h
  injection hv with e1 e2 e3
  subst e1 e2 e3
  simp only [List.length_cons] at *
  obtain ⟨g, off, rfl, hq, hg, hc, hr⟩ := h4 (by omega)
  have key : ∀ (a1 : Addr), (1 < c → a1 = ⟨g, off + 1, none⟩) → ∀ u : World, u.heap[g]? = w.heap[g]? → g < u.heap.size → Ow p u (.slice (some a1) r.length (c - 1)) r := by
    intro a1 h1' u hu hgu
    refine ⟨some a1, c - 1, rfl, by omega, by omega, fun hn => ⟨g, off + 1, by rw [h1' (by omega)], hq, hgu, fun j y hy => ?_, fun j hj => ?_⟩⟩
    · rw [World.cell?_of_block (w := w) (a := ⟨g, off + 1 + j, none⟩) hu, show off + 1 + j = off + (j + 1) by omega]
      exact hc (j + 1) y (by simpa using hy)
    · rw [World.cell?_of_block (w := w) (a := ⟨g, off + 1 + j, none⟩) hu, World.frozen?_of_block (w := w) (a := ⟨g, off + 1 + j, none⟩) hu, show off + 1 + j = off + (j + 1) by omega]
      exact hr (j + 1) (by omega)
  refine ⟨g, off, rfl, trivial, h1, h2, hq, hg, by simpa using hc 0 x rfl, ?_⟩
  by_cases h : c = 1
  · refine ⟨some ⟨g, off, none⟩, fun W => ?_, key _ (fun q => by omega)⟩
    have := run_slice_l (P := Tryd.prog) (w := W) 22 (some ⟨g, off, none⟩) (r.length + 1) c Tryd.underlying22 .i64 1 (by omega) (by omega)
    simp [this, go_sem, sliced]
    subst h
    simp
  · refine ⟨some ⟨g, off + 1, none⟩, fun W => ?_, key _ (fun _ => rfl)⟩
    have := run_slice_l (P := Tryd.prog) (w := W) 22 (some ⟨g, off, none⟩) (r.length + 1) c Tryd.underlying22 .i64 1 (by omega) (by omega)
    simp [this, go_sem, sliced]
    exact h
theorem run_append_nothing {P : Program} {w : World} (base : Nat) (t ty e : TypeId) (i : TypeInfo) (size : Nat) (ht : P.underlying t = some (.slice e)) (hi : P.info? e = some i)
    (v : Value) (n : Nat) (xs : List Value) (hown : w.ownsRow base e size v n xs) (c : Nat) : (Builtin.append_ #[t, t] ty #[v, .slice none 0 c]).run P w = .ok v w := by
  rcases hown.2 with ⟨rfl, rfl⟩ | ⟨g, cap, cur, rfl, _, _, hnc, _⟩
  · simp [Builtin.append_, run_underlying ht, sizeOf, typeInfo, hi, Builtin.lenOf, Builtin.firstCells]
  · simp [Builtin.append_, run_underlying ht, sizeOf, typeInfo, hi, Builtin.lenOf, Builtin.firstCells, hnc, storeCells]
/-- texts behind texts -/
theorem wpList_txt {ops : Array Oper} {rest : List Oper} {o : Oper} {a : Act} {Q : Exit → Act → World → Prop} (w : World) (hgd : o.guard = none) (s x : Operand)
    (ho : o.op = .call { callee := .builtin .append, args := #[s, x], argTypes := #[22, 22] }) (B : Nat) (v : Value) (acc : List ByteArray) (hs : a.eval s = v) (h : Txs w B v acc)
    (vx : Value) (es : List ByteArray) (hx : a.eval x = vx) (hr : Rts w vx es) (hl : acc.length + es.length ≤ 8796093021952) (hB : B ≤ w.heap.size)
    (hK : ∀ v' w', Txs w' B v' (acc ++ es) → Below B w w' → wpList Tryd.prog ops Q rest (a.put o.dst v') w') : wpList Tryd.prog ops Q (o :: rest) a w := by
  refine wpList_plain hgd fun K hK' => ?_
  obtain ⟨i0, hi, hz0, hz1, hz2⟩ := info_parts infoS
  obtain ⟨ax, cx, rfl, h1, h2, h4⟩ := hr
  cases ax with
  | none =>
    have h0 : es.length = 0 := by
      rcases Nat.eq_zero_or_pos es.length with q | q
      · exact q
      · obtain ⟨g, off, q1, _⟩ := h4 q; cases q1
    have hes : es = [] := List.eq_nil_of_length_eq_zero h0
    subst hes
    have hrun := run_append_nothing (P := Tryd.prog) (w := w) B 22 o.type 9 i0 1 Tryd.underlying22 hi v acc.length (scells acc) h cx
    simp only [List.length_nil] at hx
    have hk := hK' _ _ (hK v w (by rw [List.append_nil]; exact h) (Below.refl _ _))
    unfold Oper.wp
    simp [execOp, ho, resolve, invoke, builtin, hs, hx, hrun, Result.andThen]
    exact hk
  | some ad =>
    refine wp_append_own w s x 22 ho B 9 i0 _ 1 16 Tryd.underlying22 hi hz0 hz1 hz2 rfl (by omega) v acc.length (scells acc) hs h ad es.length cx (scells es) hx (by rw [scells_length]; omega) ?_ (scells_one es) (by unfold maxLen; omega) (by omega) hB ?_
    · intro j u hj
      have hlt := (List.getElem?_eq_some_iff.1 hj).1
      rw [scells_length] at hlt
      obtain ⟨g, off, q1, hg, hc⟩ := h4 (by omega)
      injection q1 with q1
      subst q1
      rw [Addr.add_lit]
      have hu : u = .string es[j] := by
        rw [scells_at (List.getElem?_eq_getElem hlt)] at hj
        injection hj with hj
        exact hj.symm
      rw [hu]
      exact hc j _ (List.getElem?_eq_getElem hlt)
    · intro v' w' h1 h2 _
      refine hK' _ _ (hK v' w' ?_ ((Below.refl _ _).grown h2 hB (own_block h)))
      unfold Txs
      rw [List.length_append, show scells (acc ++ es) = scells acc ++ scells es by simp [scells]]
      exact h1
theorem toList_beq (s t : ByteArray) : (s.toList == t.toList) = decide (s = t) := by
  rw [ByteArray.toList_eq, ByteArray.toList_eq]
  by_cases h : s = t
  · subst h; simp
  · rw [decide_eq_false h, beq_eq_false_iff_ne]
    intro q
    apply h
    apply ByteArray.ext
    exact Array.toList_inj.1 q
theorem toList_bne (s t : ByteArray) : (s.toList != t.toList) = !decide (s = t) := by
  unfold bne; rw [toList_beq]
theorem below_drewN {B : Nat} {a w : World} (h : Below B a w) (n : Nat) : Below B a (w.drewN n) := ⟨h.os, h.tape, h.output, h.size, h.block⟩

set_option maxHeartbeats 2000000 in
theorem equalT_drew (v1 v2 : Value) (ps qs : List ByteArray) (w : World) (h1 : Rts w v1 ps) (h2 : Rts w v2 qs) :
    Calls Tryd.prog 10 #[v1, v2] w fun e w' => e = .returned (.bool (decide (ps = qs))) ∧ ∃ m, w' = w.drewN m := by
  obtain ⟨a, c, rfl, hlc, hcm, hc⟩ := h1.cell
  obtain ⟨b, d, rfl, hld, hdm, hd⟩ := h2.cell
  have HA : Hid (∀ j p, ps[j]? = some p → ∃ g off, a = some ⟨g, off, none⟩ ∧ w.cell? ⟨g, off + j, none⟩ = some (.string p)) := hc
  have HB : Hid (∀ j p, qs[j]? = some p → ∃ g off, b = some ⟨g, off, none⟩ ∧ w.cell? ⟨g, off + j, none⟩ = some (.string p)) := hd
  unfold maxLen at hcm hdm
  clear h1 h2 hc hd
  by_cases hlen : ps.length = qs.length
  · have HL : Hid (ps.length = qs.length) := hlen
    obtain ⟨n, hn⟩ : ∃ n, ps.length = n := ⟨_, rfl⟩
    have hm : qs.length = n := by omega
    have HN : Hid (ps.length = n) := hn
    have HM : Hid (qs.length = n) := hm
    rw [hn] at hlc
    rw [hm] at hld
    rw [hn, hm]
    clear hn hm hlen
    go_enter Tryd.func10, Tryd.ntmps10
    go_wp2
    go_loopw [13] (fun i wr => ∃ (k q : Nat), k ≤ n ∧ i = .int .i64 (k : Int) ∧ wr = w.drewN q ∧ Hid (decide (ps.drop k = qs.drop k) = decide (ps = qs))) (fun i _ => n - (intOf i).toNat)
    case atStart => exact ⟨0, 0, Nat.zero_le _, rfl, rfl, rfl⟩
    case round =>
      obtain ⟨k, q, hk, rfl, rfl, HR⟩ := hrel
      by_cases hlt : k < n
      · have hk1 : k < ps.length := by have := HN.out; omega
        have hk2 : k < qs.length := by have := HM.out; omega
        obtain ⟨g, off, rfl, c1⟩ := HA.out k ps[k] (List.getElem?_eq_getElem hk1)
        obtain ⟨g', off', rfl, d1⟩ := HB.out k qs[k] (List.getElem?_eq_getElem hk2)
        have hR := HR.out
        rw [List.drop_eq_getElem_cons hk1, List.drop_eq_getElem_cons hk2] at hR
        generalize ps[k] = x at c1 hR
        generalize qs[k] = y at d1 hR
        by_cases hxy : x = y
        · subst hxy
          have HR2 : Hid (decide (ps.drop (k + 1) = qs.drop (k + 1)) = decide (ps = qs)) := by
            show _ = _
            rw [← hR]; simp
          have hneq := toList_bne x x
          rw [decide_eq_true rfl] at hneq
          clear HA HB HL HN HM HR hR
          go_wp2
          go_region
          go_wp2
          go_roundw
          case rel => exact ⟨k + 1, q + _, by omega, by go_num, rfl, HR2.out⟩
          case measure => simp [intOf]; omega
        · have HR2 : Hid (false = decide (ps = qs)) := by
            show _ = _
            rw [← hR]; symm; rw [decide_eq_false_iff_not]
            intro h; exact hxy (by injection h)
          have hneq := toList_beq x y
          rw [decide_eq_false hxy] at hneq
          clear HA HB HL HN HM HR hR hxy
          go_wp2
          go_region
          go_wp2
          go_ret
          rw [← HR2.out]
          exact ⟨rfl, _, rfl⟩
      · have hR := HR.out
        rw [List.drop_eq_nil_of_le (by have := HN.out; omega), List.drop_eq_nil_of_le (by have := HM.out; omega)] at hR
        have HR2 : Hid (true = decide (ps = qs)) := by show _ = _; rw [← hR]; simp
        clear HA HB HL HN HM HR hR
        go_wp2
        go_ret
        rw [← HR2.out]
        exact ⟨rfl, _, rfl⟩
  · have e : decide (ps = qs) = false := by rw [decide_eq_false_iff_not]; intro h; exact hlen (by rw [h])
    rw [e]
    have hne : ((ps.length : Int) != (qs.length : Int)) = true := by rw [bne_iff_ne]; omega
    generalize ps.length = n at *
    generalize qs.length = m at *
    clear HA HB e hlen
    go_enter Tryd.func10, Tryd.ntmps10
    go_wp2
    go_ret
    exact ⟨rfl, 0, rfl⟩
theorem equalT_any (v1 v2 : Value) (ps qs : List ByteArray) (w : World) (h1 : Rts w v1 ps) (h2 : Rts w v2 qs) :
    Calls Tryd.prog 10 #[v1, v2] w fun e w' => e = .returned (.bool (decide (ps = qs))) ∧ Below w.heap.size w w' :=
  (equalT_drew v1 v2 ps qs w h1 h2).mono fun e w' ⟨he, m, hm⟩ => ⟨he, by rw [hm]; exact below_drewN (Below.refl _ _) _⟩
end Go.Proofs.YtecknicmonhcaabDoor.pipe
