/- route: slices of numbers in memory that are read, rows of numbers of the call's own; slices.Equal. -/
import Derived.Test.YtemlafdmeaobfabRows
import Derived.Test.YtemlafdmeaobfabRouM
import Derived.WalkKit
import Derived.Handy
import Derived.Below
import Derived.OwnWalk
import Derived.Laws.AppendOwn
import Derived.Laws.OwnMore
import Derived.Laws.MakeOwn
import Derived.Deep.AppendLies
import Derived.Deep.DeepAppendWide
import Derived.Lib.SliceRun
import Derived.Lib.OwnKind
import Derived.OneCell
import Derived.WalkSmall
import Derived.RegionTactic
import Derived.BigQuiet
import Derived.Shelf.Abstract
import Derived.Deep.CutRange
namespace Go.Proofs.Ytemlafdmeaobfab.route
open Go Go.RowKit
set_option linter.unusedVariables false
set_option linter.unusedSimpArgs false
set_option maxRecDepth 100000

theorem balloc (w : World) (o : Obj) : Below w.heap.size w (w.alloc o) := (Below.refl _ _).alloc (Nat.le_refl _) _
theorem below_drewN {b : Nat} {w u : World} (h : Below b w u) (m : Nat) : Below b w (u.drewN m) := ⟨h.os, h.tape, h.output, h.size, h.block⟩
theorem bsq {w u v : World} (h1 : Below w.heap.size w u) (h2 : Below u.heap.size u v) : Below w.heap.size w v := h1.trans (h2.mono h1.size)
/-- a slice that reads as these numbers -/
def Ris (w : World) (v : Value) (l : List Int) : Prop :=
  ∃ a c, v = .slice a l.length c ∧ l.length ≤ c ∧ c ≤ maxLen ∧ (0 < l.length → ∃ g off, a = some ⟨g, off, none⟩ ∧ g < w.heap.size ∧ ∀ j x, l[j]? = some x → w.cell? ⟨g, off + j, none⟩ = some (.int .i64 x))
theorem Ris.below {w u : World} {v : Value} {l : List Int} (h : Ris w v l) (hb : Below w.heap.size w u) : Ris u v l := by
  obtain ⟨a, c, hv, h1, h2, h4⟩ := h
  refine ⟨a, c, hv, h1, h2, fun hn => ?_⟩
  obtain ⟨g, off, ha, hg, hc⟩ := h4 hn
  exact ⟨g, off, ha, Nat.lt_of_lt_of_le hg hb.size, fun j x hx => (hb.cell (p := ⟨g, off + j, none⟩) hg).trans (hc j x hx)⟩
theorem Ris.form {w : World} {v : Value} {l : List Int} (h : Ris w v l) : ∃ a c, v = .slice a l.length c ∧ l.length ≤ c ∧ c ≤ maxLen := by
  obtain ⟨a, c, h, h1, h2, _⟩ := h; exact ⟨_, _, h, h1, h2⟩
theorem Ris.at {w : World} {a : Option Addr} {n c : Nat} {l : List Int} (h : Ris w (.slice a n c) l) (k : Nat) (x : Int) (hk : l[k]? = some x) : ∃ g off, a = some ⟨g, off, none⟩ ∧ w.cell? ⟨g, off + k, none⟩ = some (.int .i64 x) := by
  obtain ⟨a', c', hv, h1, h2, h4⟩ := h
  have hl := (List.getElem?_eq_some_iff.1 hk).1
  obtain ⟨g, off, ha, hg, hc⟩ := h4 (by omega)
  have : a = a' := by injection hv
  exact ⟨g, off, this.trans ha, hc k x hk⟩
theorem infoI : (Try.prog.info? 3).map (fun i => (i.zero, i.size, i.bytes)) = some (some (.int .i64 0), 1, 8) := by kernel_rfl
def icells (l : List Int) : List Value := l.map (Value.int .i64)
theorem icells_length (l : List Int) : (icells l).length = l.length := List.length_map ..
theorem icells_at {l : List Int} {j : Nat} {x : Int} (h : l[j]? = some x) : (icells l)[j]? = some (.int .i64 x) := by simp [icells, h]
/-- the value v owns these numbers, in a block from B on -/
def Iw (w : World) (B : Nat) (v : Value) (l : List Int) : Prop := w.ownsRow B 3 1 v l.length (icells l)
theorem Iw.nil (w : World) (B : Nat) : Iw w B (.slice none 0 0) [] := ⟨rfl, .inl ⟨rfl, rfl⟩⟩
theorem grown_below {w u : World} (hb : Below w.heap.size w u) : w.grownBy u none := ⟨hb.os, hb.tape, hb.output, hb.size, fun k hk _ => hb.block k hk⟩
theorem own_block {w : World} {B : Nat} {e : TypeId} {s : Nat} {v : Value} {n : Nat} {xs : List Value} (h : w.ownsRow B e s v n xs) : ∀ k, v.ownBlock = some k → B ≤ k := fun k hk => (World.ownsRow.lt h k hk).1
theorem Iw.below {w u : World} {B : Nat} {v : Value} {l : List Int} (h : Iw w B v l) (hb : Below w.heap.size w u) : Iw u B v l := by
  cases hv : v.ownBlock with
  | none => exact World.ownsRow.kept h (grown_below hb) (.inl hv)
  | some k => exact World.ownsRow.kept h (grown_below hb) (.inr (by rw [hv]; simp))
theorem Iw.ris {w : World} {B : Nat} {v : Value} {l : List Int} (h : Iw w B v l) : Ris w v l := by
  have h' := h
  rcases h.2 with ⟨rfl, h0⟩ | ⟨g, cap, cur, rfl, hB, hg, hnc, hcm, hs, ht⟩
  · exact ⟨none, 0, by rw [h0], by omega, Nat.zero_le _, fun q => by omega⟩
  · refine ⟨_, cap, rfl, hnc, hcm, fun _ => ⟨g, 0, rfl, (Array.getElem?_eq_some_iff.1 hg).1, fun j x hx => ?_⟩⟩
    have hj := (List.getElem?_eq_some_iff.1 hx).1
    rw [Nat.zero_add, World.ownsRow.cellAt h' j (by omega)]
    exact icells_at hx
theorem info_parts' {z : Value} {n b : Nat} {t : TypeId} (h : (Try.prog.info? t).map (fun i => (i.zero, i.size, i.bytes)) = some (some z, n, b)) : ∃ i, Try.prog.info? t = some i ∧ i.zero = some z ∧ i.size = n ∧ i.bytes = b := by
  cases hq : Try.prog.info? t with
  | none => simp [hq] at h
  | some i => simp [hq] at h; exact ⟨i, rfl, h.1, h.2.1, h.2.2⟩
theorem icells_one (l : List Int) : ∀ u ∈ icells l, u.oneCell' = true := by
  intro u hu
  obtain ⟨p, _, rfl⟩ := List.mem_map.1 hu
  rfl
theorem run_append_nothing {P : Program} {w : World} (base : Nat) (t ty e : TypeId) (i : TypeInfo) (size : Nat) (ht : P.underlying t = some (.slice e)) (hi : P.info? e = some i)
    (v : Value) (n : Nat) (xs : List Value) (hown : w.ownsRow base e size v n xs) (c : Nat) : (Builtin.append_ #[t, t] ty #[v, .slice none 0 c]).run P w = .ok v w := by
  rcases hown.2 with ⟨rfl, rfl⟩ | ⟨g, cap, cur, rfl, _, _, hnc, _⟩
  · simp [Builtin.append_, run_underlying ht, sizeOf, typeInfo, hi, Builtin.lenOf, Builtin.firstCells]
  · simp [Builtin.append_, run_underlying ht, sizeOf, typeInfo, hi, Builtin.lenOf, Builtin.firstCells, hnc, storeCells]
/-- numbers behind numbers -/
theorem wpList_ints {ops : Array Oper} {rest : List Oper} {o : Oper} {a : Act} {Q : Exit → Act → World → Prop} (w : World) (hgd : o.guard = none) (s x : Operand)
    (ho : o.op = .call { callee := .builtin .append, args := #[s, x], argTypes := #[23, 23] }) (B : Nat) (v : Value) (acc : List Int) (hs : a.eval s = v) (h : Iw w B v acc)
    (vx : Value) (es : List Int) (hx : a.eval x = vx) (hr : Ris w vx es) (hl : acc.length + es.length ≤ 17592186048000) (hB : B ≤ w.heap.size)
    (hK : ∀ v' w', Iw w' B v' (acc ++ es) → Below B w w' → wpList Try.prog ops Q rest (a.put o.dst v') w') : wpList Try.prog ops Q (o :: rest) a w := by
  refine wpList_plain hgd fun K hK' => ?_
  obtain ⟨i0, hi, hz0, hz1, hz2⟩ := info_parts' infoI
  obtain ⟨ax, cx, rfl, h1, h2, h4⟩ := hr
  cases ax with
  | none =>
    have h0 : es.length = 0 := by
      rcases Nat.eq_zero_or_pos es.length with q | q
      · exact q
      · obtain ⟨g, off, q1, _⟩ := h4 q; cases q1
    have hes : es = [] := List.eq_nil_of_length_eq_zero h0
    subst hes
    have hrun := run_append_nothing (P := Try.prog) (w := w) B 23 o.type 3 i0 1 Try.underlying23 hi v acc.length (icells acc) h cx
    simp only [List.length_nil] at hx
    have hk := hK' _ _ (hK v w (by rw [List.append_nil]; exact h) (Below.refl _ _))
    unfold Oper.wp
    simp [execOp, ho, resolve, invoke, builtin, hs, hx, hrun, Result.andThen]
    exact hk
  | some ad =>
    refine wp_append_own_wide w s x 23 ho B 3 i0 _ 1 8 Try.underlying23 hi hz0 hz1 hz2 rfl (by omega) v acc.length (icells acc) hs h ad es.length cx (icells es) hx (by rw [icells_length]; omega) ?_ (icells_one es) (by unfold maxLen; omega) (by omega) hB ?_
    · intro j u hj
      have hlt := (List.getElem?_eq_some_iff.1 hj).1
      rw [icells_length] at hlt
      obtain ⟨g, off, q1, hg, hc⟩ := h4 (by omega)
      injection q1 with q1
      subst q1
      rw [Addr.add_lit]
      have hu : u = .int .i64 es[j] := by
        rw [icells_at (List.getElem?_eq_getElem hlt)] at hj
        injection hj with hj
        exact hj.symm
      rw [hu]
      exact hc j _ (List.getElem?_eq_getElem hlt)
    · intro v' w' h1 h2 _
      refine hK' _ _ (hK v' w' ?_ ((Below.refl _ _).grown h2 hB (own_block h)))
      unfold Iw
      rw [List.length_append, show icells (acc ++ es) = icells acc ++ icells es by simp [icells]]
      exact h1
theorem Ris.upto {w : World} {a : Option Addr} {n c : Nat} {T : List Int} (h : Ris w (.slice a n c) T) (k : Nat) (hk : k ≤ n) :
    (∀ W : World, (Instr.slice 23 (.slice a n c) none (some (.int .i64 (k : Int))) none).run Try.prog W = .ok (.slice a k c) W) ∧ Ris w (.slice a k c) (T.take k) := by
  obtain ⟨a', c', hv, h1, h2, h4⟩ := h
  injection hv with e1 e2 e3
  subst e1 e2 e3
  have hl : (T.take k).length = k := by rw [List.length_take, Nat.min_eq_left hk]
  refine ⟨fun W => ?_, a, c, by rw [hl], by omega, h2, fun hn => ?_⟩
  · have := run_slice_h (P := Try.prog) (w := W) 23 a T.length c Try.underlying23 .i64 (k : Int) (by omega) (by omega)
    simp [this, go_sem, sliced, Addr.add]
    try (intro _; cases a <;> simp [Addr.add])
  · obtain ⟨g, off, rfl, hg, hc⟩ := h4 (by omega)
    refine ⟨g, off, rfl, hg, fun j x hx => hc j x ?_⟩
    have hj := (List.getElem?_eq_some_iff.1 hx).1
    rw [List.getElem?_take, if_pos (by omega)] at hx
    exact hx
theorem equalI_drew (v1 v2 : Value) (ps qs : List Int) (w : World) (h1 : Ris w v1 ps) (h2 : Ris w v2 qs) :
    Calls Try.prog 8 #[v1, v2] w fun e w' => e = .returned (.bool (decide (ps = qs))) ∧ ∃ m, w' = w.drewN m := by
  obtain ⟨a, c, rfl, hlc, hcm⟩ := h1.form
  obtain ⟨b, d, rfl, hld, hdm⟩ := h2.form
  have HA : Hid (Ris w (.slice a ps.length c) ps) := h1
  have HB : Hid (Ris w (.slice b qs.length d) qs) := h2
  unfold maxLen at hcm hdm
  clear h1 h2
  by_cases hlen : ps.length = qs.length
  · have HL : Hid (ps.length = qs.length) := hlen
    obtain ⟨n, hn⟩ : ∃ n, ps.length = n := ⟨_, rfl⟩
    have hm : qs.length = n := by omega
    have HN : Hid (ps.length = n) := hn
    rw [hn] at HA
    rw [hm] at HB
    have HM : Hid (qs.length = n) := hm
    rw [hn] at hlc
    rw [hm] at hld
    rw [hn, hm]
    clear hn hm hlen
    go_enter Try.func8, Try.ntmps8
    go_wp2
    go_loopw [13] (fun i wr => ∃ (k q : Nat), k ≤ n ∧ i = .int .i64 (k : Int) ∧ wr = w.drewN q ∧ Hid (decide (ps.drop k = qs.drop k) = decide (ps = qs))) (fun i _ => n - (intOf i).toNat)
    case atStart => exact ⟨0, 0, Nat.zero_le _, rfl, rfl, rfl⟩
    case round =>
      obtain ⟨k, q, hk, rfl, rfl, HR⟩ := hrel
      by_cases hlt : k < n
      · have hk1 : k < ps.length := by have := HN.out; omega
        have hk2 : k < qs.length := by have := HM.out; omega
        obtain ⟨g, off, rfl, c0⟩ := HA.out.at k ps[k] (List.getElem?_eq_getElem hk1)
        obtain ⟨g', off', rfl, d0⟩ := HB.out.at k qs[k] (List.getElem?_eq_getElem hk2)
        have hR := HR.out
        rw [List.drop_eq_getElem_cons hk1, List.drop_eq_getElem_cons hk2] at hR
        generalize ps[k] = x at c0 hR
        generalize qs[k] = y at d0 hR
        by_cases hxy : x = y
        · subst hxy
          have HR2 : Hid (decide (ps.drop (k + 1) = qs.drop (k + 1)) = decide (ps = qs)) := by
            show _ = _
            rw [← hR]; simp
          have hneq : (x != x) = false := by simp
          clear HA HB HL HN HM HR hR
          go_wp2
          go_region
          go_wp2
          go_roundw
          case rel => exact ⟨k + 1, q + _, by omega, by go_num, rfl, HR2.out⟩
          case measure => simp [intOf]; omega
        · have HR2 : Hid (false = decide (ps = qs)) := by
            show _ = _
            rw [← hR]; symm; rw [decide_eq_false_iff_not]
            intro h; exact hxy (by injection h)
          have hneq : (x != y) = true := by simpa using hxy
          clear HA HB HL HN HM HR hR hxy
          go_wp2
          go_region
          go_wp2
          go_ret
          rw [← HR2.out]
          exact ⟨rfl, _, rfl⟩
      · have hR := HR.out
        rw [List.drop_eq_nil_of_le (by have := HN.out; omega), List.drop_eq_nil_of_le (by have := HM.out; omega)] at hR
        have HR2 : Hid (true = decide (ps = qs)) := by show _ = _; rw [← hR]; simp
        clear HA HB HL HN HM HR hR
        go_wp2
        go_ret
        rw [← HR2.out]
        exact ⟨rfl, _, rfl⟩
  · have e : decide (ps = qs) = false := by rw [decide_eq_false_iff_not]; intro h; exact hlen (by rw [h])
    rw [e]
    have hne : ((ps.length : Int) != (qs.length : Int)) = true := by rw [bne_iff_ne]; omega
    generalize ps.length = n at *
    generalize qs.length = m at *
    clear HA HB e hlen
    go_enter Try.func8, Try.ntmps8
    go_wp2
    go_ret
    exact ⟨rfl, 0, rfl⟩
theorem equalI_any (v1 v2 : Value) (ps qs : List Int) (w : World) (h1 : Ris w v1 ps) (h2 : Ris w v2 qs) :
    Calls Try.prog 8 #[v1, v2] w fun e w' => e = .returned (.bool (decide (ps = qs))) ∧ Below w.heap.size w w' :=
  (equalI_drew v1 v2 ps qs w h1 h2).mono fun e w' ⟨he, m, hw⟩ => ⟨he, by rw [hw]; exact below_drewN (Below.refl _ _) m⟩
end Go.Proofs.Ytemlafdmeaobfab.route
