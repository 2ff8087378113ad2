/- rows of words: made by append, read, cloned, compared. -/
import Derived.Test.YtmapnkjmgpkhfaaRngG
import Derived.Lib.SliceRun
namespace Go.Proofs.Ytmapnkjmgpkhfaa.ring
open Go Go.RowKit
set_option linter.unusedVariables false
set_option linter.unusedSimpArgs false
set_option maxRecDepth 100000

/-- a slice that reads as these words -/
def Rws (w : World) (v : Value) (l : List Int) : Prop :=
  ∃ a c, v = .slice a l.length c ∧ l.length ≤ c ∧ c ≤ maxLen ∧ (0 < l.length → ∃ g off, a = some ⟨g, off, none⟩ ∧ g < w.heap.size ∧ ∀ j x, l[j]? = some x → w.cell? ⟨g, off + j, none⟩ = some (.int .u64 x))
theorem Rws.nil (w : World) : Rws w (.slice none 0 0) [] := ⟨none, 0, rfl, Nat.le_refl _, Nat.zero_le _, fun h => by simp at h⟩
theorem Rws.below {w u : World} {v : Value} {l : List Int} (h : Rws w v l) (hb : Below w.heap.size w u) : Rws u v l := by
  obtain ⟨a, c, hv, h1, h2, h4⟩ := h
  refine ⟨a, c, hv, h1, h2, fun hn => ?_⟩
  obtain ⟨g, off, ha, hg, hc⟩ := h4 hn
  exact ⟨g, off, ha, Nat.lt_of_lt_of_le hg hb.size, fun j x hx => (hb.cell (p := ⟨g, off + j, none⟩) hg).trans (hc j x hx)⟩
theorem Rws.form {w : World} {v : Value} {l : List Int} (h : Rws w v l) : ∃ a c, v = .slice a l.length c ∧ l.length ≤ c ∧ c ≤ maxLen := by
  obtain ⟨a, c, h, h1, h2, _⟩ := h; exact ⟨_, _, h, h1, h2⟩
theorem Rws.at {w : World} {a : Option Addr} {n c : Nat} {l : List Int} (h : Rws w (.slice a n c) l) (k : Nat) (x : Int) (hk : l[k]? = some x) : ∃ g off, a = some ⟨g, off, none⟩ ∧ ∀ u, Below w.heap.size w u → u.cell? ⟨g, off + k, none⟩ = some (.int .u64 x) := by
  obtain ⟨a', c', hv, h1, h2, h4⟩ := h
  have hl := (List.getElem?_eq_some_iff.1 hk).1
  obtain ⟨g, off, ha, hg, hc⟩ := h4 (by omega)
  have : a = a' := by injection hv
  exact ⟨g, off, this.trans ha, fun u hu => (hu.cell (p := ⟨g, off + k, none⟩) hg).trans (hc k x hk)⟩
theorem infoU : (Try.prog.info? 27).map (fun i => (i.zero, i.size, i.bytes)) = some (some (.int .u64 0), 1, 8) := by kernel_rfl
def wcells (l : List Int) : List Value := l.map (Value.int .u64)
theorem wcells_length (l : List Int) : (wcells l).length = l.length := List.length_map ..
theorem wcells_at {l : List Int} {j : Nat} {x : Int} (h : l[j]? = some x) : (wcells l)[j]? = some (.int .u64 x) := by simp [wcells, h]
theorem wcells_one (l : List Int) : ∀ u ∈ wcells l, u.oneCell' = true := by
  intro u hu
  obtain ⟨p, _, rfl⟩ := List.mem_map.1 hu
  rfl
/-- the value v owns these numbers, in a block from B on -/
def Wds (w : World) (B : Nat) (v : Value) (l : List Int) : Prop := w.ownsRow B 27 1 v l.length (wcells l)
theorem Wds.nil (w : World) (B : Nat) : Wds w B (.slice none 0 0) [] := ⟨rfl, .inl ⟨rfl, rfl⟩⟩
theorem Wds.below {w u : World} {B : Nat} {v : Value} {l : List Int} (h : Wds w B v l) (hb : Below w.heap.size w u) : Wds u B v l := own_below h hb
theorem Wds.rws {w : World} {B : Nat} {v : Value} {l : List Int} (h : Wds w B v l) : Rws w v l := by
  have h' := h
  rcases h.2 with ⟨rfl, h0⟩ | ⟨g, cap, cur, rfl, hB, hg, hnc, hcm, hs, ht⟩
  · exact ⟨none, 0, by rw [h0], by omega, Nat.zero_le _, fun q => by omega⟩
  · refine ⟨_, cap, rfl, hnc, hcm, fun _ => ⟨g, 0, rfl, (Array.getElem?_eq_some_iff.1 hg).1, fun j x hx => ?_⟩⟩
    have hj := (List.getElem?_eq_some_iff.1 hx).1
    rw [Nat.zero_add, World.ownsRow.cellAt h' j (by omega)]
    exact wcells_at hx
theorem Wds.mono {w : World} {B B' : Nat} {v : Value} {l : List Int} (h : Wds w B v l) (hb : B' ≤ B) : Wds w B' v l := World.ownsRow.mono h hb
theorem Wds.form {w : World} {B : Nat} {v : Value} {l : List Int} (h : Wds w B v l) : ∃ a c, v = .slice a l.length c ∧ l.length ≤ c ∧ c ≤ maxLen := by
  rcases h.2 with ⟨rfl, h0⟩ | ⟨g, cap, cur, rfl, hb, hg, hn, hm, _⟩
  · exact ⟨none, 0, by rw [h0], by omega, Nat.zero_le _⟩
  · exact ⟨_, _, rfl, hn, hm⟩
/-- words that were laid down -/
theorem rws_laid (w : World) (l : List Int) (h : l.length ≤ 1000) : Rws (w.alloc (.cells (wcells l).toArray 27)) (.slice (some ⟨w.heap.size, 0, none⟩) l.length l.length) l := by
  refine ⟨_, _, rfl, Nat.le_refl _, by unfold maxLen; omega, fun _ => ⟨_, _, rfl, by simp, fun j x hx => ?_⟩⟩
  rw [Nat.zero_add, cell_of_row _ _ _ _ _ (0, 0) (MapKept.heap_alloc w _).1]
  have := wcells_at hx
  simpa using this
/-- words behind words -/
theorem wp_wds {o : Oper} {a : Act} {w : World} {K : Act → World → Prop} {Q : Exit → Act → World → Prop} (s x : Operand)
    (ho : o.op = .call { callee := .builtin .append, args := #[s, x], argTypes := #[42, 42] }) (B : Nat) (v : Value) (acc : List Int) (hs : a.eval s = v) (h : Wds w B v acc)
    (vx : Value) (es : List Int) (hx : a.eval x = vx) (hr : Rws w vx es) (hl : acc.length + es.length ≤ 17592186043904) (hB : B ≤ w.heap.size)
    (hK : ∀ v' w', Wds w' B v' (acc ++ es) → w.grownBy w' v.ownBlock → Below B w w' → K (a.put o.dst v') w') : o.wp Try.prog a w K Q := by
  obtain ⟨i0, hi, hz0, hz1, hz2⟩ := info_parts infoU
  obtain ⟨ax, cx, rfl, h1, h2, h4⟩ := hr
  cases ax with
  | none =>
    have h0 : es.length = 0 := by
      rcases Nat.eq_zero_or_pos es.length with q | q
      · exact q
      · obtain ⟨g, off, q1, _⟩ := h4 q; cases q1
    have hes : es = [] := List.eq_nil_of_length_eq_zero h0
    subst hes
    have hrun := run_append_nothing (P := Try.prog) (w := w) B 42 o.type 27 i0 1 Try.underlying42 hi v acc.length (wcells acc) h cx
    simp only [List.length_nil] at hx
    have hk := hK v w (by rw [List.append_nil]; exact h) (World.grownBy.refl _ _) (Below.refl _ _)
    unfold Oper.wp
    simp [execOp, ho, resolve, invoke, builtin, hs, hx, hrun, Result.andThen]
    exact hk
  | some ad =>
    refine wp_append_own w s x 42 ho B 27 i0 _ 1 8 Try.underlying42 hi hz0 hz1 hz2 rfl (by omega) v acc.length (wcells acc) hs h ad es.length cx (wcells es) hx (by rw [wcells_length]; omega) ?_ (wcells_one es) (by unfold maxLen; omega) (by omega) hB ?_
    · intro j u hj
      have hlt := (List.getElem?_eq_some_iff.1 hj).1
      rw [wcells_length] at hlt
      obtain ⟨g, off, q1, hg, hc⟩ := h4 (by omega)
      injection q1 with q1
      subst q1
      rw [Addr.add_lit]
      have hu : u = .int .u64 es[j] := by
        rw [wcells_at (List.getElem?_eq_getElem hlt)] at hj
        injection hj with hj
        exact hj.symm
      rw [hu]
      exact hc j _ (List.getElem?_eq_getElem hlt)
    · intro v' w' h1 h2 _
      refine hK v' w' ?_ h2 ((Below.refl _ _).grown h2 hB (own_block h))
      unfold Wds
      rw [List.length_append, show wcells (acc ++ es) = wcells acc ++ wcells es by simp [wcells]]
      exact h1
theorem wpList_wds {ops : Array Oper} {rest : List Oper} {o : Oper} {a : Act} {Q : Exit → Act → World → Prop} (w : World) (hgd : o.guard = none) (s x : Operand)
    (ho : o.op = .call { callee := .builtin .append, args := #[s, x], argTypes := #[42, 42] }) (B : Nat) (v : Value) (acc : List Int) (hs : a.eval s = v) (h : Wds w B v acc)
    (vx : Value) (es : List Int) (hx : a.eval x = vx) (hr : Rws w vx es) (hl : acc.length + es.length ≤ 17592186043904) (hB : B ≤ w.heap.size)
    (hK : ∀ v' w', Wds w' B v' (acc ++ es) → w.grownBy w' v.ownBlock → Below B w w' → wpList Try.prog ops Q rest (a.put o.dst v') w') : wpList Try.prog ops Q (o :: rest) a w :=
  wpList_plain hgd fun _ hK' => wp_wds s x ho B v acc hs h vx es hx hr hl hB fun v' w' h1 h2 h3 => hK' _ _ (hK v' w' h1 h2 h3)
theorem h_wp {P : Program} {md : Region.Mode} {ops : Array Oper} {Q : Exit → Act → World → Prop} {S : World → Prop} {i : Nat} {o : Oper} {fuel : Nat} {L : Array Bool} {a : Act} {w : World} (hi : ops[i]? = some o) (hr : Region.ready md ops L = [i]) (hg : o.guard = none)
    (h : ∀ K' : Act → World → Prop, (∀ a' w', S w' ∧ wpAnyH P md ops Q S fuel (L.setIfInBounds i true) a' w' → K' a' w') → o.wp P a w K' Q) : wpAnyH P md ops Q S (fuel + 1) L a w := by
  refine wpAnyH_all hr (by simp) fun j hj => ?_
  obtain rfl : j = i := by simpa using hj
  refine wpOp_step hi fun K' hK => ?_
  rw [if_pos (by simp [Region.wanted, hg])]
  exact h K' fun a' w' h' => hK _ _ h'
theorem cloneW_any (v : Value) (es : List Int) (w : World) (h : Rws w v es) (hl : es.length ≤ 17592186043904) :
    Calls Try.prog 34 #[v] w fun e w' => ∃ v', e = .returned v' ∧ Wds w' w.heap.size v' es ∧ Below w.heap.size w w' := by
  have HR : Hid (Rws w v es) := h
  obtain ⟨ax, cx, rfl, h1, h2, h4⟩ := h
  have HN : Hid (ax = none → es = []) := fun q => by
    subst q
    rcases Nat.eq_zero_or_pos es.length with q | q
    · exact List.eq_nil_of_length_eq_zero q
    · obtain ⟨g, off, q1, _⟩ := h4 q; cases q1
  obtain ⟨n, hn⟩ : ∃ n, es.length = n := ⟨_, rfl⟩
  rw [hn] at HR hl ⊢
  have HE : Hid (es.length = n) := hn
  clear h1 h2 h4 hn
  cases ax with
  | none =>
    have hes := HN.out rfl
    subst hes
    have hnl := fun (w : World) => Lib.run_eql_slice_nil (P := Try.prog) w 42 27 none n cx 0 0 Try.underlying42
    clear HR HN HE
    go_enter Try.func34, Try.ntmps34
    go_wp2
    go_ret
    exact ⟨_, rfl, Wds.nil _ _, Below.refl _ _⟩
  | some ad =>
    have hnl := fun (w : World) => Lib.run_eql_slice_nil (P := Try.prog) w 42 27 (some ad) n cx 0 0 Try.underlying42
    clear HN
    go_enter Try.func34, Try.ntmps34
    go_wp2_with
      (at_builtin
       refine wpList_wds _ rfl _ _ rfl w.heap.size _ [] rfl (World.ownsRow_made w #[] 0 (Nat.le_refl _) (Nat.zero_le _) rfl) _ es rfl (HR.out.below (balloc _ _)) (by have := HE.out; simp; omega) (by simp) ?_
       intro v' w' q1 q2 q3
       have t1 : Hid (Wds w' w.heap.size v' es) := q1
       have t2 : Hid (Below w.heap.size w w') := ((Below.refl _ _).alloc (Nat.le_refl _) _).trans q3
       clear q1 q2 q3)
    go_wp2
    go_ret
    exact ⟨_, rfl, t1.out, t2.out⟩
theorem Rws.upto {w : World} {a : Option Addr} {n c : Nat} {T : List Int} (h : Rws w (.slice a n c) T) (k : Nat) (hk : k ≤ n) :
    (∀ W : World, (Instr.slice 42 (.slice a n c) none (some (.int .i64 (k : Int))) none).run Try.prog W = .ok (.slice a k c) W) ∧ Rws w (.slice a k c) (T.take k) := by
  obtain ⟨a', c', hv, h1, h2, h4⟩ := h
  injection hv with e1 e2 e3
  subst e1 e2 e3
  have hl : (T.take k).length = k := by rw [List.length_take, Nat.min_eq_left hk]
  refine ⟨fun W => ?_, a, c, by rw [hl], by omega, h2, fun hn => ?_⟩
  · have := run_slice_h (P := Try.prog) (w := W) 42 a T.length c Try.underlying42 .i64 (k : Int) (by omega) (by omega)
    simp [this, go_sem, sliced, Addr.add]
    try (intro _; cases a <;> simp [Addr.add])
  · obtain ⟨g, off, rfl, hg, hc⟩ := h4 (by omega)
    refine ⟨g, off, rfl, hg, fun j x hx => hc j x ?_⟩
    have hj := (List.getElem?_eq_some_iff.1 hx).1
    rw [List.getElem?_take, if_pos (by omega)] at hx
    exact hx
set_option maxHeartbeats 2000000 in
theorem equalW_drew (v1 v2 : Value) (ps qs : List Int) (w : World) (h1 : Rws w v1 ps) (h2 : Rws w v2 qs) :
    Calls Try.prog 20 #[v1, v2] w fun e w' => e = .returned (.bool (decide (ps = qs))) ∧ ∃ m, w' = w.drewN m := by
  obtain ⟨a, c, rfl, hlc, hcm⟩ := h1.form
  obtain ⟨b, d, rfl, hld, hdm⟩ := h2.form
  have HA : Hid (Rws w (.slice a ps.length c) ps) := h1
  have HB : Hid (Rws w (.slice b qs.length d) qs) := h2
  unfold maxLen at hcm hdm
  clear h1 h2
  by_cases hlen : ps.length = qs.length
  · have HL : Hid (ps.length = qs.length) := hlen
    obtain ⟨n, hn⟩ : ∃ n, ps.length = n := ⟨_, rfl⟩
    have hm : qs.length = n := by omega
    have HN : Hid (ps.length = n) := hn
    rw [hn] at HA
    rw [hm] at HB
    have HM : Hid (qs.length = n) := hm
    rw [hn] at hlc
    rw [hm] at hld
    rw [hn, hm]
    clear hn hm hlen
    go_enter Try.func20, Try.ntmps20
    go_wp2
    go_loopw [13] (fun i wr => ∃ (k q : Nat), k ≤ n ∧ i = .int .i64 (k : Int) ∧ wr = w.drewN q ∧ Hid (decide (ps.drop k = qs.drop k) = decide (ps = qs))) (fun i _ => n - (intOf i).toNat)
    case atStart => exact ⟨0, 0, Nat.zero_le _, rfl, rfl, rfl⟩
    case round =>
      obtain ⟨k, q, hk, rfl, rfl, HR⟩ := hrel
      by_cases hlt : k < n
      · have hk1 : k < ps.length := by have := HN.out; omega
        have hk2 : k < qs.length := by have := HM.out; omega
        obtain ⟨g, off, rfl, hca⟩ := HA.out.at k ps[k] (List.getElem?_eq_getElem hk1)
        obtain ⟨g', off', rfl, hcb⟩ := HB.out.at k qs[k] (List.getElem?_eq_getElem hk2)
        have c0 := hca w (Below.refl _ _)
        have d0 := hcb w (Below.refl _ _)
        have hR := HR.out
        rw [List.drop_eq_getElem_cons hk1, List.drop_eq_getElem_cons hk2] at hR
        generalize ps[k] = x at c0 hR
        generalize qs[k] = y at d0 hR
        by_cases hxy : x = y
        · subst hxy
          have HR2 : Hid (decide (ps.drop (k + 1) = qs.drop (k + 1)) = decide (ps = qs)) := by
            show _ = _
            rw [← hR]; simp
          have hneq : (x != x) = false := by simp
          clear HA HB HL HN HM HR hR hca hcb
          go_wp2
          go_region
          go_wp2
          go_roundw
          case rel => exact ⟨k + 1, q + _, by omega, by go_num, rfl, HR2.out⟩
          case measure => simp [intOf]; omega
        · have HR2 : Hid (false = decide (ps = qs)) := by
            show _ = _
            rw [← hR]; symm; rw [decide_eq_false_iff_not]
            intro h; exact hxy (by injection h)
          have hneq : (x != y) = true := by simpa using hxy
          clear HA HB HL HN HM HR hR hxy hca hcb
          go_wp2
          go_region
          go_wp2
          go_ret
          rw [← HR2.out]
          exact ⟨rfl, _, rfl⟩
      · have hR := HR.out
        rw [List.drop_eq_nil_of_le (by have := HN.out; omega), List.drop_eq_nil_of_le (by have := HM.out; omega)] at hR
        have HR2 : Hid (true = decide (ps = qs)) := by show _ = _; rw [← hR]; simp
        clear HA HB HL HN HM HR hR
        go_wp2
        go_ret
        rw [← HR2.out]
        exact ⟨rfl, _, rfl⟩
  · have e : decide (ps = qs) = false := by rw [decide_eq_false_iff_not]; intro h; exact hlen (by rw [h])
    rw [e]
    have hne : ((ps.length : Int) != (qs.length : Int)) = true := by rw [bne_iff_ne]; omega
    generalize ps.length = n at *
    generalize qs.length = m at *
    clear HA HB e hlen
    go_enter Try.func20, Try.ntmps20
    go_wp2
    go_ret
    exact ⟨rfl, 0, rfl⟩
theorem equalW_any (v1 v2 : Value) (ps qs : List Int) (w : World) (h1 : Rws w v1 ps) (h2 : Rws w v2 qs) :
    Calls Try.prog 20 #[v1, v2] w fun e w' => e = .returned (.bool (decide (ps = qs))) ∧ Below w.heap.size w w' :=
  (equalW_drew v1 v2 ps qs w h1 h2).mono fun e w' ⟨he, m, hw⟩ => ⟨he, by rw [hw]; exact below_drewN (Below.refl _ _) m⟩
end Go.Proofs.Ytmapnkjmgpkhfaa.ring
