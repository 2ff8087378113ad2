/- desc: slices that are read: texts held against texts, texts joined. -/
import Derived.Test.YtebaepkghbihkaaDescA
import Derived.Test.YtebaepkghbihkaaShelf
import Derived.RegionTactic
import Derived.WalkSmall
namespace Go.Proofs.Ytebaepkghbihkaa.desc
open Go.RowKit Go.PlainAid Go.Proofs.Ytebaepkghbihkaa.lane
set_option linter.unusedVariables false

/-- a slice of n elements, s cells each, that reads as cs -/
def Rdg (w : World) (s : Nat) (v : Value) (n : Nat) (cs : List Value) : Prop :=
  ∃ a c, v = .slice a n c ∧ n ≤ c ∧ c ≤ maxLen ∧ cs.length = n * s ∧ (0 < n → ∃ g off, a = some ⟨g, off, none⟩ ∧ g < w.heap.size ∧ ∀ j x, cs[j]? = some x → w.cell? ⟨g, off + j, none⟩ = some x)
theorem Rdg.below {w u : World} {s : Nat} {v : Value} {n : Nat} {cs : List Value} (h : Rdg w s v n cs) (hb : Below w.heap.size w u) : Rdg u s v n cs := by
  obtain ⟨a, c, hv, h1, h2, h3, h4⟩ := h
  refine ⟨a, c, hv, h1, h2, h3, fun hn => ?_⟩
  obtain ⟨g, off, ha, hg, hc⟩ := h4 hn
  exact ⟨g, off, ha, Nat.lt_of_lt_of_le hg hb.size, fun j x hx => (hb.cell (p := ⟨g, off + j, none⟩) hg).trans (hc j x hx)⟩
theorem Rdg.of {w : World} {B : Nat} {e : TypeId} {s : Nat} {v : Value} {n : Nat} {cs : List Value} (h : w.ownsRow B e s v n cs) : Rdg w s v n cs := by
  have h' := h
  rcases h.2 with ⟨rfl, h0⟩ | ⟨g, cap, cur, rfl, hB, hg, hnc, hcm, hs, ht⟩
  · exact ⟨none, 0, by rw [h0], by omega, Nat.zero_le _, h.1, fun hn => by omega⟩
  · refine ⟨_, cap, rfl, hnc, hcm, h.1, fun _ => ⟨g, 0, rfl, ?_, fun j x hx => ?_⟩⟩
    · rcases Nat.lt_or_ge g w.heap.size with hl | hl
      · exact hl
      · rw [Array.getElem?_eq_none hl] at hg; cases hg
    · have hj := (List.getElem?_eq_some_iff.1 hx).1
      have hl := h.1
      rw [Nat.zero_add, World.ownsRow.cellAt h' j (by omega)]
      exact hx
/-- texts that are read -/
def Rts (w : World) (v : Value) (ps : List (List Int)) : Prop := Rdg w 1 v ps.length (tcells ps)
theorem Rts.below {w u : World} {v : Value} {ps : List (List Int)} (h : Rts w v ps) (hb : Below w.heap.size w u) : Rts u v ps := Rdg.below h hb
theorem Txs.rts {w : World} {B : Nat} {v : Value} {ps : List (List Int)} (h : Txs w B v ps) : Rts w v ps := Rdg.of h
theorem Rts.cell {w : World} {v : Value} {ps : List (List Int)} (h : Rts w v ps) : ∃ a c, v = .slice a ps.length c ∧ ps.length ≤ c ∧ c ≤ maxLen ∧
    ∀ j p, ps[j]? = some p → ∃ g off, a = some ⟨g, off, none⟩ ∧ w.cell? ⟨g, off + j, none⟩ = some (.string (strOfNums p)) := by
  obtain ⟨a, c, hv, h1, h2, h3, h4⟩ := h
  refine ⟨a, c, hv, h1, h2, fun j p hj => ?_⟩
  have hl := (List.getElem?_eq_some_iff.1 hj).1
  obtain ⟨g, off, ha, hg, hc⟩ := h4 (by omega)
  exact ⟨g, off, ha, hc j _ (by simp [tcells, hj])⟩
def BB (ps : List (List Int)) : Prop := ∀ p ∈ ps, Byt p
theorem str_inj {a b : List Int} (ha : Byt a) (hb : Byt b) (h : strOfNums a = strOfNums b) : a = b := by
  have := congrArg nums h
  rwa [nums_str a ha, nums_str b hb] at this
theorem toList_beq (s t : ByteArray) : (s.toList == t.toList) = decide (s = t) := by
  rw [ByteArray.toList_eq, ByteArray.toList_eq]
  by_cases h : s = t
  · subst h; simp
  · rw [decide_eq_false h, beq_eq_false_iff_ne]
    intro q
    apply h
    apply ByteArray.ext
    exact Array.toList_inj.1 q
theorem toList_bne (s t : ByteArray) : (s.toList != t.toList) = !decide (s = t) := by
  unfold bne; rw [toList_beq]
theorem below_drewN {B : Nat} {a w : World} (h : Below B a w) (n : Nat) : Below B a (w.drewN n) := ⟨h.os, h.tape, h.output, h.size, h.block⟩

set_option maxHeartbeats 2000000 in
theorem equalT_any (v1 v2 : Value) (ps qs : List (List Int)) (w : World) (h1 : Rts w v1 ps) (h2 : Rts w v2 qs) (b1 : BB ps) (b2 : BB qs) :
    Calls Try.prog 47 #[v1, v2] w fun e w' => e = .returned (.bool (decide (ps = qs))) ∧ Below w.heap.size w w' := by
  obtain ⟨a, c, rfl, hlc, hcm, hc⟩ := h1.cell
  obtain ⟨b, d, rfl, hld, hdm, hd⟩ := h2.cell
  have HA : Hid (∀ j p, ps[j]? = some p → ∃ g off, a = some ⟨g, off, none⟩ ∧ w.cell? ⟨g, off + j, none⟩ = some (.string (strOfNums p))) := hc
  have HB : Hid (∀ j p, qs[j]? = some p → ∃ g off, b = some ⟨g, off, none⟩ ∧ w.cell? ⟨g, off + j, none⟩ = some (.string (strOfNums p))) := hd
  have HP : Hid (BB ps) := b1
  have HQ : Hid (BB qs) := b2
  unfold maxLen at hcm hdm
  clear h1 h2 hc hd b1 b2
  by_cases hlen : ps.length = qs.length
  · have HL : Hid (ps.length = qs.length) := hlen
    obtain ⟨n, hn⟩ : ∃ n, ps.length = n := ⟨_, rfl⟩
    have hm : qs.length = n := by omega
    have HN : Hid (ps.length = n) := hn
    have HM : Hid (qs.length = n) := hm
    rw [hn] at hlc
    rw [hm] at hld
    rw [hn, hm]
    clear hn hm hlen
    go_enter Try.func47, Try.ntmps47
    go_wp2
    go_loopw [13] (fun i wr => ∃ (k q : Nat), k ≤ n ∧ i = .int .i64 (k : Int) ∧ wr = w.drewN q ∧ Hid (decide (ps.drop k = qs.drop k) = decide (ps = qs))) (fun i _ => n - (intOf i).toNat)
    case atStart => exact ⟨0, 0, Nat.zero_le _, rfl, rfl, rfl⟩
    case round =>
      obtain ⟨k, q, hk, rfl, rfl, HR⟩ := hrel
      by_cases hlt : k < n
      · have hk1 : k < ps.length := by have := HN.out; omega
        have hk2 : k < qs.length := by have := HM.out; omega
        obtain ⟨g, off, rfl, c1⟩ := HA.out k ps[k] (List.getElem?_eq_getElem hk1)
        obtain ⟨g', off', rfl, d1⟩ := HB.out k qs[k] (List.getElem?_eq_getElem hk2)
        have hR := HR.out
        rw [List.drop_eq_getElem_cons hk1, List.drop_eq_getElem_cons hk2] at hR
        have hb1 := HP.out ps[k] (List.getElem_mem hk1)
        have hb2 := HQ.out qs[k] (List.getElem_mem hk2)
        generalize ps[k] = x at c1 hR hb1
        generalize qs[k] = y at d1 hR hb2
        by_cases hxy : x = y
        · subst hxy
          have HR2 : Hid (decide (ps.drop (k + 1) = qs.drop (k + 1)) = decide (ps = qs)) := by
            show _ = _
            rw [← hR]; simp
          have hneq := toList_bne (strOfNums x) (strOfNums x)
          rw [decide_eq_true rfl] at hneq
          generalize strOfNums x = t at c1 d1 hneq
          clear HA HB HP HQ HL HN HM HR hR hb1 hb2
          go_wp2
          go_region
          go_wp2
          go_roundw
          case rel => exact ⟨k + 1, q + _, by omega, by go_num, rfl, HR2.out⟩
          case measure => simp [intOf]; omega
        · have HR2 : Hid (false = decide (ps = qs)) := by
            show _ = _
            rw [← hR]; symm; rw [decide_eq_false_iff_not]
            intro h; exact hxy (by injection h)
          have hneq := toList_beq (strOfNums x) (strOfNums y)
          rw [decide_eq_false (fun h => hxy (str_inj hb1 hb2 h))] at hneq
          generalize strOfNums x = t at c1 hneq
          generalize strOfNums y = t' at d1 hneq
          clear HA HB HP HQ HL HN HM HR hR hb1 hb2
          go_wp2
          go_region
          go_wp2
          go_ret
          rw [← HR2.out]
          exact ⟨rfl, below_drewN (Below.refl _ _) _⟩
      · have hR := HR.out
        rw [List.drop_eq_nil_of_le (by have := HN.out; omega), List.drop_eq_nil_of_le (by have := HM.out; omega)] at hR
        have HR2 : Hid (true = decide (ps = qs)) := by show _ = _; rw [← hR]; simp
        clear HA HB HP HQ HL HN HM HR hR
        go_wp2
        go_ret
        rw [← HR2.out]
        exact ⟨rfl, below_drewN (Below.refl _ _) _⟩
  · have e : decide (ps = qs) = false := by rw [decide_eq_false_iff_not]; intro h; exact hlen (by rw [h])
    rw [e]
    have hne : ((ps.length : Int) != (qs.length : Int)) = true := by rw [bne_iff_ne]; omega
    generalize ps.length = n at *
    generalize qs.length = m at *
    clear HA HB HP HQ e hlen
    go_enter Try.func47, Try.ntmps47
    go_wp2
    go_ret
    exact ⟨rfl, Below.refl _ _⟩

theorem join_none (a : Option Addr) (c : Nat) (w : World) : Calls Try.prog 58 #[.slice a 0 c, .string ⟨#[]⟩] w fun e w' => e = .returned (.string ⟨#[]⟩) ∧ Below w.heap.size w w' := by
  go_enter Try.func58, Try.ntmps58
  go_wp2
  go_ret
  exact ⟨rfl, Below.refl _ _⟩
theorem join_flat (xs : List (List Int)) : Lib.join ((xs.map strOfNums).map (·.data.toList)) (⟨#[]⟩ : ByteArray).data.toList = (strOfNums xs.flatten).data.toList := by
  have e : ∀ ys : List (List UInt8), Lib.join ys [] = ys.flatten := by
    intro ys
    cases ys with
    | nil => rfl
    | cons y r => rw [Lib.join_cons]; simp [Lib.joinTail]
  show Lib.join ((xs.map strOfNums).map (·.data.toList)) [] = _
  rw [e]
  induction xs with
  | nil => rfl
  | cons x r ih =>
    rw [List.map_cons, List.map_cons, List.flatten_cons, ih, List.flatten_cons, str_append, ByteArray.data_append, Array.toList_append]
set_option maxHeartbeats 400000 in
theorem join_any (v : Value) (ps : List (List Int)) (w : World) (h : Rts w v ps) (hl : ps.flatten.length ≤ 140737488355328) (hn : ps.length ≤ 140737488355328) :
    Calls Try.prog 58 #[v, .string ⟨#[]⟩] w fun e w' => e = .returned (.string (strOfNums ps.flatten)) ∧ Below w.heap.size w w' := by
  obtain ⟨a, c, rfl, h1, h2, h3, h4⟩ := h
  have key : ∀ g off, g < w.heap.size → (∀ j x, (tcells ps)[j]? = some x → w.cell? ⟨g, off + j, none⟩ = some x) →
      Calls Try.prog 58 #[.slice (some ⟨g, off, none⟩) ps.length c, .string ⟨#[]⟩] w fun e w' => e = .returned (.string (strOfNums ps.flatten)) ∧ Below w.heap.size w w' := by
    intro g off hg hc
    have := Try.strings_Join g off c (ps.map strOfNums) ⟨#[]⟩ w (fun j x hx => by
      refine hc j (.string x) ?_
      rw [List.getElem?_map] at hx
      simp only [tcells, List.getElem?_map]
      cases hp : ps[j]? with
      | none => rw [hp] at hx; cases hx
      | some p => rw [hp] at hx; simp at hx; simp [hx]) hg (by rw [List.length_map]; exact hn) (by rw [List.length_map]; exact h1) (by rw [join_flat, Array.length_toList]; have := str_size ps.flatten; show (strOfNums ps.flatten).size ≤ _; omega)
    rw [List.length_map, join_flat] at this
    exact this
  by_cases hz : 0 < ps.length
  · obtain ⟨g, off, rfl, hg, hc⟩ := h4 hz
    exact key g off hg hc
  · have : ps = [] := List.eq_nil_of_length_eq_zero (by omega)
    subst this
    exact join_none a c w
end Go.Proofs.Ytebaepkghbihkaa.desc
