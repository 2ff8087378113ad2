/- desc: the ways that are taken, as a map; what checkFace answers. -/
import Derived.Test.YtebaepkghbihkaaDescH
import Derived.RegionTactic
import Derived.ChangeAlike
namespace Go.Proofs.Ytebaepkghbihkaa.desc
open Go.RowKit Go.PlainAid Go.Proofs.Ytebaepkghbihkaa.lane Go.ChangeMaps
set_option linter.unusedVariables false
set_option linter.unusedSimpArgs false
set_option maxRecDepth 100000

abbrev wyV (p : Int × Bool) : Value := .agg #[.int .i64 p.1, .bool p.2]
theorem wy_laid : laidOutB Try.prog = true := by kernel_rfl
theorem wy_row : (143 : TypeId) < Try.prog.types.size := of_decide_eq_true (by kernel_rfl)
theorem wy_wide : (match Try.prog.underlying 143 with | some (.array _ _) | some (.struct _) => true | _ => false) = true := by rw [Try.underlying143]
theorem wy_law : WideMaps.KeyLaw Try.prog 143 := deep_law_laid wy_laid (m := 2) (by omega) wy_row (by kernel_rfl) wy_wide
theorem wy_zero (w : World) : (zeroValue 3).run Try.prog w = .ok (.int .i64 0) w := by kernel_rfl
theorem wy_key (p : Int × Bool) (h1 : 1 ≤ p.1) (h2 : p.1 ≤ 15) : ∃ l, keyOf Try.prog 143 (wyV p) = some l := by
  obtain ⟨a, i⟩ := p
  simp only at h1 h2
  have h : a = 1 ∨ a = 2 ∨ a = 3 ∨ a = 4 ∨ a = 5 ∨ a = 6 ∨ a = 7 ∨ a = 8 ∨ a = 9 ∨ a = 10 ∨ a = 11 ∨ a = 12 ∨ a = 13 ∨ a = 14 ∨ a = 15 := by omega
  rcases h with rfl | rfl | rfl | rfl | rfl | rfl | rfl | rfl | rfl | rfl | rfl | rfl | rfl | rfl | rfl <;> cases i <;> exact Option.isSome_iff_exists.1 (by decide +kernel)
theorem wyV_inj {p q : Int × Bool} (h : wyV p = wyV q) : p = q := by
  obtain ⟨a, i⟩ := p
  obtain ⟨b, j⟩ := q
  simp at h
  exact Prod.ext h.1 h.2
/-- block b is a map whose keys are just these ways -/
def Mp (w : World) (b : Nat) (tk : List (Int × Bool)) : Prop := ∃ (es : Array MapEntry) (clock : Nat), w.heap[b]? = some (.map es clock) ∧ (∀ x ∈ es.toList, x.born < clock) ∧ (es.toList.map (·.born)).Nodup ∧
  (∀ x ∈ es.toList, ∃ p ∈ tk, x.key = wyV p ∧ x.val = .int .i64 1) ∧ (∀ p ∈ tk, ∃ x ∈ es.toList, x.key = wyV p) ∧ (∀ p ∈ tk, 1 ≤ p.1 ∧ p.1 ≤ 15)
theorem Mp.made (w : World) : Mp (w.alloc (.map #[] 0)) w.heap.size [] := by
  refine ⟨#[], 0, (MapKept.heap_alloc w _).1, fun x hx => ?_, ?_, fun x hx => ?_, fun p hp => ?_, fun p hp => ?_⟩
  · simp at hx
  · simp
  · simp at hx
  · simp at hp
  · simp at hp
theorem Mp.lt {w : World} {b : Nat} {tk : List (Int × Bool)} (h : Mp w b tk) : b < w.heap.size := by
  obtain ⟨es, clock, hb, _⟩ := h
  exact (Array.getElem?_eq_some_iff.1 hb).1
theorem Mp.keep {w u : World} {b : Nat} {tk : List (Int × Bool)} (h : Mp w b tk) (hu : u.heap[b]? = w.heap[b]?) : Mp u b tk := by
  obtain ⟨es, clock, hb, q⟩ := h
  exact ⟨es, clock, hu.trans hb, q⟩
theorem Mp.below {w u : World} {b : Nat} {tk : List (Int × Bool)} (h : Mp w b tk) (hb : Below w.heap.size w u) : Mp u b tk := h.keep (hb.block b h.lt)
theorem Mp.drew {w : World} {b : Nat} {tk : List (Int × Bool)} (h : Mp w b tk) : Mp w.drew b tk := h.keep rfl
/-- nothing but a map's block has turned: what is read in cells stands -/
theorem map_cell {w u : World} {b : Nat} {tk : List (Int × Bool)} (h : Mp w b tk) (hg : w.grownBy u (some b)) {g o : Nat} {x : Value} (hx : w.cell? ⟨g, o, none⟩ = some x) : u.cell? ⟨g, o, none⟩ = some x := by
  have hlt := World.block_lt_of_cell? w _ hx
  have hne : g ≠ b := by
    rintro rfl
    obtain ⟨es, clock, hb, _⟩ := h
    simp [World.cell?, hb] at hx
  have e := hg.block g hlt (by simpa using hne)
  rw [← hx]
  exact World.cell?_of_block (w := w) e
theorem Rdg.mapped {w u : World} {b : Nat} {tk : List (Int × Bool)} {s : Nat} {v : Value} {n : Nat} {cs : List Value} (h : Rdg w s v n cs) (hm : Mp w b tk) (hg : w.grownBy u (some b)) : Rdg u s v n cs := by
  obtain ⟨a, c, hv, h1, h2, h3, h4⟩ := h
  refine ⟨a, c, hv, h1, h2, h3, fun hn => ?_⟩
  obtain ⟨g, off, ha, hgl, hc⟩ := h4 hn
  exact ⟨g, off, ha, Nat.lt_of_lt_of_le hgl hg.size, fun j x hx => map_cell hm hg (hc j x hx)⟩
theorem Mp.keys {w : World} {b : Nat} {tk : List (Int × Bool)} {es : Array MapEntry} (h3 : ∀ x ∈ es.toList, ∃ p ∈ tk, x.key = wyV p ∧ x.val = .int .i64 1) (h5 : ∀ p ∈ tk, 1 ≤ p.1 ∧ p.1 ≤ 15) : ∀ e ∈ es.toList, ∃ l, keyOf Try.prog 143 e.key = some l := by
  intro x hx
  obtain ⟨p, hp, hk, _⟩ := h3 x hx
  rw [hk]
  exact wy_key p (h5 p hp).1 (h5 p hp).2
theorem Mp.look {w : World} {b : Nat} {tk : List (Int × Bool)} (h : Mp w b tk) (p : Int × Bool) (h1 : 1 ≤ p.1) (h2 : p.1 ≤ 15) :
    (Instr.lookup 118 (.map (some b)) (wyV p) false).run Try.prog w = .ok (.int .i64 (if tk.contains p = true then 1 else 0)) w := by
  obtain ⟨es, clock, hb, g1, g2, g3, g4, g5⟩ := h
  obtain ⟨l, hkey⟩ := wy_key p h1 h2
  rcases wy_law.find w hkey es.toList (Mp.keys (w := w) (b := b) g3 g5) with ⟨f1, f2⟩ | ⟨j, e0, f1, f2, f3⟩
  · have hn : tk.contains p = false := by
      rw [List.contains_eq_mem, decide_eq_false_iff_not]
      intro hp
      obtain ⟨x, hx, hk⟩ := g4 p hp
      exact f2 x hx hk
    rw [hn]
    simp [Instr.lookup, run_underlying Try.underlying118, MapKept.run_getObj_map hb, wy_law.check w _ hkey, f1, wy_zero, Result.andThen]
  · obtain ⟨p', hp', hk, hv⟩ := g3 e0 (List.mem_of_getElem? f2)
    have : p' = p := wyV_inj (hk.symm.trans f3)
    subst this
    have hn : tk.contains p' = true := by rw [List.contains_eq_mem, decide_eq_true_eq]; exact hp'
    rw [hn]
    simp [Instr.lookup, run_underlying Try.underlying118, MapKept.run_getObj_map hb, wy_law.check w _ hkey, f1, hv, Result.andThen]
theorem set_grown (w : World) (b : Nat) (o : Obj) : w.grownBy (setBlock w b o) (some b) := by
  refine ⟨rfl, rfl, rfl, by simp [setBlock], fun k hk hne => ?_⟩
  have : b ≠ k := fun q => hne (by rw [q])
  simp [setBlock, Array.getElem?_setIfInBounds, this]
theorem set_at (w : World) (b : Nat) (o : Obj) (h : b < w.heap.size) : (setBlock w b o).heap[b]? = some o := by
  simp [setBlock, Array.getElem?_setIfInBounds, h]
/-- a way is put into the map: its place first, or what stands there first -/
theorem Mp.enter {w : World} {b : Nat} {tk : List (Int × Bool)} (h : Mp w b tk) (p : Int × Bool) (h1 : 1 ≤ p.1) (h2 : p.1 ≤ 15) (hn : tk.contains p = false) :
    ∃ (st : Nat) (W1 W2 : World), (Instr.mapEntry 118 (.map (some b)) (wyV p)).run Try.prog w = .ok (.tuple #[.int .i64 0, .int .i64 (st : Int)]) W1 ∧
      (Instr.lookup 118 (.map (some b)) (wyV p) false).run Try.prog W1 = .ok (.int .i64 0) W1 ∧
      (Instr.entryStore 118 (.map (some b)) (.int .i64 (st : Int)) (.int .i64 1)).run Try.prog W1 = .ok () W2 ∧ Mp W2 b (tk ++ [p]) ∧ w.grownBy W1 (some b) ∧ w.grownBy W2 (some b) := by
  have hlt := h.lt
  obtain ⟨es, clock, hb, g1, g2, g3, g4, g5⟩ := h
  obtain ⟨l, hkey⟩ := wy_key p h1 h2
  have hnp : p ∉ tk := by rw [List.contains_eq_mem, decide_eq_false_iff_not] at hn; exact hn
  have hab : ∀ x ∈ es.toList, x.key ≠ wyV p := fun x hx hk => by
    obtain ⟨p', hp', hk', _⟩ := g3 x hx
    exact hnp (wyV_inj (hk'.symm.trans hk) ▸ hp')
  have hb1 := set_at w b (.map (es.push ⟨wyV p, .int .i64 0, clock⟩) (clock + 1)) hlt
  refine ⟨clock, setBlock w b (.map (es.push ⟨wyV p, .int .i64 0, clock⟩) (clock + 1)), setBlock (setBlock w b (.map (es.push ⟨wyV p, .int .i64 0, clock⟩) (clock + 1))) b (.map (es.push ⟨wyV p, .int .i64 1, clock⟩) (clock + 1)), ?_, ?_, ?_, ?_, set_grown _ _ _, ?_⟩
  · rcases wy_law.find w hkey es.toList (Mp.keys (w := w) (b := b) g3 g5) with ⟨f1, f2⟩ | ⟨j, e0, f1, f2, f3⟩
    · simp [Instr.mapEntry, run_underlying Try.underlying118, MapKept.run_getObj_map hb, wy_law.check w false hkey, f1, wy_zero, MapKept.run_setObj_map _ hb, Result.andThen, setBlock, goInt]
    · exact absurd f3 (hab e0 (List.mem_of_getElem? f2))
  · have hks : ∀ e ∈ (es.push ⟨wyV p, .int .i64 0, clock⟩).toList, ∃ l, keyOf Try.prog 143 e.key = some l := by
      intro e he
      rw [Array.toList_push, List.mem_append] at he
      rcases he with he | he
      · exact Mp.keys (w := w) (b := b) g3 g5 e he
      · simp at he; subst he; exact ⟨l, hkey⟩
    rcases wy_law.find (setBlock w b (.map (es.push ⟨wyV p, .int .i64 0, clock⟩) (clock + 1))) hkey _ hks with ⟨f1, f2⟩ | ⟨j, e0, f1, f2, f3⟩
    · exact absurd rfl (f2 ⟨wyV p, .int .i64 0, clock⟩ (by simp))
    · have hv : e0.val = .int .i64 0 := by
        have hm := List.mem_of_getElem? f2
        rw [Array.toList_push, List.mem_append] at hm
        rcases hm with hm | hm
        · exact absurd f3 (hab e0 hm)
        · simp at hm; rw [hm]
      simp [Instr.lookup, run_underlying Try.underlying118, MapKept.run_getObj_map hb1, wy_law.check _ _ hkey]
      simp only [Array.toList_push] at f1
      simp [f1, hv, Result.andThen]
  · have hidx : (es.push ⟨wyV p, .int .i64 0, clock⟩).findIdx? (fun e => ((e.born : Nat) : Int) == ((clock : Nat) : Int)) = some es.size := by
      rw [WideElems.findIdx_arr]
      have := WideElems.findIdx_born (l := (es.push ⟨wyV p, .int .i64 0, clock⟩).toList) (j := es.size) (e0 := ⟨wyV p, .int .i64 0, clock⟩) (by
        simp only [Array.toList_push, List.map_append, List.map_cons, List.map_nil]
        refine List.nodup_append.2 ⟨g2, by simp, fun a ha c hc e1 => ?_⟩
        simp only [List.mem_singleton] at hc
        obtain ⟨x, hx, rfl⟩ := List.mem_map.1 ha
        have := g1 x hx
        omega) (by simp)
      exact this
    have hmod : (es.push ⟨wyV p, .int .i64 0, clock⟩).modify es.size (fun e => { e with val := .int .i64 1 }) = es.push ⟨wyV p, .int .i64 1, clock⟩ := by
      apply Array.ext'
      rw [Array.toList_modify, Array.toList_push, Array.toList_push, ← Array.length_toList, WideElems.modify_last]
    generalize setBlock w b (.map (es.push ⟨wyV p, .int .i64 0, clock⟩) (clock + 1)) = W1 at hb1 ⊢
    simp [Instr.entryStore, MapKept.run_getObj_map hb1, asInt, asIntOf, hidx, hmod, MapKept.run_setObj_map _ hb1, Result.andThen, setBlock]
  · refine ⟨es.push ⟨wyV p, .int .i64 1, clock⟩, clock + 1, set_at _ _ _ (by simp [setBlock]; exact hlt), fun x hx => ?_, ?_, fun x hx => ?_, fun q hq => ?_, fun q hq => ?_⟩
    · rw [Array.toList_push, List.mem_append] at hx
      rcases hx with hx | hx
      · have := g1 x hx; omega
      · simp at hx; subst hx; simp
    · simp only [Array.toList_push, List.map_append, List.map_cons, List.map_nil]
      refine List.nodup_append.2 ⟨g2, by simp, fun a ha c hc e1 => ?_⟩
      simp only [List.mem_singleton] at hc
      obtain ⟨x, hx, rfl⟩ := List.mem_map.1 ha
      have := g1 x hx
      omega
    · rw [Array.toList_push, List.mem_append] at hx
      rcases hx with hx | hx
      · obtain ⟨q, hq, r⟩ := g3 x hx
        exact ⟨q, by simp [hq], r⟩
      · simp at hx; subst hx; exact ⟨p, by simp, rfl, rfl⟩
    · rw [List.mem_append] at hq
      rcases hq with hq | hq
      · obtain ⟨x, hx, r⟩ := g4 q hq
        exact ⟨x, by rw [Array.toList_push]; simp [hx], r⟩
      · simp at hq; subst hq; exact ⟨⟨wyV q, .int .i64 1, clock⟩, by simp, rfl⟩
    · rw [List.mem_append] at hq
      rcases hq with hq | hq
      · exact g5 q hq
      · simp at hq; subst hq; exact ⟨h1, h2⟩
  · refine ⟨rfl, rfl, rfl, by simp [setBlock], fun k hk hne => ?_⟩
    have : b ≠ k := fun q => hne (by rw [q])
    simp [setBlock, Array.getElem?_setIfInBounds, this]
end Go.Proofs.Ytebaepkghbihkaa.desc
