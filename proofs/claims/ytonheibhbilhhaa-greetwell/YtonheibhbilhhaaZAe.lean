/- desc: faces and ends in memory; what isExtra and isEnd answer; the ways that are taken, as a map. -/
import Derived.Test.YtonheibhbilhhaaZAc
import Derived.DeepKeys4
import Derived.MapKept
import Derived.WideKeyEntry
import Derived.RegionTactic
import Derived.ChangeAlike
namespace Go.Proofs.Ytonheibhbilhhaa.desc
open Go.RowKit Go.PlainAid Go.Proofs.Ytonheibhbilhhaa.lane
set_option linter.unusedVariables false

theorem kc {u u' : World} (hb : Below u.heap.size u u') {b o : Nat} {x : Value} (h : u.cell? ⟨b, o, none⟩ = some x) : u'.cell? ⟨b, o, none⟩ = some x := (hb.cell (World.block_lt_of_cell? u _ h)).trans h
/-- an end's value, and its cells -/
abbrev evV (e : En) : Value := .agg #[.int .i64 e.ad, .bool e.inw, .int .i64 e.kd, .int .i64 e.mx, .int .i64 e.iv]
def ecell (e : En) : List Value := [.int .i64 e.ad, .bool e.inw, .int .i64 e.kd, .int .i64 e.mx, .int .i64 e.iv]
def ecells (es : List En) : List Value := es.flatMap ecell
theorem ecells_length (es : List En) : (ecells es).length = es.length * 5 := by
  induction es with
  | nil => rfl
  | cons e r ih => rw [ecells, List.flatMap_cons, List.length_append, show (List.flatMap ecell r).length = r.length * 5 from ih, List.length_cons]; simp [ecell]; omega
theorem ecells_append (a b : List En) : ecells (a ++ b) = ecells a ++ ecells b := by simp [ecells]
theorem ecells_at : ∀ (es : List En) (j : Nat) (e : En), es[j]? = some e → ∀ i x, (ecell e)[i]? = some x → (ecells es)[j * 5 + i]? = some x := by
  intro es
  induction es with
  | nil => intro j e h; simp at h
  | cons a r ih =>
    intro j e h i x hx
    have hc : ecells (a :: r) = ecell a ++ ecells r := rfl
    have hl : (ecell a).length = 5 := rfl
    rw [hc]
    cases j with
    | zero =>
      simp at h; subst h
      have hi := (List.getElem?_eq_some_iff.1 hx).1
      rw [List.getElem?_append_left (by omega), Nat.zero_mul, Nat.zero_add]; exact hx
    | succ j =>
      rw [List.getElem?_append_right (by omega), hl, show (j + 1) * 5 + i - 5 = j * 5 + i by omega]
      exact ih j e (by simpa using h) i x hx
/-- ends that are read -/
def Rns (w : World) (v : Value) (es : List En) : Prop := Rdg w 5 v es.length (ecells es)
theorem Rns.below {w u : World} {v : Value} {es : List En} (h : Rns w v es) (hb : Below w.heap.size w u) : Rns u v es := Rdg.below h hb
theorem Rns.cell {w : World} {v : Value} {es : List En} (h : Rns w v es) : ∃ a c, v = .slice a es.length c ∧ es.length ≤ c ∧ c ≤ maxLen ∧
    ∀ j e, es[j]? = some e → ∃ g off, a = some ⟨g, off, none⟩ ∧ w.cell? ⟨g, off + j * 5, none⟩ = some (.int .i64 e.ad) ∧ w.cell? ⟨g, off + j * 5 + 1, none⟩ = some (.bool e.inw) ∧ w.cell? ⟨g, off + j * 5 + 2, none⟩ = some (.int .i64 e.kd) ∧ w.cell? ⟨g, off + j * 5 + 3, none⟩ = some (.int .i64 e.mx) ∧ w.cell? ⟨g, off + j * 5 + 4, none⟩ = some (.int .i64 e.iv) := by
  obtain ⟨a, c, hv, h1, h2, h3, h4⟩ := h
  refine ⟨a, c, hv, h1, h2, fun j e hj => ?_⟩
  have hl := (List.getElem?_eq_some_iff.1 hj).1
  obtain ⟨g, off, ha, hg, hc⟩ := h4 (by omega)
  have key : ∀ i x, (ecell e)[i]? = some x → w.cell? ⟨g, off + j * 5 + i, none⟩ = some x := fun i x hx => by
    rw [Nat.add_assoc]; exact hc _ _ (ecells_at es j e hj i x hx)
  exact ⟨g, off, ha, key 0 _ rfl, key 1 _ rfl, key 2 _ rfl, key 3 _ rfl, key 4 _ rfl⟩
/-- a face's value: its lists under the names ve, vd -/
abbrev fcV (f : Fc) (ve vd : Value) : Value := .agg #[.int .i64 f.cl, .int .i64 f.su, .int .i64 f.pr, .int .i64 f.nm, ve, vd]
abbrev FL := List (Fc × Value × Value)
def fcell (q : Fc × Value × Value) : List Value := [.int .i64 q.1.cl, .int .i64 q.1.su, .int .i64 q.1.pr, .int .i64 q.1.nm, q.2.1, q.2.2]
def fcells (L : FL) : List Value := L.flatMap fcell
theorem fcells_length (L : FL) : (fcells L).length = L.length * 6 := by
  induction L with
  | nil => rfl
  | cons e r ih => rw [fcells, List.flatMap_cons, List.length_append, show (List.flatMap fcell r).length = r.length * 6 from ih, List.length_cons]; simp [fcell]; omega
theorem fcells_append (a b : FL) : fcells (a ++ b) = fcells a ++ fcells b := by simp [fcells]
theorem fcells_at : ∀ (L : FL) (j : Nat) (q : Fc × Value × Value), L[j]? = some q → ∀ i x, (fcell q)[i]? = some x → (fcells L)[j * 6 + i]? = some x := by
  intro es
  induction es with
  | nil => intro j e h; simp at h
  | cons a r ih =>
    intro j e h i x hx
    have hc : fcells (a :: r) = fcell a ++ fcells r := rfl
    have hl : (fcell a).length = 6 := rfl
    rw [hc]
    cases j with
    | zero =>
      simp at h; subst h
      have hi := (List.getElem?_eq_some_iff.1 hx).1
      rw [List.getElem?_append_left (by omega), Nat.zero_mul, Nat.zero_add]; exact hx
    | succ j =>
      rw [List.getElem?_append_right (by omega), hl, show (j + 1) * 6 + i - 6 = j * 6 + i by omega]
      exact ih j e (by simpa using h) i x hx
/-- the lists of a face that are read, their texts of bytes -/
structure Rf (w : World) (q : Fc × Value × Value) : Prop where
  ex : Rts w q.2.1 q.1.ex
  en : Rns w q.2.2 q.1.en
  bb : BB q.1.ex
  sz : ∀ x ∈ q.1.ex, x.length ≤ maxLen
theorem Rf.below {w u : World} {q : Fc × Value × Value} (h : Rf w q) (hb : Below w.heap.size w u) : Rf u q := ⟨h.ex.below hb, h.en.below hb, h.bb, h.sz⟩
/-- faces that are read -/
structure Rfs (w : World) (v : Value) (L : FL) : Prop where
  row : Rdg w 6 v L.length (fcells L)
  all : ∀ q ∈ L, Rf w q
theorem Rfs.below {w u : World} {v : Value} {L : FL} (h : Rfs w v L) (hb : Below w.heap.size w u) : Rfs u v L := ⟨Rdg.below h.row hb, fun q hq => (h.all q hq).below hb⟩
theorem Rfs.cell {w : World} {v : Value} {L : FL} (h : Rfs w v L) : ∃ a c, v = .slice a L.length c ∧ L.length ≤ c ∧ c ≤ maxLen ∧
    ∀ j q, L[j]? = some q → ∃ g off, a = some ⟨g, off, none⟩ ∧ w.cell? ⟨g, off + j * 6, none⟩ = some (.int .i64 q.1.cl) ∧ w.cell? ⟨g, off + j * 6 + 1, none⟩ = some (.int .i64 q.1.su) ∧ w.cell? ⟨g, off + j * 6 + 2, none⟩ = some (.int .i64 q.1.pr) ∧ w.cell? ⟨g, off + j * 6 + 3, none⟩ = some (.int .i64 q.1.nm) ∧ w.cell? ⟨g, off + j * 6 + 4, none⟩ = some q.2.1 ∧ w.cell? ⟨g, off + j * 6 + 5, none⟩ = some q.2.2 := by
  obtain ⟨a, c, hv, h1, h2, h3, h4⟩ := h.row
  refine ⟨a, c, hv, h1, h2, fun j e hj => ?_⟩
  have hl := (List.getElem?_eq_some_iff.1 hj).1
  obtain ⟨g, off, ha, hg, hc⟩ := h4 (by omega)
  have key : ∀ i x, (fcell e)[i]? = some x → w.cell? ⟨g, off + j * 6 + i, none⟩ = some x := fun i x hx => by
    rw [Nat.add_assoc]; exact hc _ _ (fcells_at L j e hj i x hx)
  exact ⟨g, off, ha, key 0 _ rfl, key 1 _ rfl, key 2 _ rfl, key 3 _ rfl, key 4 _ rfl, key 5 _ rfl⟩
/-- a configuration's value -/
abbrev cfV (c : Cf) (v : Value) : Value := .agg #[.int .i64 c.va, .int .i64 c.na, .int .i64 c.atr, .int .i64 c.po, v]
/-- a configuration that is read -/
structure Rc (w : World) (v : Value) (c : Cf) (L : FL) : Prop where
  fs : Rfs w v L
  eq : L.map Prod.fst = c.fs
theorem Rc.below {w u : World} {v : Value} {c : Cf} {L : FL} (h : Rc w v c L) (hb : Below w.heap.size w u) : Rc u v c L := ⟨h.fs.below hb, h.eq⟩

theorem getD_bt (x : List Int) (hx : Byt x) (k : Nat) (h : k < x.length) : bt (strOfNums x) k = x.getD k 0 := by
  rw [bt_nums _ k (by rw [str_size]; exact h), nums_str x hx]
set_option maxHeartbeats 1000000 in
theorem isExtra_any (x : List Int) (w : World) (hx : Byt x) (hm : x.length ≤ maxLen) :
    Calls Try.prog 81 #[.string (strOfNums x)] w fun e w' => e = .returned (.bool (exOk x)) ∧ w = w' := by
  have hz := str_size x
  unfold maxLen at hm
  have hbt := get_bt (strOfNums x)
  have b0 := bt_le (strOfNums x) 0
  have b1 := bt_nonneg (strOfNums x) 0
  unfold exOk
  by_cases h2 : x.length < 2
  · rw [decide_eq_false (by omega), Bool.false_and, Bool.false_and]
    rw [← hz] at h2
    generalize strOfNums x = s at *
    clear hz
    go_enter Try.func81, Try.ntmps81
    go_wp2
    go_ret
    exact ⟨rfl, rfl⟩
  by_cases h3 : 32 < x.length
  · rw [decide_eq_true (show 2 ≤ x.length by omega), decide_eq_false (by omega), Bool.and_false, Bool.false_and]
    rw [← hz] at h2 h3
    generalize strOfNums x = s at *
    clear hz
    go_enter Try.func81, Try.ntmps81
    go_wp2
    go_ret
    exact ⟨rfl, rfl⟩
  rw [decide_eq_true (show 2 ≤ x.length by omega), decide_eq_true (show x.length ≤ 32 by omega), Bool.true_and, Bool.true_and, ← getD_bt x hx 0 (by omega), ← getD_bt x hx 1 (by omega)]
  rw [← hz] at h2 h3 ⊢
  generalize strOfNums x = s at *
  clear hz
  by_cases h4 : bt s 0 = (s.size : Int)
  · have e1 : (bt s 0 == (s.size : Int)) = true := by simpa using h4
    rw [e1, Bool.true_and]
    clear h4
    go_enter Try.func81, Try.ntmps81
    go_wp2
    go_ret
    exact ⟨rfl, rfl⟩
  · have e1 : (bt s 0 == (s.size : Int)) = false := by simpa using h4
    rw [e1, Bool.false_and]
    clear h4
    go_enter Try.func81, Try.ntmps81
    go_wp2
    go_ret
    exact ⟨rfl, rfl⟩
theorem endOk_is (e : En) : endOk e = (decide (1 ≤ e.ad) && (decide (e.ad ≤ 15) && (decide (1 ≤ e.mx) && (decide (e.mx ≤ 64) && (allB 3 [e.kd] && allB 255 [e.iv]))))) := by
  rw [Bool.eq_iff_iff, endOk_iff]
  simp [allB, inB]
  omega
set_option maxHeartbeats 1000000 in
theorem isEnd_any (e : En) (w : World) : Calls Try.prog 82 #[evV e] w fun r w' => r = .returned (.bool (endOk e)) ∧ Below w.heap.size w w' := by
  rw [endOk_is]
  obtain ⟨ad, inw, kd, mx, iv⟩ := e
  simp only
  obtain ⟨w0, hw0⟩ : ∃ w0, w.alloc (.cells #[.int .i64 ad, .bool inw, .int .i64 kd, .int .i64 mx, .int .i64 iv] 85) = w0 := ⟨_, rfl⟩
  have HB0 : Hid (Below w.heap.size w w0) := by rw [← hw0]; exact balloc _ _
  have c0 : w0.cell? ⟨w.heap.size, 0, none⟩ = some (.int .i64 ad) := by rw [← hw0, World.cell?_alloc_new]; rfl
  have c2 : w0.cell? ⟨w.heap.size, 2, none⟩ = some (.int .i64 kd) := by rw [← hw0, World.cell?_alloc_new]; rfl
  have c3 : w0.cell? ⟨w.heap.size, 3, none⟩ = some (.int .i64 mx) := by rw [← hw0, World.cell?_alloc_new]; rfl
  have c4 : w0.cell? ⟨w.heap.size, 4, none⟩ = some (.int .i64 iv) := by rw [← hw0, World.cell?_alloc_new]; rfl
  have HA : Hid (Calls Try.prog 63 #[.int .i64 3, .slice (some ⟨w0.heap.size, 0, none⟩) 1 1] (w0.alloc (.cells #[.int .i64 kd] 3)) fun e w' => e = .returned (.bool (allB 3 [kd])) ∧ (w0.alloc (.cells #[.int .i64 kd] 3)) = w') :=
    allWithin_any 3 _ [kd] _ (Rig.new w0 [kd] 3 (by simp [maxLen]))
  obtain ⟨w1, hw1⟩ : ∃ w1, w0.alloc (.cells #[.int .i64 kd] 3) = w1 := ⟨_, rfl⟩
  have hb1 : Below w0.heap.size w0 w1 := by rw [← hw1]; exact balloc _ _
  have HB1 : Hid (Below w.heap.size w w1) := bsq HB0.out hb1
  have d4 : w1.cell? ⟨w.heap.size, 4, none⟩ = some (.int .i64 iv) := kc hb1 c4
  have HC : Hid (Calls Try.prog 63 #[.int .i64 255, .slice (some ⟨w1.heap.size, 0, none⟩) 1 1] (w1.alloc (.cells #[.int .i64 iv] 3)) fun e w' => e = .returned (.bool (allB 255 [iv])) ∧ (w1.alloc (.cells #[.int .i64 iv] 3)) = w') :=
    allWithin_any 255 _ [iv] _ (Rig.new w1 [iv] 3 (by simp [maxLen]))
  rw [hw1] at HA
  clear hb1
  generalize allB 3 [kd] = x at *
  generalize allB 255 [iv] = y at *
  by_cases h1 : 1 ≤ ad
  · rw [decide_eq_true h1, Bool.true_and]
    by_cases h2 : ad ≤ 15
    · rw [decide_eq_true h2, Bool.true_and]
      by_cases h3 : 1 ≤ mx
      · rw [decide_eq_true h3, Bool.true_and]
        by_cases h4 : mx ≤ 64
        · rw [decide_eq_true h4, Bool.true_and]
          cases x
          · rw [Bool.false_and]
            clear HC
            go_enter Try.func82, Try.ntmps82
            go_wp2_with fail
            refine HA.out.mono ?_
            rintro e wa ⟨rfl, rfl⟩
            go_wp2
            go_ret
            exact ⟨rfl, HB1.out⟩
          · rw [Bool.true_and]
            go_enter Try.func82, Try.ntmps82
            go_wp2_with fail
            refine HA.out.mono ?_
            rintro e wa ⟨rfl, rfl⟩
            go_wp2_with fail
            refine HC.out.mono ?_
            rintro e wa ⟨rfl, rfl⟩
            go_wp2
            go_ret
            exact ⟨rfl, bsq HB1.out (balloc _ _)⟩
        · rw [decide_eq_false h4, Bool.false_and]
          clear HA HC
          go_enter Try.func82, Try.ntmps82
          go_wp2
          go_ret
          exact ⟨rfl, HB0.out⟩
      · rw [decide_eq_false h3, Bool.false_and]
        clear HA HC
        go_enter Try.func82, Try.ntmps82
        go_wp2
        go_ret
        exact ⟨rfl, HB0.out⟩
    · rw [decide_eq_false h2, Bool.false_and]
      clear HA HC
      go_enter Try.func82, Try.ntmps82
      go_wp2
      go_ret
      exact ⟨rfl, HB0.out⟩
  · rw [decide_eq_false h1, Bool.false_and]
    clear HA HC
    go_enter Try.func82, Try.ntmps82
    go_wp2
    go_ret
    exact ⟨rfl, HB0.out⟩
end Go.Proofs.Ytonheibhbilhhaa.desc

/- desc: the ways that are taken, as a map; what checkFace answers. -/
namespace Go.Proofs.Ytonheibhbilhhaa.desc
open Go.RowKit Go.PlainAid Go.Proofs.Ytonheibhbilhhaa.lane Go.ChangeMaps
set_option linter.unusedVariables false
set_option linter.unusedSimpArgs false
set_option maxRecDepth 100000

abbrev wyV (p : Int × Bool) : Value := .agg #[.int .i64 p.1, .bool p.2]
theorem wy_laid : laidOutB Try.prog = true := by kernel_rfl
theorem wy_row : (128 : TypeId) < Try.prog.types.size := of_decide_eq_true (by kernel_rfl)
theorem wy_wide : (match Try.prog.underlying 128 with | some (.array _ _) | some (.struct _) => true | _ => false) = true := by rw [Try.underlying128]
theorem wy_law : WideMaps.KeyLaw Try.prog 128 := deep_law_laid wy_laid (m := 2) (by omega) wy_row (by kernel_rfl) wy_wide
theorem wy_zero (w : World) : (zeroValue 3).run Try.prog w = .ok (.int .i64 0) w := by kernel_rfl
theorem wy_key (p : Int × Bool) (h1 : 1 ≤ p.1) (h2 : p.1 ≤ 15) : ∃ l, keyOf Try.prog 128 (wyV p) = some l := by
  obtain ⟨a, i⟩ := p
  simp only at h1 h2
  have h : a = 1 ∨ a = 2 ∨ a = 3 ∨ a = 4 ∨ a = 5 ∨ a = 6 ∨ a = 7 ∨ a = 8 ∨ a = 9 ∨ a = 10 ∨ a = 11 ∨ a = 12 ∨ a = 13 ∨ a = 14 ∨ a = 15 := by omega
  rcases h with rfl | rfl | rfl | rfl | rfl | rfl | rfl | rfl | rfl | rfl | rfl | rfl | rfl | rfl | rfl <;> cases i <;> exact Option.isSome_iff_exists.1 (by decide +kernel)
theorem wyV_inj {p q : Int × Bool} (h : wyV p = wyV q) : p = q := by
  obtain ⟨a, i⟩ := p
  obtain ⟨b, j⟩ := q
  simp at h
  exact Prod.ext h.1 h.2
/-- block b is a map whose keys are just these ways -/
def Mp (w : World) (b : Nat) (tk : List (Int × Bool)) : Prop := ∃ (es : Array MapEntry) (clock : Nat), w.heap[b]? = some (.map es clock) ∧ (∀ x ∈ es.toList, x.born < clock) ∧ (es.toList.map (·.born)).Nodup ∧
  (∀ x ∈ es.toList, ∃ p ∈ tk, x.key = wyV p ∧ x.val = .int .i64 1) ∧ (∀ p ∈ tk, ∃ x ∈ es.toList, x.key = wyV p) ∧ (∀ p ∈ tk, 1 ≤ p.1 ∧ p.1 ≤ 15)
theorem Mp.made (w : World) : Mp (w.alloc (.map #[] 0)) w.heap.size [] := by
  refine ⟨#[], 0, (MapKept.heap_alloc w _).1, fun x hx => ?_, ?_, fun x hx => ?_, fun p hp => ?_, fun p hp => ?_⟩
  · simp at hx
  · simp
  · simp at hx
  · simp at hp
  · simp at hp
theorem Mp.lt {w : World} {b : Nat} {tk : List (Int × Bool)} (h : Mp w b tk) : b < w.heap.size := by
  obtain ⟨es, clock, hb, _⟩ := h
  exact (Array.getElem?_eq_some_iff.1 hb).1
theorem Mp.keep {w u : World} {b : Nat} {tk : List (Int × Bool)} (h : Mp w b tk) (hu : u.heap[b]? = w.heap[b]?) : Mp u b tk := by
  obtain ⟨es, clock, hb, q⟩ := h
  exact ⟨es, clock, hu.trans hb, q⟩
theorem Mp.below {w u : World} {b : Nat} {tk : List (Int × Bool)} (h : Mp w b tk) (hb : Below w.heap.size w u) : Mp u b tk := h.keep (hb.block b h.lt)
theorem Mp.drew {w : World} {b : Nat} {tk : List (Int × Bool)} (h : Mp w b tk) : Mp w.drew b tk := h.keep rfl
/-- nothing but a map's block has turned: what is read in cells stands -/
theorem map_cell {w u : World} {b : Nat} {tk : List (Int × Bool)} (h : Mp w b tk) (hg : w.grownBy u (some b)) {g o : Nat} {x : Value} (hx : w.cell? ⟨g, o, none⟩ = some x) : u.cell? ⟨g, o, none⟩ = some x := by
  have hlt := World.block_lt_of_cell? w _ hx
  have hne : g ≠ b := by
    rintro rfl
    obtain ⟨es, clock, hb, _⟩ := h
    simp [World.cell?, hb] at hx
  have e := hg.block g hlt (by simpa using hne)
  rw [← hx]
  exact World.cell?_of_block (w := w) e
theorem Rdg.mapped {w u : World} {b : Nat} {tk : List (Int × Bool)} {s : Nat} {v : Value} {n : Nat} {cs : List Value} (h : Rdg w s v n cs) (hm : Mp w b tk) (hg : w.grownBy u (some b)) : Rdg u s v n cs := by
  obtain ⟨a, c, hv, h1, h2, h3, h4⟩ := h
  refine ⟨a, c, hv, h1, h2, h3, fun hn => ?_⟩
  obtain ⟨g, off, ha, hgl, hc⟩ := h4 hn
  exact ⟨g, off, ha, Nat.lt_of_lt_of_le hgl hg.size, fun j x hx => map_cell hm hg (hc j x hx)⟩
theorem Mp.keys {w : World} {b : Nat} {tk : List (Int × Bool)} {es : Array MapEntry} (h3 : ∀ x ∈ es.toList, ∃ p ∈ tk, x.key = wyV p ∧ x.val = .int .i64 1) (h5 : ∀ p ∈ tk, 1 ≤ p.1 ∧ p.1 ≤ 15) : ∀ e ∈ es.toList, ∃ l, keyOf Try.prog 128 e.key = some l := by
  intro x hx
  obtain ⟨p, hp, hk, _⟩ := h3 x hx
  rw [hk]
  exact wy_key p (h5 p hp).1 (h5 p hp).2
theorem Mp.look {w : World} {b : Nat} {tk : List (Int × Bool)} (h : Mp w b tk) (p : Int × Bool) (h1 : 1 ≤ p.1) (h2 : p.1 ≤ 15) :
    (Instr.lookup 114 (.map (some b)) (wyV p) false).run Try.prog w = .ok (.int .i64 (if tk.contains p = true then 1 else 0)) w := by
  obtain ⟨es, clock, hb, g1, g2, g3, g4, g5⟩ := h
  obtain ⟨l, hkey⟩ := wy_key p h1 h2
  rcases wy_law.find w hkey es.toList (Mp.keys (w := w) (b := b) g3 g5) with ⟨f1, f2⟩ | ⟨j, e0, f1, f2, f3⟩
  · have hn : tk.contains p = false := by
      rw [List.contains_eq_mem, decide_eq_false_iff_not]
      intro hp
      obtain ⟨x, hx, hk⟩ := g4 p hp
      exact f2 x hx hk
    rw [hn]
    simp [Instr.lookup, run_underlying Try.underlying114, MapKept.run_getObj_map hb, wy_law.check w _ hkey, f1, wy_zero, Result.andThen]
  · obtain ⟨p', hp', hk, hv⟩ := g3 e0 (List.mem_of_getElem? f2)
    have : p' = p := wyV_inj (hk.symm.trans f3)
    subst this
    have hn : tk.contains p' = true := by rw [List.contains_eq_mem, decide_eq_true_eq]; exact hp'
    rw [hn]
    simp [Instr.lookup, run_underlying Try.underlying114, MapKept.run_getObj_map hb, wy_law.check w _ hkey, f1, hv, Result.andThen]
theorem set_grown (w : World) (b : Nat) (o : Obj) : w.grownBy (setBlock w b o) (some b) := by
  refine ⟨rfl, rfl, rfl, by simp [setBlock], fun k hk hne => ?_⟩
  have : b ≠ k := fun q => hne (by rw [q])
  simp [setBlock, Array.getElem?_setIfInBounds, this]
theorem set_at (w : World) (b : Nat) (o : Obj) (h : b < w.heap.size) : (setBlock w b o).heap[b]? = some o := by
  simp [setBlock, Array.getElem?_setIfInBounds, h]
/-- a way is put into the map: its place first, or what stands there first -/
theorem Mp.enter {w : World} {b : Nat} {tk : List (Int × Bool)} (h : Mp w b tk) (p : Int × Bool) (h1 : 1 ≤ p.1) (h2 : p.1 ≤ 15) (hn : tk.contains p = false) :
    ∃ (st : Nat) (W1 W2 : World), (Instr.mapEntry 114 (.map (some b)) (wyV p)).run Try.prog w = .ok (.tuple #[.int .i64 0, .int .i64 (st : Int)]) W1 ∧
      (Instr.lookup 114 (.map (some b)) (wyV p) false).run Try.prog W1 = .ok (.int .i64 0) W1 ∧
      (Instr.entryStore 114 (.map (some b)) (.int .i64 (st : Int)) (.int .i64 1)).run Try.prog W1 = .ok () W2 ∧ Mp W2 b (tk ++ [p]) ∧ w.grownBy W1 (some b) ∧ w.grownBy W2 (some b) := by
  have hlt := h.lt
  obtain ⟨es, clock, hb, g1, g2, g3, g4, g5⟩ := h
  obtain ⟨l, hkey⟩ := wy_key p h1 h2
  have hnp : p ∉ tk := by rw [List.contains_eq_mem, decide_eq_false_iff_not] at hn; exact hn
  have hab : ∀ x ∈ es.toList, x.key ≠ wyV p := fun x hx hk => by
    obtain ⟨p', hp', hk', _⟩ := g3 x hx
    exact hnp (wyV_inj (hk'.symm.trans hk) ▸ hp')
  have hb1 := set_at w b (.map (es.push ⟨wyV p, .int .i64 0, clock⟩) (clock + 1)) hlt
  refine ⟨clock, setBlock w b (.map (es.push ⟨wyV p, .int .i64 0, clock⟩) (clock + 1)), setBlock (setBlock w b (.map (es.push ⟨wyV p, .int .i64 0, clock⟩) (clock + 1))) b (.map (es.push ⟨wyV p, .int .i64 1, clock⟩) (clock + 1)), ?_, ?_, ?_, ?_, set_grown _ _ _, ?_⟩
  · rcases wy_law.find w hkey es.toList (Mp.keys (w := w) (b := b) g3 g5) with ⟨f1, f2⟩ | ⟨j, e0, f1, f2, f3⟩
    · simp [Instr.mapEntry, run_underlying Try.underlying114, MapKept.run_getObj_map hb, wy_law.check w false hkey, f1, wy_zero, MapKept.run_setObj_map _ hb, Result.andThen, setBlock, goInt]
    · exact absurd f3 (hab e0 (List.mem_of_getElem? f2))
  · have hks : ∀ e ∈ (es.push ⟨wyV p, .int .i64 0, clock⟩).toList, ∃ l, keyOf Try.prog 128 e.key = some l := by
      intro e he
      rw [Array.toList_push, List.mem_append] at he
      rcases he with he | he
      · exact Mp.keys (w := w) (b := b) g3 g5 e he
      · simp at he; subst he; exact ⟨l, hkey⟩
    rcases wy_law.find (setBlock w b (.map (es.push ⟨wyV p, .int .i64 0, clock⟩) (clock + 1))) hkey _ hks with ⟨f1, f2⟩ | ⟨j, e0, f1, f2, f3⟩
    · exact absurd rfl (f2 ⟨wyV p, .int .i64 0, clock⟩ (by simp))
    · have hv : e0.val = .int .i64 0 := by
        have hm := List.mem_of_getElem? f2
        rw [Array.toList_push, List.mem_append] at hm
        rcases hm with hm | hm
        · exact absurd f3 (hab e0 hm)
        · simp at hm; rw [hm]
      simp [Instr.lookup, run_underlying Try.underlying114, MapKept.run_getObj_map hb1, wy_law.check _ _ hkey]
      simp only [Array.toList_push] at f1
      simp [f1, hv, Result.andThen]
  · have hidx : (es.push ⟨wyV p, .int .i64 0, clock⟩).findIdx? (fun e => ((e.born : Nat) : Int) == ((clock : Nat) : Int)) = some es.size := by
      rw [WideElems.findIdx_arr]
      have := WideElems.findIdx_born (l := (es.push ⟨wyV p, .int .i64 0, clock⟩).toList) (j := es.size) (e0 := ⟨wyV p, .int .i64 0, clock⟩) (by
        simp only [Array.toList_push, List.map_append, List.map_cons, List.map_nil]
        refine List.nodup_append.2 ⟨g2, by simp, fun a ha c hc e1 => ?_⟩
        simp only [List.mem_singleton] at hc
        obtain ⟨x, hx, rfl⟩ := List.mem_map.1 ha
        have := g1 x hx
        omega) (by simp)
      exact this
    have hmod : (es.push ⟨wyV p, .int .i64 0, clock⟩).modify es.size (fun e => { e with val := .int .i64 1 }) = es.push ⟨wyV p, .int .i64 1, clock⟩ := by
      apply Array.ext'
      rw [Array.toList_modify, Array.toList_push, Array.toList_push, ← Array.length_toList, WideElems.modify_last]
    generalize setBlock w b (.map (es.push ⟨wyV p, .int .i64 0, clock⟩) (clock + 1)) = W1 at hb1 ⊢
    simp [Instr.entryStore, MapKept.run_getObj_map hb1, asInt, asIntOf, hidx, hmod, MapKept.run_setObj_map _ hb1, Result.andThen, setBlock]
  · refine ⟨es.push ⟨wyV p, .int .i64 1, clock⟩, clock + 1, set_at _ _ _ (by simp [setBlock]; exact hlt), fun x hx => ?_, ?_, fun x hx => ?_, fun q hq => ?_, fun q hq => ?_⟩
    · rw [Array.toList_push, List.mem_append] at hx
      rcases hx with hx | hx
      · have := g1 x hx; omega
      · simp at hx; subst hx; simp
    · simp only [Array.toList_push, List.map_append, List.map_cons, List.map_nil]
      refine List.nodup_append.2 ⟨g2, by simp, fun a ha c hc e1 => ?_⟩
      simp only [List.mem_singleton] at hc
      obtain ⟨x, hx, rfl⟩ := List.mem_map.1 ha
      have := g1 x hx
      omega
    · rw [Array.toList_push, List.mem_append] at hx
      rcases hx with hx | hx
      · obtain ⟨q, hq, r⟩ := g3 x hx
        exact ⟨q, by simp [hq], r⟩
      · simp at hx; subst hx; exact ⟨p, by simp, rfl, rfl⟩
    · rw [List.mem_append] at hq
      rcases hq with hq | hq
      · obtain ⟨x, hx, r⟩ := g4 q hq
        exact ⟨x, by rw [Array.toList_push]; simp [hx], r⟩
      · simp at hq; subst hq; exact ⟨⟨wyV q, .int .i64 1, clock⟩, by simp, rfl⟩
    · rw [List.mem_append] at hq
      rcases hq with hq | hq
      · exact g5 q hq
      · simp at hq; subst hq; exact ⟨h1, h2⟩
  · refine ⟨rfl, rfl, rfl, by simp [setBlock], fun k hk hne => ?_⟩
    have : b ≠ k := fun q => hne (by rw [q])
    simp [setBlock, Array.getElem?_setIfInBounds, this]
end Go.Proofs.Ytonheibhbilhhaa.desc

/- desc: what checkFace answers. -/
namespace Go.Proofs.Ytonheibhbilhhaa.desc
open Go.RowKit Go.PlainAid Go.Proofs.Ytonheibhbilhhaa.lane Go.ChangeMaps
set_option linter.unusedVariables false

theorem gtr {w u v : World} {b : Nat} (h1 : w.grownBy u (some b)) (h2 : u.grownBy v (some b)) : w.grownBy v (some b) :=
  ⟨h2.os.trans h1.os, h2.tape.trans h1.tape, h2.output.trans h1.output, Nat.le_trans h1.size h2.size, fun k hk hne => (h2.block k (Nat.lt_of_lt_of_le hk h1.size) hne).trans (h1.block k hk hne)⟩
theorem gbel {w u : World} {b : Nat} (h : Below w.heap.size w u) : w.grownBy u (some b) := ⟨h.os, h.tape, h.output, h.size, fun k hk _ => h.block k hk⟩
theorem gdrew {w u : World} {b : Nat} (h : w.drew.grownBy u (some b)) : w.grownBy u (some b) := ⟨h.os, h.tape, h.output, h.size, fun k hk hne => h.block k hk hne⟩
theorem headF_is (f : Fc) : headF f = allB 255 [f.cl, f.su, f.pr, f.nm] := by simp [headF, allB, byt, inB]
theorem chkE_bad {tk : List (Int × Bool)} {e : En} {r : List En} (h : endOk e = false) : chkE tk (e :: r) = 1 := by rw [chkE, if_pos h]
theorem chkE_two {tk : List (Int × Bool)} {e : En} {r : List En} (h : endOk e = true) (h2 : tk.contains (wayOf e) = true) : chkE tk (e :: r) = 13 := by rw [chkE, if_neg (by simp [h]), if_pos h2]
theorem chkE_on {tk : List (Int × Bool)} {e : En} {r : List En} (h : endOk e = true) (h2 : tk.contains (wayOf e) = false) : chkE tk (e :: r) = chkE (tk ++ [wayOf e]) r := by rw [chkE, if_neg (by simp [h]), if_neg (by rw [h2]; simp)]
theorem take_way (tk : List (Int × Bool)) (en : List En) (k : Nat) (e : En) (h : en[k]? = some e) : tk ++ (en.take k).map wayOf ++ [wayOf e] = tk ++ (en.take (k + 1)).map wayOf := by
  obtain ⟨hk, he⟩ := List.getElem?_eq_some_iff.1 h
  rw [List.take_succ_eq_append_getElem hk, List.map_append, he, List.append_assoc]; rfl
theorem all_drop (ex : List (List Int)) (k : Nat) (x : List Int) (h : ex[k]? = some x) : (ex.drop k).all exOk = (exOk x && (ex.drop (k + 1)).all exOk) := by
  obtain ⟨hk, he⟩ := List.getElem?_eq_some_iff.1 h
  rw [List.drop_eq_getElem_cons hk, List.all_cons, he]

set_option maxRecDepth 100000 in
set_option maxHeartbeats 4000000 in
theorem checkFace_any (q : Fc × Value × Value) (tk : List (Int × Bool)) (b : Nat) (w : World) (hf : Rf w q) (hm : Mp w b tk) :
    Calls Try.prog 64 #[fcV q.1 q.2.1 q.2.2, .map (some b)] w fun e w' => e = .returned (.int .i64 (chkF tk q.1)) ∧ (chkF tk q.1 = 0 → Mp w' b (tk ++ q.1.en.map wayOf)) ∧ w.grownBy w' (some b) := by
  obtain ⟨⟨cl, su, pr, nm, ex, en⟩, ve, vd⟩ := q
  obtain ⟨hfx, hfn, hfb, hfz⟩ := hf
  simp only at hfx hfn hfb hfz ⊢
  obtain ⟨w0, hw0⟩ : ∃ w0, w.alloc (.cells #[.int .i64 cl, .int .i64 su, .int .i64 pr, .int .i64 nm, ve, vd] 76) = w0 := ⟨_, rfl⟩
  have hb0 : Below w.heap.size w w0 := by rw [← hw0]; exact balloc _ _
  have f0 : w0.cell? ⟨w.heap.size, 0, none⟩ = some (.int .i64 cl) := by rw [← hw0, World.cell?_alloc_new]; rfl
  have f1 : w0.cell? ⟨w.heap.size, 1, none⟩ = some (.int .i64 su) := by rw [← hw0, World.cell?_alloc_new]; rfl
  have f2 : w0.cell? ⟨w.heap.size, 2, none⟩ = some (.int .i64 pr) := by rw [← hw0, World.cell?_alloc_new]; rfl
  have f3 : w0.cell? ⟨w.heap.size, 3, none⟩ = some (.int .i64 nm) := by rw [← hw0, World.cell?_alloc_new]; rfl
  have f4 : w0.cell? ⟨w.heap.size, 4, none⟩ = some ve := by rw [← hw0, World.cell?_alloc_new]; rfl
  have f5 : w0.cell? ⟨w.heap.size, 5, none⟩ = some vd := by rw [← hw0, World.cell?_alloc_new]; rfl
  have HA : Hid (Calls Try.prog 63 #[.int .i64 255, .slice (some ⟨w0.heap.size, 0, none⟩) 4 4] (w0.alloc (.cells #[.int .i64 cl, .int .i64 su, .int .i64 pr, .int .i64 nm] 3)) fun e w' => e = .returned (.bool (allB 255 [cl, su, pr, nm])) ∧ (w0.alloc (.cells #[.int .i64 cl, .int .i64 su, .int .i64 pr, .int .i64 nm] 3)) = w') :=
    allWithin_any 255 _ [cl, su, pr, nm] _ (Rig.new w0 [cl, su, pr, nm] 3 (by simp [maxLen]))
  obtain ⟨w1, hw1⟩ : ∃ w1, w0.alloc (.cells #[.int .i64 cl, .int .i64 su, .int .i64 pr, .int .i64 nm] 3) = w1 := ⟨_, rfl⟩
  rw [hw1] at HA
  have hb01 : Below w0.heap.size w0 w1 := by rw [← hw1]; exact balloc _ _
  have hb1 : Below w.heap.size w w1 := bsq hb0 hb01
  have g4 : w1.cell? ⟨w.heap.size, 4, none⟩ = some ve := kc hb01 f4
  have g5 : w1.cell? ⟨w.heap.size, 5, none⟩ = some vd := kc hb01 f5
  have hM1 := hm.below hb1
  have HG1 : Hid (w.grownBy w1 (some b)) := gbel hb1
  have hX1 := hfx.below hb1
  have hN1 := hfn.below hb1
  obtain ⟨ax, cx, rfl, hlx, hcx, hcellx⟩ := hX1.cell
  obtain ⟨an, cn, rfl, hln, hcn, hcelln⟩ := hN1.cell
  have HCX : Hid (∀ j p, ex[j]? = some p → ∃ g off, ax = some ⟨g, off, none⟩ ∧ w1.cell? ⟨g, off + j, none⟩ = some (.string (strOfNums p))) := hcellx
  have HCN : Hid (∀ j e, en[j]? = some e → ∃ g off, an = some ⟨g, off, none⟩ ∧ w1.cell? ⟨g, off + j * 5, none⟩ = some (.int .i64 e.ad) ∧ w1.cell? ⟨g, off + j * 5 + 1, none⟩ = some (.bool e.inw) ∧ w1.cell? ⟨g, off + j * 5 + 2, none⟩ = some (.int .i64 e.kd) ∧ w1.cell? ⟨g, off + j * 5 + 3, none⟩ = some (.int .i64 e.mx) ∧ w1.cell? ⟨g, off + j * 5 + 4, none⟩ = some (.int .i64 e.iv)) := hcelln
  have HM1 : Hid (Mp w1 b tk) := hM1
  have HFB : Hid (∀ x ∈ ex, Byt x ∧ x.length ≤ maxLen) := fun x hx => ⟨hfb x hx, hfz x hx⟩
  have hch : chkF tk ⟨cl, su, pr, nm, ex, en⟩ = if allB 255 [cl, su, pr, nm] = false then 1 else if 2 < ex.length then 2 else if ex.all exOk = false then 1 else if 4 < en.length then 2 else chkE tk en := by
    unfold chkF; rw [headF_is]
  rw [hch]
  unfold maxLen at hcx hcn
  clear hfx hfn hfb hfz hm hb0 hb01 hb1 hX1 hN1 hcellx hcelln hM1 hch
  obtain ⟨nx, hnx⟩ : ∃ n, ex.length = n := ⟨_, rfl⟩
  obtain ⟨nd, hnd⟩ : ∃ n, en.length = n := ⟨_, rfl⟩
  have HNX : Hid (ex.length = nx) := hnx
  have HND : Hid (en.length = nd) := hnd
  rw [hnx] at hlx
  rw [hnd] at hln
  rw [hnx] at f4 g4
  rw [hnd] at f5 g5
  rw [hnx, hnd] at hw0 ⊢
  clear hnx hnd
  cases hall : allB 255 [cl, su, pr, nm]
  · rw [hall] at HA
    rw [if_pos rfl]
    clear hall
    go_enter Try.func64, Try.ntmps64
    go_wp2_with fail
    refine HA.out.mono ?_
    rintro e wa ⟨rfl, rfl⟩
    go_wp2
    go_ret
    exact ⟨rfl, fun h => by simp at h, HG1.out⟩
  rw [hall] at HA
  rw [if_neg (by simp)]
  clear hall
  by_cases hx2 : 2 < nx
  · rw [if_pos hx2]
    go_enter Try.func64, Try.ntmps64
    go_wp2_with fail
    refine HA.out.mono ?_
    rintro e wa ⟨rfl, rfl⟩
    go_wp2
    go_ret
    exact ⟨rfl, fun h => by simp at h, HG1.out⟩
  rw [if_neg hx2]
  obtain ⟨z, hz⟩ : ∃ z, (if ex.all exOk = false then 1 else if 4 < nd then 2 else chkE tk en) = z := ⟨_, rfl⟩
  rw [hz]
  have HZ : Hid ((if ex.all exOk = false then 1 else if 4 < nd then 2 else chkE tk en) = z) := hz
  clear hz
  go_enter Try.func64, Try.ntmps64
  go_wp2_with fail
  refine HA.out.mono ?_
  rintro e wa ⟨rfl, rfl⟩
  clear HA
  go_wp2
  go_loop [28] (fun i => ∃ k : Nat, k ≤ nx ∧ i = .int .i64 (k : Int) ∧ Hid ((ex.drop k).all exOk = ex.all exOk)) (fun i => nx - (intOf i).toNat)
  case atStart => exact ⟨0, Nat.zero_le _, rfl, rfl⟩
  case round =>
    obtain ⟨k, hk, rfl, HR⟩ := hrel
    by_cases hlt : k < nx
    · have hk1 : k < ex.length := by have := HNX.out; omega
      obtain ⟨x, hx⟩ : ∃ x, ex[k]? = some x := ⟨ex[k], List.getElem?_eq_getElem hk1⟩
      obtain ⟨g, off, rfl, c1⟩ := HCX.out k x hx
      obtain ⟨hxb, hxm⟩ := HFB.out x (List.mem_of_getElem? hx)
      have HI : Hid (Calls Try.prog 81 #[.string (strOfNums x)] w1 fun e w' => e = .returned (.bool (exOk x)) ∧ w1 = w') := isExtra_any x w1 hxb hxm
      have hR := HR.out
      rw [all_drop ex k x hx] at hR
      generalize strOfNums x = t at c1 HI
      cases hox : exOk x
      · rw [hox] at HI hR
        rw [Bool.false_and] at hR
        have HH : Hid (false = ex.all exOk) := hR
        clear HCX HCN HFB HR hR hx hox hxb hxm
        go_wp2_with fail
        refine HI.out.mono ?_
        rintro e wa ⟨rfl, rfl⟩
        go_wp2
        go_ret
        have hz := HZ.out
        rw [← HH.out, if_pos rfl] at hz
        subst hz
        exact ⟨rfl, fun h => by simp at h, HG1.out⟩
      · rw [hox] at HI hR
        rw [Bool.true_and] at hR
        have HH : Hid ((ex.drop (k + 1)).all exOk = ex.all exOk) := hR
        clear HCX HCN HFB HR hR hx hox hxb hxm
        go_wp2_with fail
        refine HI.out.mono ?_
        rintro e wa ⟨rfl, rfl⟩
        go_wp2
        go_round
        case rel => exact ⟨k + 1, by omega, by go_num, HH⟩
        case measure => simp [intOf]; omega
    · have hR := HR.out
      rw [List.drop_eq_nil_of_le (by have := HNX.out; omega)] at hR
      have HH : Hid (true = ex.all exOk) := hR
      clear HR hR HCX HFB
      by_cases hn4 : 4 < nd
      · go_wp2
        go_ret
        have hz := HZ.out
        rw [← HH.out, if_neg (by simp), if_pos hn4] at hz
        subst hz
        exact ⟨rfl, fun h => by simp at h, HG1.out⟩
      go_wp2
      go_loopw [43] (fun i wr => ∃ k : Nat, k ≤ nd ∧ i = .int .i64 (k : Int) ∧ Mp wr b (tk ++ (en.take k).map wayOf) ∧ w1.grownBy wr (some b) ∧ Hid (chkE (tk ++ (en.take k).map wayOf) (en.drop k) = chkE tk en)) (fun i _ => nd - (intOf i).toNat)
      case atStart => exact ⟨0, Nat.zero_le _, rfl, by simpa using HM1.out, World.grownBy.refl _ _, by show _ = _; simp⟩
      case round =>
        obtain ⟨k, hk, rfl, hMr, hgr, HR⟩ := hrel
        by_cases hlt : k < nd
        · have hk1 : k < en.length := by have := HND.out; omega
          obtain ⟨e, he⟩ : ∃ e, en[k]? = some e := ⟨en[k], List.getElem?_eq_getElem hk1⟩
          obtain ⟨g, off, rfl, c0, c1, c2, c3, c4⟩ := HCN.out k e he
          have d0 := map_cell HM1.out hgr c0
          have d1 := map_cell HM1.out hgr c1
          have d2 := map_cell HM1.out hgr c2
          have d3 := map_cell HM1.out hgr c3
          have d4 := map_cell HM1.out hgr c4
          have hR := HR.out
          rw [List.drop_eq_getElem_cons hk1, (List.getElem?_eq_some_iff.1 he).2] at hR
          have htw := take_way tk en k e he
          obtain ⟨T, hT⟩ : ∃ T, tk ++ (en.take k).map wayOf = T := ⟨_, rfl⟩
          rw [hT] at hR htw hMr
          have HMr : Hid (Mp wr b T) := hMr
          have HGr : Hid (w.grownBy wr (some b)) := gtr HG1.out hgr
          have HGr1 : Hid (w1.grownBy wr (some b)) := hgr
          have HTW : Hid (T ++ [wayOf e] = tk ++ (en.take (k + 1)).map wayOf) := htw
          have hIE : ∀ u : World, Calls Try.prog 82 #[evV e] u fun r w' => r = .returned (.bool (endOk e)) ∧ Below u.heap.size u w' := fun u => isEnd_any e u
          have hbd : endOk e = true → 1 ≤ e.ad ∧ e.ad ≤ 15 := fun h => ((endOk_iff e).1 h).1
          obtain ⟨w2, hw2⟩ : ∃ w2, wr.alloc (.cells #[.int .i64 e.ad, .bool e.inw, .int .i64 e.kd, .int .i64 e.mx, .int .i64 e.iv] 85) = w2 := ⟨_, rfl⟩
          have hb2 : Below wr.heap.size wr w2 := by rw [← hw2]; exact balloc _ _
          have e0 : w2.cell? ⟨wr.heap.size, 0, none⟩ = some (.int .i64 e.ad) := by rw [← hw2, World.cell?_alloc_new]; rfl
          have e1 : w2.cell? ⟨wr.heap.size, 1, none⟩ = some (.bool e.inw) := by rw [← hw2, World.cell?_alloc_new]; rfl
          have e2 : w2.cell? ⟨wr.heap.size, 2, none⟩ = some (.int .i64 e.kd) := by rw [← hw2, World.cell?_alloc_new]; rfl
          have e3 : w2.cell? ⟨wr.heap.size, 3, none⟩ = some (.int .i64 e.mx) := by rw [← hw2, World.cell?_alloc_new]; rfl
          have e4 : w2.cell? ⟨wr.heap.size, 4, none⟩ = some (.int .i64 e.iv) := by rw [← hw2, World.cell?_alloc_new]; rfl
          have HG2 : Hid (w.grownBy w2 (some b)) := gtr HGr.out (gbel hb2)
          have HM2 : Hid (Mp w2 b T) := HMr.out.below hb2
          have HG12 : Hid (w1.grownBy w2 (some b)) := gtr HGr1.out (gbel hb2)
          clear c0 c1 c2 c3 c4 hMr hgr htw hT HR hb2 HCN
          cases hok : endOk e
          · have hc1 := chkE_bad (tk := T) (r := en.drop (k + 1)) hok
            rw [hc1] at hR
            have HH' : Hid (1 = chkE tk en) := hR
            have HIE : Hid (∀ u : World, Calls Try.prog 82 #[evV e] u fun r w' => r = .returned (.bool false) ∧ Below u.heap.size u w') := fun u => by have := hIE u; rw [hok] at this; exact this
            obtain ⟨ad, inw, kd, mx, iv⟩ := e
            simp only at *
            clear hR hc1 hIE hbd hok HTW he
            go_wp2_with fail
            refine (HIE.out _).mono ?_
            rintro r w3 ⟨rfl, hb3⟩
            have HG3 : Hid (w.grownBy w3 (some b)) := gtr HG2.out (gbel hb3)
            clear hb3
            go_wp2
            go_ret
            have hz := HZ.out
            rw [← HH.out, if_neg (by simp), if_neg hn4, ← HH'.out] at hz
            subst hz
            exact ⟨rfl, fun h => by simp at h, HG3.out⟩
          · obtain ⟨ba, ba'⟩ := hbd hok
            have HIE : Hid (∀ u : World, Calls Try.prog 82 #[evV e] u fun r w' => r = .returned (.bool true) ∧ Below u.heap.size u w') := fun u => by have := hIE u; rw [hok] at this; exact this
            cases hct : T.contains (wayOf e)
            · have hc1 := chkE_on (r := en.drop (k + 1)) hok hct
              rw [hc1, HTW.out] at hR
              have HH' : Hid (chkE (tk ++ (en.take (k + 1)).map wayOf) (en.drop (k + 1)) = chkE tk en) := hR
              have HCT : Hid (T.contains (wayOf e) = false) := hct
              obtain ⟨ad, inw, kd, mx, iv⟩ := e
              simp only at *
              clear hR hc1 hIE hbd hok he hct
              go_wp2_with fail
              refine (HIE.out _).mono ?_
              rintro r w3 ⟨rfl, hb3⟩
              have r0 : w3.cell? ⟨wr.heap.size, 0, none⟩ = some (.int .i64 ad) := kc hb3 e0
              have r1 : w3.cell? ⟨wr.heap.size, 1, none⟩ = some (.bool inw) := kc hb3 e1
              obtain ⟨w4, hw4⟩ : ∃ w4, w3.alloc (.cells #[.int .i64 ad, .bool inw] 128) = w4 := ⟨_, rfl⟩
              have hb4 : Below w3.heap.size w3 w4 := by rw [← hw4]; exact balloc _ _
              have s0 : w4.cell? ⟨w3.heap.size, 0, none⟩ = some (.int .i64 ad) := by rw [← hw4, World.cell?_alloc_new]; rfl
              have s1 : w4.cell? ⟨w3.heap.size, 1, none⟩ = some (.bool inw) := by rw [← hw4, World.cell?_alloc_new]; rfl
              have hM4 : Mp w4 b T := (HM2.out.below hb3).below hb4
              have HG4 : Hid (w1.grownBy w4 (some b)) := gtr (gtr HG12.out (gbel hb3)) (gbel hb4)
              have hlk : (Instr.lookup 114 (.map (some b)) (.agg #[.int .i64 ad, .bool inw]) false).run Try.prog w4 = .ok (.int .i64 0) w4 := by
                have := hM4.look (ad, inw) ba ba'
                rw [show T.contains (ad, inw) = false from HCT.out] at this
                exact this
              have hlk2 : (Instr.lookup 114 (.map (some b)) (.agg #[.int .i64 ad, .bool inw]) false).run Try.prog w4.drew = .ok (.int .i64 0) w4.drew := by
                have := hM4.drew.look (ad, inw) ba ba'
                rw [show T.contains (ad, inw) = false from HCT.out] at this
                exact this
              obtain ⟨st, W1, W2, m1, m2, m3, m4, m5, m6⟩ := hM4.drew.enter (ad, inw) ba ba' HCT.out
              have HM5 : Hid (Mp W2 b (tk ++ (en.take (k + 1)).map wayOf)) := by rw [← HTW.out]; exact m4
              have HG5 : Hid (w1.grownBy W2 (some b)) := gtr HG4.out (gdrew m6)
              have m1' : (Instr.mapEntry 114 (.map (some b)) (.agg #[.int .i64 ad, .bool inw])).run Try.prog w4.drew = .ok (.tuple #[.int .i64 0, .int .i64 (st : Int)]) W1 := m1
              have m2' : (Instr.lookup 114 (.map (some b)) (.agg #[.int .i64 ad, .bool inw]) false).run Try.prog W1 = .ok (.int .i64 0) W1 := m2
              clear hb3 hb4 hM4 m4 m5 m6 HM2 HG2 HG12 HGr HGr1 HMr HTW HCT m1 m2 HM1
              go_wp2
              go_region
              all_goals go_wp2
              all_goals go_roundw
              case rel => exact ⟨k + 1, by omega, by go_num, HM5.out, HG5.out, HH'⟩
              case measure => simp [intOf]; omega
            · have hc1 := chkE_two (r := en.drop (k + 1)) hok hct
              rw [hc1] at hR
              have HH' : Hid (13 = chkE tk en) := hR
              have HCT : Hid (T.contains (wayOf e) = true) := hct
              obtain ⟨ad, inw, kd, mx, iv⟩ := e
              simp only at *
              clear hR hc1 hIE hbd hok HTW he hct
              go_wp2_with fail
              refine (HIE.out _).mono ?_
              rintro r w3 ⟨rfl, hb3⟩
              have r0 : w3.cell? ⟨wr.heap.size, 0, none⟩ = some (.int .i64 ad) := kc hb3 e0
              have r1 : w3.cell? ⟨wr.heap.size, 1, none⟩ = some (.bool inw) := kc hb3 e1
              obtain ⟨w4, hw4⟩ : ∃ w4, w3.alloc (.cells #[.int .i64 ad, .bool inw] 128) = w4 := ⟨_, rfl⟩
              have hb4 : Below w3.heap.size w3 w4 := by rw [← hw4]; exact balloc _ _
              have s0 : w4.cell? ⟨w3.heap.size, 0, none⟩ = some (.int .i64 ad) := by rw [← hw4, World.cell?_alloc_new]; rfl
              have s1 : w4.cell? ⟨w3.heap.size, 1, none⟩ = some (.bool inw) := by rw [← hw4, World.cell?_alloc_new]; rfl
              have hM4 : Mp w4 b T := (HM2.out.below hb3).below hb4
              have hlk : (Instr.lookup 114 (.map (some b)) (.agg #[.int .i64 ad, .bool inw]) false).run Try.prog w4 = .ok (.int .i64 1) w4 := by
                have := hM4.look (ad, inw) ba ba'
                rw [show T.contains (ad, inw) = true from HCT.out] at this
                exact this
              have HG4 : Hid (w.grownBy w4 (some b)) := gtr (gtr HG2.out (gbel hb3)) (gbel hb4)
              clear hb3 hb4 hM4 HM2 HG2 HG12 HGr HGr1 HMr HCT HM1
              go_wp2
              go_ret
              have hz := HZ.out
              rw [← HH.out, if_neg (by simp), if_neg hn4, ← HH'.out] at hz
              subst hz
              exact ⟨rfl, fun h => by simp at h, HG4.out⟩
        · have hR := HR.out
          have hfl : en.take k = en := List.take_of_length_le (by have := HND.out; omega)
          rw [List.drop_eq_nil_of_le (by have := HND.out; omega), hfl] at hR
          rw [hfl] at hMr
          have HH' : Hid (0 = chkE tk en) := hR
          have HMr : Hid (Mp wr b (tk ++ en.map wayOf)) := hMr
          have HGr : Hid (w.grownBy wr (some b)) := gtr HG1.out hgr
          clear hR HR hMr hgr hfl HCN HM1
          go_wp2
          go_ret
          have hz := HZ.out
          rw [← HH.out, if_neg (by simp), if_neg hn4, ← HH'.out] at hz
          subst hz
          exact ⟨rfl, fun _ => HMr.out, HGr.out⟩
end Go.Proofs.Ytonheibhbilhhaa.desc

/- desc: what checkConfig answers. -/
namespace Go.Proofs.Ytonheibhbilhhaa.desc
open Go.RowKit Go.PlainAid Go.Proofs.Ytonheibhbilhhaa.lane Go.ChangeMaps
set_option linter.unusedVariables false

theorem headC_is (c : Cf) : headC c = (!(c.va == 0) && allB 255 [c.va, c.na, c.atr, c.po]) := by
  rw [Bool.eq_iff_iff]
  simp [headC, allB, inB, byt]
  omega
theorem chkFs_no {tk : List (Int × Bool)} {f : Fc} {r : List Fc} (h : chkF tk f ≠ 0) : chkFs tk (f :: r) = chkF tk f := by rw [chkFs, if_neg h]
theorem chkFs_on {tk : List (Int × Bool)} {f : Fc} {r : List Fc} (h : chkF tk f = 0) : chkFs tk (f :: r) = chkFs (tk ++ f.en.map wayOf) r := by rw [chkFs, if_pos h]
theorem Rf.mapped {w u : World} {b : Nat} {tk : List (Int × Bool)} {q : Fc × Value × Value} (h : Rf w q) (hm : Mp w b tk) (hg : w.grownBy u (some b)) : Rf u q := ⟨Rdg.mapped h.ex hm hg, Rdg.mapped h.en hm hg, h.bb, h.sz⟩

set_option maxRecDepth 100000 in
set_option maxHeartbeats 4000000 in
theorem checkConfig_any (c : Cf) (v : Value) (L : FL) (w : World) (hc : Rc w v c L) :
    Calls Try.prog 35 #[cfV c v] w fun e w' => e = .returned (.int .i64 (chkC c)) ∧ Below w.heap.size w w' := by
  obtain ⟨va, na, atr, po, fs⟩ := c
  obtain ⟨hfs, heq⟩ := hc
  simp only at heq ⊢
  subst heq
  obtain ⟨w0, hw0⟩ : ∃ w0, w.alloc (.cells #[.int .i64 va, .int .i64 na, .int .i64 atr, .int .i64 po, v] 26) = w0 := ⟨_, rfl⟩
  have hb0 : Below w.heap.size w w0 := by rw [← hw0]; exact balloc _ _
  have f0 : w0.cell? ⟨w.heap.size, 0, none⟩ = some (.int .i64 va) := by rw [← hw0, World.cell?_alloc_new]; rfl
  have f1 : w0.cell? ⟨w.heap.size, 1, none⟩ = some (.int .i64 na) := by rw [← hw0, World.cell?_alloc_new]; rfl
  have f2 : w0.cell? ⟨w.heap.size, 2, none⟩ = some (.int .i64 atr) := by rw [← hw0, World.cell?_alloc_new]; rfl
  have f3 : w0.cell? ⟨w.heap.size, 3, none⟩ = some (.int .i64 po) := by rw [← hw0, World.cell?_alloc_new]; rfl
  have f4 : w0.cell? ⟨w.heap.size, 4, none⟩ = some v := by rw [← hw0, World.cell?_alloc_new]; rfl
  have HA : Hid (Calls Try.prog 63 #[.int .i64 255, .slice (some ⟨w0.heap.size, 0, none⟩) 4 4] (w0.alloc (.cells #[.int .i64 va, .int .i64 na, .int .i64 atr, .int .i64 po] 3)) fun e w' => e = .returned (.bool (allB 255 [va, na, atr, po])) ∧ (w0.alloc (.cells #[.int .i64 va, .int .i64 na, .int .i64 atr, .int .i64 po] 3)) = w') :=
    allWithin_any 255 _ [va, na, atr, po] _ (Rig.new w0 [va, na, atr, po] 3 (by simp [maxLen]))
  obtain ⟨w1, hw1⟩ : ∃ w1, w0.alloc (.cells #[.int .i64 va, .int .i64 na, .int .i64 atr, .int .i64 po] 3) = w1 := ⟨_, rfl⟩
  rw [hw1] at HA
  have hb01 : Below w0.heap.size w0 w1 := by rw [← hw1]; exact balloc _ _
  have hb1 : Below w.heap.size w w1 := bsq hb0 hb01
  have g4 : w1.cell? ⟨w.heap.size, 4, none⟩ = some v := kc hb01 f4
  obtain ⟨w2, hw2⟩ : ∃ w2, w1.alloc (.map #[] 0) = w2 := ⟨_, rfl⟩
  have hb12 : Below w1.heap.size w1 w2 := by rw [← hw2]; exact balloc _ _
  have hb2 : Below w.heap.size w w2 := bsq hb1 hb12
  have k4 : w2.cell? ⟨w.heap.size, 4, none⟩ = some v := kc hb12 g4
  have HM2 : Hid (Mp w2 w1.heap.size []) := by rw [← hw2]; exact Mp.made w1
  have HB0 : Hid (Below w.heap.size w w0) := hb0
  have HB1 : Hid (Below w.heap.size w w1) := hb1
  have HB2 : Hid (Below w.heap.size w w2) := hb2
  have hwle : w.heap.size ≤ w1.heap.size := hb1.size
  have hF2 := hfs.below hb2
  obtain ⟨a, cap, rfl, hlc, hcm, hcell⟩ := hF2.cell
  have HC : Hid (∀ j q, L[j]? = some q → ∃ g off, a = some ⟨g, off, none⟩ ∧ w2.cell? ⟨g, off + j * 6, none⟩ = some (.int .i64 q.1.cl) ∧ w2.cell? ⟨g, off + j * 6 + 1, none⟩ = some (.int .i64 q.1.su) ∧ w2.cell? ⟨g, off + j * 6 + 2, none⟩ = some (.int .i64 q.1.pr) ∧ w2.cell? ⟨g, off + j * 6 + 3, none⟩ = some (.int .i64 q.1.nm) ∧ w2.cell? ⟨g, off + j * 6 + 4, none⟩ = some q.2.1 ∧ w2.cell? ⟨g, off + j * 6 + 5, none⟩ = some q.2.2) := hcell
  have HF : Hid (∀ q ∈ L, Rf w2 q) := hF2.all
  unfold maxLen at hcm
  obtain ⟨n, hn⟩ : ∃ n, L.length = n := ⟨_, rfl⟩
  have HN : Hid (L.length = n) := hn
  have hch : chkC ⟨va, na, atr, po, L.map Prod.fst⟩ = if (!(va == 0) && allB 255 [va, na, atr, po]) = false then 1 else if 4 < n then 2 else chkFs [] (L.map Prod.fst) := by
    unfold chkC; rw [headC_is, List.length_map, hn]
  rw [hch]
  rw [hn] at hlc f4 g4 k4 hw0 ⊢
  clear hfs hb0 hb01 hb1 hb12 hb2 hF2 hcell hn hch
  have hmm := @run_makeMap Try.prog
  by_cases h0 : va = 0
  · have e0 : (va == 0) = true := by simpa using h0
    rw [e0]
    rw [show ((!true) && allB 255 [va, na, atr, po]) = false from rfl, if_pos rfl]
    clear HA hw1 h0
    go_enter Try.func35, Try.ntmps35
    go_wp2
    go_ret
    exact ⟨rfl, HB0.out⟩
  have e0 : (va == 0) = false := by simpa using h0
  rw [e0]
  clear h0
  cases hall : allB 255 [va, na, atr, po]
  · rw [hall] at HA
    rw [if_pos (by rfl)]
    clear hall
    go_enter Try.func35, Try.ntmps35
    go_wp2_with fail
    refine HA.out.mono ?_
    rintro e wa ⟨rfl, rfl⟩
    go_wp2
    go_ret
    exact ⟨rfl, HB1.out⟩
  rw [hall] at HA
  rw [if_neg (by simp)]
  clear hall
  by_cases h4 : 4 < n
  · rw [if_pos h4]
    go_enter Try.func35, Try.ntmps35
    go_wp2_with fail
    refine HA.out.mono ?_
    rintro e wa ⟨rfl, rfl⟩
    go_wp2
    go_ret
    exact ⟨rfl, HB1.out⟩
  rw [if_neg h4]
  obtain ⟨z, hz⟩ : ∃ z, chkFs [] (L.map Prod.fst) = z := ⟨_, rfl⟩
  rw [hz]
  have HZ : Hid (chkFs [] (L.map Prod.fst) = z) := hz
  clear hz
  go_enter Try.func35, Try.ntmps35
  go_wp2_with fail
  refine HA.out.mono ?_
  rintro e wa ⟨rfl, rfl⟩
  clear HA
  go_wp2
  go_loopw [31] (fun i wr => ∃ (k : Nat) (tk : List (Int × Bool)), k ≤ n ∧ i = .int .i64 (k : Int) ∧ Mp wr w1.heap.size tk ∧ w2.grownBy wr (some w1.heap.size) ∧ Hid (chkFs tk ((L.drop k).map Prod.fst) = z)) (fun i _ => n - (intOf i).toNat)
  case atStart => exact ⟨0, [], Nat.zero_le _, rfl, HM2.out, World.grownBy.refl _ _, HZ.out⟩
  case round =>
    obtain ⟨k, tk, hk, rfl, hMr, hgr, HR⟩ := hrel
    have HMr : Hid (Mp wr w1.heap.size tk) := hMr
    have HGr : Hid (w2.grownBy wr (some w1.heap.size)) := hgr
    by_cases hlt : k < n
    · have hk1 : k < L.length := by have := HN.out; omega
      obtain ⟨q, hq⟩ : ∃ q, L[k]? = some q := ⟨L[k], List.getElem?_eq_getElem hk1⟩
      obtain ⟨g, off, rfl, c0, c1, c2, c3, c4, c5⟩ := HC.out k q hq
      have d0 := map_cell HM2.out hgr c0
      have d1 := map_cell HM2.out hgr c1
      have d2 := map_cell HM2.out hgr c2
      have d3 := map_cell HM2.out hgr c3
      have d4 := map_cell HM2.out hgr c4
      have d5 := map_cell HM2.out hgr c5
      have hR := HR.out
      rw [List.drop_eq_getElem_cons hk1, (List.getElem?_eq_some_iff.1 hq).2, List.map_cons] at hR
      have hRf : Rf wr q := (HF.out q (List.mem_of_getElem? hq)).mapped HM2.out hgr
      obtain ⟨⟨cl, su, pr, nm, ex, en⟩, ve, vd⟩ := q
      simp only at *
      obtain ⟨w3, hw3⟩ : ∃ w3, wr.alloc (.cells #[.int .i64 cl, .int .i64 su, .int .i64 pr, .int .i64 nm, ve, vd] 76) = w3 := ⟨_, rfl⟩
      have hb3 : Below wr.heap.size wr w3 := by rw [← hw3]; exact balloc _ _
      have e0 : w3.cell? ⟨wr.heap.size, 0, none⟩ = some (.int .i64 cl) := by rw [← hw3, World.cell?_alloc_new]; rfl
      have e1 : w3.cell? ⟨wr.heap.size, 1, none⟩ = some (.int .i64 su) := by rw [← hw3, World.cell?_alloc_new]; rfl
      have e2 : w3.cell? ⟨wr.heap.size, 2, none⟩ = some (.int .i64 pr) := by rw [← hw3, World.cell?_alloc_new]; rfl
      have e3 : w3.cell? ⟨wr.heap.size, 3, none⟩ = some (.int .i64 nm) := by rw [← hw3, World.cell?_alloc_new]; rfl
      have e4 : w3.cell? ⟨wr.heap.size, 4, none⟩ = some ve := by rw [← hw3, World.cell?_alloc_new]; rfl
      have e5 : w3.cell? ⟨wr.heap.size, 5, none⟩ = some vd := by rw [← hw3, World.cell?_alloc_new]; rfl
      have HCF : Hid (Calls Try.prog 64 #[.agg #[.int .i64 cl, .int .i64 su, .int .i64 pr, .int .i64 nm, ve, vd], .map (some w1.heap.size)] w3 fun e w' => e = .returned (.int .i64 (chkF tk ⟨cl, su, pr, nm, ex, en⟩)) ∧ (chkF tk ⟨cl, su, pr, nm, ex, en⟩ = 0 → Mp w' w1.heap.size (tk ++ en.map wayOf)) ∧ w3.grownBy w' (some w1.heap.size)) :=
        checkFace_any (⟨cl, su, pr, nm, ex, en⟩, ve, vd) tk w1.heap.size w3 (hRf.below hb3) (hMr.below hb3)
      have HG3 : Hid (w2.grownBy w3 (some w1.heap.size)) := gtr hgr (gbel hb3)
      obtain ⟨ax, nx, cx, rfl⟩ : ∃ a n c, ve = .slice a n c := by obtain ⟨a, c, h, _⟩ := hRf.ex; exact ⟨_, _, _, h⟩
      obtain ⟨an, nn, cn, rfl⟩ : ∃ a n c, vd = .slice a n c := by obtain ⟨a, c, h, _⟩ := hRf.en; exact ⟨_, _, _, h⟩
      by_cases hcz : chkF tk ⟨cl, su, pr, nm, ex, en⟩ = 0
      · rw [chkFs_on hcz] at hR
        have HH : Hid (chkFs (tk ++ en.map wayOf) ((L.drop (k + 1)).map Prod.fst) = z) := hR
        rw [hcz] at HCF
        clear c0 c1 c2 c3 c4 c5 hR HR hMr hgr HMr HGr hb3 hRf hq HF HC hcz
        go_wp2_with fail
        refine HCF.out.mono ?_
        rintro e w4 ⟨rfl, hm4, hg4⟩
        have HM4 : Hid (Mp w4 w1.heap.size (tk ++ en.map wayOf)) := hm4 (by trivial)
        have HG4 : Hid (w2.grownBy w4 (some w1.heap.size)) := gtr HG3.out hg4
        clear hm4 hg4 HCF
        go_wp2
        go_roundw
        case rel => exact ⟨k + 1, _, by omega, by go_num, HM4.out, HG4.out, HH⟩
        case measure => simp [intOf]; omega
      · rw [chkFs_no hcz] at hR
        rw [hR] at hcz HCF
        have hzz : (z != 0) = true := by simpa using hcz
        clear hR c0 c1 c2 c3 c4 c5 HR hMr hgr HMr HGr hb3 hRf hq HF HC hcz
        go_wp2_with fail
        refine HCF.out.mono ?_
        rintro e w4 ⟨rfl, hm4, hg4⟩
        have HB4 : Hid (Below w.heap.size w w4) := HB2.out.grown (gtr HG3.out hg4) HB2.out.size (fun k hk => by injection hk with hk; omega)
        clear hm4 hg4 HCF
        go_wp2
        go_ret
        exact ⟨rfl, HB4.out⟩
    · have hR := HR.out
      rw [List.drop_eq_nil_of_le (by have := HN.out; omega)] at hR
      have hz : 0 = z := hR
      subst hz
      have HB4 : Hid (Below w.heap.size w wr) := HB2.out.grown hgr HB2.out.size (fun k hk => by injection hk with hk; omega)
      clear hR HR hMr hgr HC HF
      go_wp2
      go_ret
      exact ⟨rfl, HB4.out⟩
end Go.Proofs.Ytonheibhbilhhaa.desc
