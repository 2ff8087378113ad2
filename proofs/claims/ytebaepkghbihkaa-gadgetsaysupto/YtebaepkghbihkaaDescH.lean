/- desc: faces and ends in memory; what isExtra and isEnd answer; the ways that are taken, as a map. -/
import Derived.Test.YtebaepkghbihkaaDescD
import Derived.DeepKeys4
import Derived.MapKept
import Derived.WideKeyEntry
namespace Go.Proofs.Ytebaepkghbihkaa.desc
open Go.RowKit Go.PlainAid Go.Proofs.Ytebaepkghbihkaa.lane
set_option linter.unusedVariables false

theorem kc {u u' : World} (hb : Below u.heap.size u u') {b o : Nat} {x : Value} (h : u.cell? ⟨b, o, none⟩ = some x) : u'.cell? ⟨b, o, none⟩ = some x := (hb.cell (World.block_lt_of_cell? u _ h)).trans h
/-- an end's value, and its cells -/
abbrev evV (e : En) : Value := .agg #[.int .i64 e.ad, .bool e.inw, .int .i64 e.kd, .int .i64 e.mx, .int .i64 e.iv]
def ecell (e : En) : List Value := [.int .i64 e.ad, .bool e.inw, .int .i64 e.kd, .int .i64 e.mx, .int .i64 e.iv]
def ecells (es : List En) : List Value := es.flatMap ecell
theorem ecells_length (es : List En) : (ecells es).length = es.length * 5 := by
  induction es with
  | nil => rfl
  | cons e r ih => rw [ecells, List.flatMap_cons, List.length_append, show (List.flatMap ecell r).length = r.length * 5 from ih, List.length_cons]; simp [ecell]; omega
theorem ecells_append (a b : List En) : ecells (a ++ b) = ecells a ++ ecells b := by simp [ecells]
theorem ecells_at : ∀ (es : List En) (j : Nat) (e : En), es[j]? = some e → ∀ i x, (ecell e)[i]? = some x → (ecells es)[j * 5 + i]? = some x := by
  intro es
  induction es with
  | nil => intro j e h; simp at h
  | cons a r ih =>
    intro j e h i x hx
    have hc : ecells (a :: r) = ecell a ++ ecells r := rfl
    have hl : (ecell a).length = 5 := rfl
    rw [hc]
    cases j with
    | zero =>
      simp at h; subst h
      have hi := (List.getElem?_eq_some_iff.1 hx).1
      rw [List.getElem?_append_left (by omega), Nat.zero_mul, Nat.zero_add]; exact hx
    | succ j =>
      rw [List.getElem?_append_right (by omega), hl, show (j + 1) * 5 + i - 5 = j * 5 + i by omega]
      exact ih j e (by simpa using h) i x hx
/-- ends that are read -/
def Rns (w : World) (v : Value) (es : List En) : Prop := Rdg w 5 v es.length (ecells es)
theorem Rns.below {w u : World} {v : Value} {es : List En} (h : Rns w v es) (hb : Below w.heap.size w u) : Rns u v es := Rdg.below h hb
theorem Rns.cell {w : World} {v : Value} {es : List En} (h : Rns w v es) : ∃ a c, v = .slice a es.length c ∧ es.length ≤ c ∧ c ≤ maxLen ∧
    ∀ j e, es[j]? = some e → ∃ g off, a = some ⟨g, off, none⟩ ∧ w.cell? ⟨g, off + j * 5, none⟩ = some (.int .i64 e.ad) ∧ w.cell? ⟨g, off + j * 5 + 1, none⟩ = some (.bool e.inw) ∧ w.cell? ⟨g, off + j * 5 + 2, none⟩ = some (.int .i64 e.kd) ∧ w.cell? ⟨g, off + j * 5 + 3, none⟩ = some (.int .i64 e.mx) ∧ w.cell? ⟨g, off + j * 5 + 4, none⟩ = some (.int .i64 e.iv) := by
  obtain ⟨a, c, hv, h1, h2, h3, h4⟩ := h
  refine ⟨a, c, hv, h1, h2, fun j e hj => ?_⟩
  have hl := (List.getElem?_eq_some_iff.1 hj).1
  obtain ⟨g, off, ha, hg, hc⟩ := h4 (by omega)
  have key : ∀ i x, (ecell e)[i]? = some x → w.cell? ⟨g, off + j * 5 + i, none⟩ = some x := fun i x hx => by
    rw [Nat.add_assoc]; exact hc _ _ (ecells_at es j e hj i x hx)
  exact ⟨g, off, ha, key 0 _ rfl, key 1 _ rfl, key 2 _ rfl, key 3 _ rfl, key 4 _ rfl⟩
/-- a face's value: its lists under the names ve, vd -/
abbrev fcV (f : Fc) (ve vd : Value) : Value := .agg #[.int .i64 f.cl, .int .i64 f.su, .int .i64 f.pr, .int .i64 f.nm, ve, vd]
abbrev FL := List (Fc × Value × Value)
def fcell (q : Fc × Value × Value) : List Value := [.int .i64 q.1.cl, .int .i64 q.1.su, .int .i64 q.1.pr, .int .i64 q.1.nm, q.2.1, q.2.2]
def fcells (L : FL) : List Value := L.flatMap fcell
theorem fcells_length (L : FL) : (fcells L).length = L.length * 6 := by
  induction L with
  | nil => rfl
  | cons e r ih => rw [fcells, List.flatMap_cons, List.length_append, show (List.flatMap fcell r).length = r.length * 6 from ih, List.length_cons]; simp [fcell]; omega
theorem fcells_append (a b : FL) : fcells (a ++ b) = fcells a ++ fcells b := by simp [fcells]
theorem fcells_at : ∀ (L : FL) (j : Nat) (q : Fc × Value × Value), L[j]? = some q → ∀ i x, (fcell q)[i]? = some x → (fcells L)[j * 6 + i]? = some x := by
  intro es
  induction es with
  | nil => intro j e h; simp at h
  | cons a r ih =>
    intro j e h i x hx
    have hc : fcells (a :: r) = fcell a ++ fcells r := rfl
    have hl : (fcell a).length = 6 := rfl
    rw [hc]
    cases j with
    | zero =>
      simp at h; subst h
      have hi := (List.getElem?_eq_some_iff.1 hx).1
      rw [List.getElem?_append_left (by omega), Nat.zero_mul, Nat.zero_add]; exact hx
    | succ j =>
      rw [List.getElem?_append_right (by omega), hl, show (j + 1) * 6 + i - 6 = j * 6 + i by omega]
      exact ih j e (by simpa using h) i x hx
/-- the lists of a face that are read, their texts of bytes -/
structure Rf (w : World) (q : Fc × Value × Value) : Prop where
  ex : Rts w q.2.1 q.1.ex
  en : Rns w q.2.2 q.1.en
  bb : BB q.1.ex
  sz : ∀ x ∈ q.1.ex, x.length ≤ maxLen
theorem Rf.below {w u : World} {q : Fc × Value × Value} (h : Rf w q) (hb : Below w.heap.size w u) : Rf u q := ⟨h.ex.below hb, h.en.below hb, h.bb, h.sz⟩
/-- faces that are read -/
structure Rfs (w : World) (v : Value) (L : FL) : Prop where
  row : Rdg w 6 v L.length (fcells L)
  all : ∀ q ∈ L, Rf w q
theorem Rfs.below {w u : World} {v : Value} {L : FL} (h : Rfs w v L) (hb : Below w.heap.size w u) : Rfs u v L := ⟨Rdg.below h.row hb, fun q hq => (h.all q hq).below hb⟩
theorem Rfs.cell {w : World} {v : Value} {L : FL} (h : Rfs w v L) : ∃ a c, v = .slice a L.length c ∧ L.length ≤ c ∧ c ≤ maxLen ∧
    ∀ j q, L[j]? = some q → ∃ g off, a = some ⟨g, off, none⟩ ∧ w.cell? ⟨g, off + j * 6, none⟩ = some (.int .i64 q.1.cl) ∧ w.cell? ⟨g, off + j * 6 + 1, none⟩ = some (.int .i64 q.1.su) ∧ w.cell? ⟨g, off + j * 6 + 2, none⟩ = some (.int .i64 q.1.pr) ∧ w.cell? ⟨g, off + j * 6 + 3, none⟩ = some (.int .i64 q.1.nm) ∧ w.cell? ⟨g, off + j * 6 + 4, none⟩ = some q.2.1 ∧ w.cell? ⟨g, off + j * 6 + 5, none⟩ = some q.2.2 := by
  obtain ⟨a, c, hv, h1, h2, h3, h4⟩ := h.row
  refine ⟨a, c, hv, h1, h2, fun j e hj => ?_⟩
  have hl := (List.getElem?_eq_some_iff.1 hj).1
  obtain ⟨g, off, ha, hg, hc⟩ := h4 (by omega)
  have key : ∀ i x, (fcell e)[i]? = some x → w.cell? ⟨g, off + j * 6 + i, none⟩ = some x := fun i x hx => by
    rw [Nat.add_assoc]; exact hc _ _ (fcells_at L j e hj i x hx)
  exact ⟨g, off, ha, key 0 _ rfl, key 1 _ rfl, key 2 _ rfl, key 3 _ rfl, key 4 _ rfl, key 5 _ rfl⟩
/-- a configuration's value -/
abbrev cfV (c : Cf) (v : Value) : Value := .agg #[.int .i64 c.va, .int .i64 c.na, .int .i64 c.atr, .int .i64 c.po, v]
/-- a configuration that is read -/
structure Rc (w : World) (v : Value) (c : Cf) (L : FL) : Prop where
  fs : Rfs w v L
  eq : L.map Prod.fst = c.fs
theorem Rc.below {w u : World} {v : Value} {c : Cf} {L : FL} (h : Rc w v c L) (hb : Below w.heap.size w u) : Rc u v c L := ⟨h.fs.below hb, h.eq⟩

theorem getD_bt (x : List Int) (hx : Byt x) (k : Nat) (h : k < x.length) : bt (strOfNums x) k = x.getD k 0 := by
  rw [bt_nums _ k (by rw [str_size]; exact h), nums_str x hx]
set_option maxHeartbeats 1000000 in
theorem isExtra_any (x : List Int) (w : World) (hx : Byt x) (hm : x.length ≤ maxLen) :
    Calls Try.prog 99 #[.string (strOfNums x)] w fun e w' => e = .returned (.bool (exOk x)) ∧ w = w' := by
  have hz := str_size x
  unfold maxLen at hm
  have hbt := get_bt (strOfNums x)
  have b0 := bt_le (strOfNums x) 0
  have b1 := bt_nonneg (strOfNums x) 0
  unfold exOk
  by_cases h2 : x.length < 2
  · rw [decide_eq_false (by omega), Bool.false_and, Bool.false_and]
    rw [← hz] at h2
    generalize strOfNums x = s at *
    clear hz
    go_enter Try.func99, Try.ntmps99
    go_wp2
    go_ret
    exact ⟨rfl, rfl⟩
  by_cases h3 : 32 < x.length
  · rw [decide_eq_true (show 2 ≤ x.length by omega), decide_eq_false (by omega), Bool.and_false, Bool.false_and]
    rw [← hz] at h2 h3
    generalize strOfNums x = s at *
    clear hz
    go_enter Try.func99, Try.ntmps99
    go_wp2
    go_ret
    exact ⟨rfl, rfl⟩
  rw [decide_eq_true (show 2 ≤ x.length by omega), decide_eq_true (show x.length ≤ 32 by omega), Bool.true_and, Bool.true_and, ← getD_bt x hx 0 (by omega), ← getD_bt x hx 1 (by omega)]
  rw [← hz] at h2 h3 ⊢
  generalize strOfNums x = s at *
  clear hz
  by_cases h4 : bt s 0 = (s.size : Int)
  · have e1 : (bt s 0 == (s.size : Int)) = true := by simpa using h4
    rw [e1, Bool.true_and]
    clear h4
    go_enter Try.func99, Try.ntmps99
    go_wp2
    go_ret
    exact ⟨rfl, rfl⟩
  · have e1 : (bt s 0 == (s.size : Int)) = false := by simpa using h4
    rw [e1, Bool.false_and]
    clear h4
    go_enter Try.func99, Try.ntmps99
    go_wp2
    go_ret
    exact ⟨rfl, rfl⟩
theorem endOk_is (e : En) : endOk e = (decide (1 ≤ e.ad) && (decide (e.ad ≤ 15) && (decide (1 ≤ e.mx) && (decide (e.mx ≤ 64) && (allB 3 [e.kd] && allB 255 [e.iv]))))) := by
  rw [Bool.eq_iff_iff, endOk_iff]
  simp [allB, inB]
  omega
set_option maxHeartbeats 1000000 in
theorem isEnd_any (e : En) (w : World) : Calls Try.prog 100 #[evV e] w fun r w' => r = .returned (.bool (endOk e)) ∧ Below w.heap.size w w' := by
  rw [endOk_is]
  obtain ⟨ad, inw, kd, mx, iv⟩ := e
  simp only
  obtain ⟨w0, hw0⟩ : ∃ w0, w.alloc (.cells #[.int .i64 ad, .bool inw, .int .i64 kd, .int .i64 mx, .int .i64 iv] 86) = w0 := ⟨_, rfl⟩
  have HB0 : Hid (Below w.heap.size w w0) := by rw [← hw0]; exact balloc _ _
  have c0 : w0.cell? ⟨w.heap.size, 0, none⟩ = some (.int .i64 ad) := by rw [← hw0, World.cell?_alloc_new]; rfl
  have c2 : w0.cell? ⟨w.heap.size, 2, none⟩ = some (.int .i64 kd) := by rw [← hw0, World.cell?_alloc_new]; rfl
  have c3 : w0.cell? ⟨w.heap.size, 3, none⟩ = some (.int .i64 mx) := by rw [← hw0, World.cell?_alloc_new]; rfl
  have c4 : w0.cell? ⟨w.heap.size, 4, none⟩ = some (.int .i64 iv) := by rw [← hw0, World.cell?_alloc_new]; rfl
  have HA : Hid (Calls Try.prog 76 #[.int .i64 3, .slice (some ⟨w0.heap.size, 0, none⟩) 1 1] (w0.alloc (.cells #[.int .i64 kd] 3)) fun e w' => e = .returned (.bool (allB 3 [kd])) ∧ (w0.alloc (.cells #[.int .i64 kd] 3)) = w') :=
    allWithin_any 3 _ [kd] _ (Rig.new w0 [kd] 3 (by simp [maxLen]))
  obtain ⟨w1, hw1⟩ : ∃ w1, w0.alloc (.cells #[.int .i64 kd] 3) = w1 := ⟨_, rfl⟩
  have hb1 : Below w0.heap.size w0 w1 := by rw [← hw1]; exact balloc _ _
  have HB1 : Hid (Below w.heap.size w w1) := bsq HB0.out hb1
  have d4 : w1.cell? ⟨w.heap.size, 4, none⟩ = some (.int .i64 iv) := kc hb1 c4
  have HC : Hid (Calls Try.prog 76 #[.int .i64 255, .slice (some ⟨w1.heap.size, 0, none⟩) 1 1] (w1.alloc (.cells #[.int .i64 iv] 3)) fun e w' => e = .returned (.bool (allB 255 [iv])) ∧ (w1.alloc (.cells #[.int .i64 iv] 3)) = w') :=
    allWithin_any 255 _ [iv] _ (Rig.new w1 [iv] 3 (by simp [maxLen]))
  rw [hw1] at HA
  clear hb1
  generalize allB 3 [kd] = x at *
  generalize allB 255 [iv] = y at *
  by_cases h1 : 1 ≤ ad
  · rw [decide_eq_true h1, Bool.true_and]
    by_cases h2 : ad ≤ 15
    · rw [decide_eq_true h2, Bool.true_and]
      by_cases h3 : 1 ≤ mx
      · rw [decide_eq_true h3, Bool.true_and]
        by_cases h4 : mx ≤ 64
        · rw [decide_eq_true h4, Bool.true_and]
          cases x
          · rw [Bool.false_and]
            clear HC
            go_enter Try.func100, Try.ntmps100
            go_wp2_with fail
            refine HA.out.mono ?_
            rintro e wa ⟨rfl, rfl⟩
            go_wp2
            go_ret
            exact ⟨rfl, HB1.out⟩
          · rw [Bool.true_and]
            go_enter Try.func100, Try.ntmps100
            go_wp2_with fail
            refine HA.out.mono ?_
            rintro e wa ⟨rfl, rfl⟩
            go_wp2_with fail
            refine HC.out.mono ?_
            rintro e wa ⟨rfl, rfl⟩
            go_wp2
            go_ret
            exact ⟨rfl, bsq HB1.out (balloc _ _)⟩
        · rw [decide_eq_false h4, Bool.false_and]
          clear HA HC
          go_enter Try.func100, Try.ntmps100
          go_wp2
          go_ret
          exact ⟨rfl, HB0.out⟩
      · rw [decide_eq_false h3, Bool.false_and]
        clear HA HC
        go_enter Try.func100, Try.ntmps100
        go_wp2
        go_ret
        exact ⟨rfl, HB0.out⟩
    · rw [decide_eq_false h2, Bool.false_and]
      clear HA HC
      go_enter Try.func100, Try.ntmps100
      go_wp2
      go_ret
      exact ⟨rfl, HB0.out⟩
  · rw [decide_eq_false h1, Bool.false_and]
    clear HA HC
    go_enter Try.func100, Try.ntmps100
    go_wp2
    go_ret
    exact ⟨rfl, HB0.out⟩
end Go.Proofs.Ytebaepkghbihkaa.desc
