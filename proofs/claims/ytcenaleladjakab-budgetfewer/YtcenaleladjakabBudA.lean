/- budget: rows of numbers in memory that are sorted in place: one block changes, all else stays. -/
import Derived.Test.YtcenaleladjakabRows
import Derived.Test.YtcenaleladjakabBudM
import Derived.WalkKit
import Derived.Handy
import Derived.Below
import Derived.OneCell
import Derived.WalkSmall
import Derived.RegionTactic
import Derived.BigRegion
import Derived.Deep.Cut
import Derived.Deep.CutRange
import Derived.Deep.MidRow
import Derived.MapKept
namespace Go.Proofs.Ytcenaleladjakab.budget
open Go Go.RowKit
set_option linter.unusedVariables false
set_option linter.unusedSimpArgs false
set_option maxRecDepth 100000

theorem bsq {w w1 w2 : World} (h1 : Below w.heap.size w w1) (h2 : Below w1.heap.size w1 w2) : Below w.heap.size w w2 := h1.trans (h2.mono h1.size)
theorem balloc (w : World) (o : Obj) : Below w.heap.size w (w.alloc o) := (Below.refl _ _).alloc (Nat.le_refl _) _
theorem keep {w u : World} {X : Nat} {o : Obj} (h : w.heap[X]? = some o) (hb : Below w.heap.size w u) : u.heap[X]? = some o := (hb.block X (Array.getElem?_eq_some_iff.1 h).1).trans h
def agv (l : List Value) : Value := .agg l.toArray
def bv (T : TypeId) (l : List Value) : Obj := .cells l.toArray T (0, 0)
def ivs (l : List Int) : List Value := l.map (Value.int .i64)
theorem ivs_length (l : List Int) : (ivs l).length = l.length := List.length_map ..
theorem ivs_at {l : List Int} {j : Nat} {x : Int} (h : l[j]? = some x) : (ivs l)[j]? = some (.int .i64 x) := by simp [ivs, h]
theorem ivs_set (l : List Int) (j : Nat) (x : Int) : (ivs l).set j (.int .i64 x) = ivs (l.set j x) := by simp [ivs, List.map_set]
theorem bv_cell {w : World} {B j : Nat} {T : TypeId} {l : List Value} {x : Value} (h : w.heap[B]? = some (bv T l)) (hx : l[j]? = some x) : w.cell? ⟨B, j, none⟩ = some x := by
  rw [cell_of_row w B j _ _ (0, 0) h]; simpa using hx
theorem bv_free {w : World} {B : Nat} {T : TypeId} {l : List Value} (h : w.heap[B]? = some (bv T l)) (j : Nat) : w.frozen? ⟨B, j, none⟩ = false := frozen_of_row w B j _ _ h
theorem bx_lt {w : World} {B : Nat} {o : Obj} (h : w.heap[B]? = some o) : B < w.heap.size := (Array.getElem?_eq_some_iff.1 h).1
/-- all but the block B is as it was -/
structure Chg (B : Nat) (w u : World) : Prop where
  size : u.heap.size = w.heap.size
  other : ∀ X, X ≠ B → u.heap[X]? = w.heap[X]?
  below : ∀ (b : Nat) (w0 : World), b ≤ B → Below b w0 w → Below b w0 u
theorem Chg.refl (B : Nat) (w : World) : Chg B w w := ⟨rfl, fun _ _ => rfl, fun _ _ _ h => h⟩
theorem Chg.trans {B : Nat} {w u v : World} (h : Chg B w u) (g : Chg B u v) : Chg B w v := ⟨g.size.trans h.size, fun X hX => (g.other X hX).trans (h.other X hX), fun b w0 hb q => g.below b w0 hb (h.below b w0 hb q)⟩
theorem Chg.drew {B : Nat} {w u : World} (h : Chg B w u) : Chg B w u.drew := ⟨h.size, h.other, fun b w0 hb q => (h.below b w0 hb q).drew⟩
theorem setRow_chg {w : World} {B : Nat} {T : TypeId} {l : List Value} (cs : Array Value) (h : w.heap[B]? = some (bv T l)) : Chg B w (w.setRow B cs) where
  size := by simp
  other := fun X hX => setRow_other w B X cs hX
  below := fun b w0 hb h => ⟨h.os, h.tape, h.output, by simp; exact h.size, fun X hX => (setRow_other w B X cs (by omega)).trans (h.block X hX)⟩
theorem set_bv {w : World} {B j : Nat} {T : TypeId} {l : List Value} {x : Value} (h : w.heap[B]? = some (bv T l)) : (w.setCell ⟨B, j, none⟩ x).heap[B]? = some (bv T (l.set j x)) ∧ Chg B w (w.setCell ⟨B, j, none⟩ x) := by
  have e : (w.setCell ⟨B, j, none⟩ x) = w.setRow B (l.set j x).toArray := by
    rw [setCell_eq_setRow w B j _ T (0, 0) _ h]; simp
  rw [e]
  exact ⟨setRow_heap w B _ _ T _ h, setRow_chg _ h⟩
/-- a row of numbers that is sorted in place -/
structure Sw (g : Nat) (w u : World) (l : List Int) : Prop where
  lies : u.heap[g]? = some (bv 3 (ivs l))
  chg : Chg g w u
section
variable {g : Nat} {w u : World} {l : List Int}
theorem Sw.refl (h : w.heap[g]? = some (bv 3 (ivs l))) : Sw g w w l := ⟨h, Chg.refl _ _⟩
theorem Sw.drew (h : Sw g w u l) : Sw g w u.drew l := ⟨h.lies, h.chg.drew⟩
theorem Sw.set (h : Sw g w u l) (j : Nat) (x : Int) : Sw g w (u.setCell ⟨g, j, none⟩ (.int .i64 x)) (l.set j x) := by
  have := set_bv (j := j) (x := .int .i64 x) h.lies
  rw [ivs_set] at this
  exact ⟨this.1, h.chg.trans this.2⟩
theorem Sw.cell (h : Sw g w u l) {j : Nat} (hj : j < l.length) : u.cell? ⟨g, j, none⟩ = some (.int .i64 (l.getD j 0)) := bv_cell h.lies (ivs_at (by rw [getD_at hj]; exact List.getElem?_eq_getElem hj))
theorem Sw.free (h : Sw g w u l) (j : Nat) : u.frozen? ⟨g, j, none⟩ = false := bv_free h.lies j
theorem Sw.then {v : World} {m : List Int} (h : Sw g w u l) (k : Sw g u v m) : Sw g w v m := ⟨k.lies, h.chg.trans k.chg⟩
theorem Sw.swap (h : Sw g w u l) (i j : Nat) : Sw g w ((u.setCell ⟨g, i, none⟩ (.int .i64 (l.getD j 0))).setCell ⟨g, j, none⟩ (.int .i64 (l.getD i 0))) (sw l i j) := (h.set i _).set j _
theorem Sw.pos (h : Sw g w u l) : g < u.heap.size := bx_lt h.lies
end
theorem take_snoc {l : List Int} {i : Nat} (h : i < l.length) : l.take (i + 1) = l.take i ++ [l.getD i 0] := by
  rw [getD_at h, List.take_succ_eq_append_getElem h]
theorem drop_cons {l : List Int} {i : Nat} (h : i < l.length) : l.drop i = l.getD i 0 :: l.drop (i + 1) := by
  rw [getD_at h, List.drop_eq_getElem_cons h]
/-- X and Z, of which i places are exchanged -/
def exch (A X Y Z B : List Int) (i : Nat) : List Int := A ++ (Z.take i ++ (X.drop i ++ (Y ++ (X.take i ++ (Z.drop i ++ B)))))
theorem exch_next {A X Y Z B : List Int} {i k : Nat} (hX : X.length = k) (hZ : Z.length = k) (hi : i < k) {p q : Nat} (hp : p = A.length + i) (hq : q = A.length + k + Y.length + i) : sw (exch A X Y Z B i) p q = exch A X Y Z B (i + 1) := by
  unfold exch
  rw [drop_cons (l := X) (i := i) (by omega), drop_cons (l := Z) (i := i) (by omega)]
  have := sw_gen (A ++ Z.take i) (X.drop (i + 1) ++ (Y ++ X.take i)) (Z.drop (i + 1) ++ B) (X.getD i 0) (Z.getD i 0) (i := p) (j := q) (by simp; omega) (by simp; omega)
  rw [take_snoc (l := X) (by omega), take_snoc (l := Z) (by omega)]
  simpa [List.append_assoc] using this
theorem exch_len (A X Y Z B : List Int) {i k : Nat} (hX : X.length = k) (hZ : Z.length = k) (hi : i ≤ k) : (exch A X Y Z B i).length = A.length + k + Y.length + k + B.length := by
  simp [exch]; omega
set_option maxHeartbeats 2000000 in
theorem swapRange_any (g : Nat) (A X Y Z B : List Int) (n k a b : Nat) (f : Value) (w : World) (hw : w.heap[g]? = some (bv 3 (ivs (A ++ (X ++ (Y ++ (Z ++ B))))))) (hX : X.length = k) (hZ : Z.length = k) (ha : A.length = a) (hb : A.length + k + Y.length = b) (hn : (A ++ (X ++ (Y ++ (Z ++ B)))).length = n) (hn2 : n ≤ 1000) :
    Calls Try.prog 29 #[.slice (some ⟨g, 0, none⟩) n n, .int .i64 (a : Int), .int .i64 (b : Int), .int .i64 (k : Int), f] w fun e u => e = .returned (.tuple #[]) ∧ Sw g w u (A ++ (Z ++ (Y ++ (X ++ B)))) := by
  have HS : Hid (∀ i, i ≤ k → (exch A X Y Z B i).length = n) := fun i hi => by rw [exch_len A X Y Z B hX hZ hi, ← hn]; simp; omega
  have hbn : b + k ≤ n := by rw [← hn, ← hb]; simp; omega
  have hab : a + k ≤ b := by omega
  have HN : Hid (∀ i, i < k → sw (exch A X Y Z B i) (a + i) (b + i) = exch A X Y Z B (i + 1)) := fun i hi => exch_next hX hZ hi (by omega) (by omega)
  have H0 : Hid (exch A X Y Z B 0 = A ++ (X ++ (Y ++ (Z ++ B)))) := by simp [Hid, exch]
  have HE : Hid (exch A X Y Z B k = A ++ (Z ++ (Y ++ (X ++ B)))) := by show _ = _; unfold exch; rw [List.take_of_length_le (by omega), List.drop_of_length_le (by omega), List.take_of_length_le (by omega), List.drop_of_length_le (by omega)]; simp
  have HW : Hid (Sw g w w (exch A X Y Z B 0)) := by show Sw _ _ _ _; rw [H0.out]; exact Sw.refl hw
  rw [← HE.out]
  obtain ⟨E, hE⟩ : ∃ E, exch A X Y Z B = E := ⟨_, rfl⟩
  rw [hE] at HS HN HW ⊢
  clear H0 HE hE hX hZ ha hb hn hw
  go_enter Try.func29, Try.ntmps29
  go_wp2
  go_loopw [10] (fun i wr => ∃ j : Nat, j ≤ k ∧ i = .int .i64 (j : Int) ∧ Hid (Sw g w wr (E j))) (fun i _ => k - (intOf i).toNat)
  case atStart => exact ⟨0, Nat.zero_le _, rfl, HW.out⟩
  case round =>
    obtain ⟨j, hj, rfl, HA⟩ := hrel
    by_cases hlt : ¬ j < k
    · have hjk : j = k := by omega
      have HQ : Hid (Sw g w wr (E k)) := by rw [hjk] at HA; exact HA
      clear HA HN HS HW
      go_wp2
      go_end0
      exact ⟨rfl, HQ.out⟩
    have hlt : j < k := by omega
    have hc1 := HA.out.cell (j := a + j) (by rw [HS.out j hj]; omega)
    have hc2 := HA.out.cell (j := b + j) (by rw [HS.out j hj]; omega)
    have hf1 := HA.out.free (a + j)
    have hf2 := HA.out.free (b + j)
    have HB : Hid (Sw g w ((wr.drew.setCell ⟨g, a + j, none⟩ (.int .i64 ((E j).getD (b + j) 0))).setCell ⟨g, b + j, none⟩ (.int .i64 ((E j).getD (a + j) 0))) (E (j + 1))) := by
      have := HA.out.drew.swap (a + j) (b + j)
      rw [HN.out j hlt] at this
      exact this
    obtain ⟨x, hx⟩ : ∃ x, (E j).getD (a + j) 0 = x := ⟨_, rfl⟩
    obtain ⟨y, hy⟩ : ∃ y, (E j).getD (b + j) 0 = y := ⟨_, rfl⟩
    rw [hx] at hc1 HB
    rw [hy] at hc2 HB
    clear HA HN HS HW hx hy
    go_wp2_with fail
    go_region
    go_wp2
    go_roundw
    case rel => exact ⟨j + 1, by omega, by go_num, HB.out⟩
    case measure => simp [intOf]; omega
end Go.Proofs.Ytcenaleladjakab.budget
